import Derived.Test.YtljcljipppjnoaaGreatDoorRefList
namespace Go.Proofs.YtljcljipppjnoaaGreatDoor
open Go.RowKit

def levelL (l : List UInt8) : Nat := levelS ⟨l.toArray⟩
/-- What begins with the first line: its events, and how many lines it takes. -/
def stepS (inner : List (List UInt8) → List Ev) (depth : Int) (l : List UInt8) (ls : List (List UInt8)) : List Ev × Nat :=
  if startsS ⟨l.toArray⟩ depth = 2 then (leafS 5 0 (fencedT ls), fencedN ls)
  else if startsS ⟨l.toArray⟩ depth = 3 then (leafS 1 (levelL l) (trimL (l.drop (levelL l))), 1)
  else if startsS ⟨l.toArray⟩ depth = 4 then (quoteS inner ls, quoteN ls)
  else if startsS ⟨l.toArray⟩ depth = 5 then (listS inner ls, listN inner ls)
  else (leafS 0 0 (joinT (ls.take (paraFrom ls depth 1))), paraFrom ls depth 1)

/-- The blocks of some lines, at a depth. -/
def blocksF (inner : List (List UInt8) → List Ev) (depth : Int) : List (List UInt8) → List Ev
  | [] => []
  | l :: r => if blankL l = true then blocksF inner depth r else (stepS inner depth l (l :: r)).1 ++ blocksF inner depth (r.drop ((stepS inner depth l (l :: r)).2 - 1))
termination_by ls => ls.length
decreasing_by
  · simp
  · simp only [List.length_drop, List.length_cons]; omega

def blocksAt : Nat → List (List UInt8) → List Ev
  | 0 => blocksF (fun _ => []) 3
  | d + 1 => blocksF (blocksAt d) (2 - (d : Int))

theorem leaf_le (k l : Int) (t : List UInt8) : (leafS k l t).length ≤ 3 := by
  unfold leafS
  split <;> simp

theorem begins_q (l : List UInt8) (h : beginsS ⟨l.toArray⟩ ⟨#[62]⟩ = true) : isQ l = true := by
  cases l with
  | nil => exact absurd h (by decide)
  | cons c r =>
    simp only [beginsS, List.isPrefixOf, Bool.and_true] at h
    simp only [isQ]
    simp at h
    simp [h]

theorem starts4 (s : ByteArray) (d : Int) (h : startsS s d = 4) : beginsS s ⟨#[62]⟩ = true ∧ d < 3 := by
  unfold startsS at h
  split at h
  · omega
  split at h
  · omega
  split at h
  · assumption
  split at h <;> omega
theorem starts5 (s : ByteArray) (d : Int) (h : startsS s d = 5) : itemS s = true ∧ d < 3 := by
  unfold startsS at h
  split at h
  · omega
  split at h
  · omega
  split at h
  · omega
  split at h
  · assumption
  · omega
theorem starts3 (s : ByteArray) (d : Int) (h : startsS s d = 3) : 0 < levelS s := by
  unfold startsS at h
  split at h
  · omega
  split at h
  · assumption
  split at h
  · omega
  split at h <;> omega

theorem scan_le (p : List UInt8 → Bool) (ls : List (List UInt8)) (n : Nat) (h : n ≤ ls.length) : scan p ls n ≤ ls.length ∧ n ≤ scan p ls n := by
  unfold scan
  have := (List.takeWhile_sublist (l := ls.drop n) p).length_le
  rw [List.length_drop] at this
  omega

theorem step_facts (inner : List (List UInt8) → List Ev) (c : Nat) (depth : Int) (hI : ∀ ls, (inner ls).length ≤ c * ls.length) (l : List UInt8) (r : List (List UInt8)) :
    1 ≤ (stepS inner depth l (l :: r)).2 ∧ (stepS inner depth l (l :: r)).2 ≤ (l :: r).length ∧ (stepS inner depth l (l :: r)).1.length ≤ (c + 4) * (stepS inner depth l (l :: r)).2 := by
  have h3 : ∀ (n : Nat) (k v : Int) (t : List UInt8), 1 ≤ n → (leafS k v t).length ≤ (c + 4) * n := by
    intro n k v t hn
    have h1 := leaf_le k v t
    have h2 : (c + 4) * 1 ≤ (c + 4) * n := Nat.mul_le_mul_left _ hn
    omega
  have hlen : 1 ≤ (l :: r).length := by simp
  unfold stepS
  split
  · have hs := scan_le (fun l => !shuts l) (l :: r) 1 hlen
    have he : shutAt (l :: r) 1 = scan (fun l => !shuts l) (l :: r) 1 := rfl
    have hN : 1 ≤ fencedN (l :: r) ∧ fencedN (l :: r) ≤ (l :: r).length := by
      unfold fencedN
      split <;> omega
    exact ⟨hN.1, hN.2, h3 _ _ _ _ hN.1⟩
  split
  · exact ⟨Nat.le_refl _, hlen, h3 _ _ _ _ (Nat.le_refl _)⟩
  split
  · next h4 =>
    have hq := begins_q l (starts4 _ _ h4).1
    have hs := scan_le isQ (l :: r) 1 hlen
    have he : quoteN (l :: r) = scan isQ (l :: r) 1 := scan_lt isQ (l :: r) 0 (by simp) hq
    refine ⟨by simp only; omega, by simp only; omega, ?_⟩
    simp only
    rw [quote_len]
    have h1 := hI (quoteIn (l :: r))
    have h2 : (quoteIn (l :: r)).length = quoteN (l :: r) := by rw [quoteIn, List.length_map, List.length_take]; omega
    rw [h2] at h1
    rw [Nat.add_mul]
    omega
  split
  · obtain ⟨a1, a2, a3⟩ := items_facts inner c hI (l :: r) 0 (by simp)
    refine ⟨a1, a2, ?_⟩
    simp only [listS, listN, List.length_append, List.length_singleton]
    rw [Nat.sub_zero] at a3
    rw [Nat.add_mul] at a3 ⊢
    omega
  · have hs := scan_le (stays depth) (l :: r) 1 hlen
    have he : paraFrom (l :: r) depth 1 = scan (stays depth) (l :: r) 1 := rfl
    exact ⟨by simp only; omega, by simp only; omega, h3 _ _ _ _ (by omega)⟩

theorem blocks_le (inner : List (List UInt8) → List Ev) (c : Nat) (depth : Int) (hI : ∀ ls, (inner ls).length ≤ c * ls.length) (ls : List (List UInt8)) : (blocksF inner depth ls).length ≤ (c + 4) * ls.length := by
  induction hm : ls.length using Nat.strongRecOn generalizing ls with
  | _ m ih =>
    cases ls with
    | nil => simp [blocksF]
    | cons l r =>
      rw [blocksF]
      rw [List.length_cons] at hm
      split
      · have := ih r.length (by omega) r rfl
        have h2 : (c + 4) * r.length ≤ (c + 4) * m := Nat.mul_le_mul_left _ (by omega)
        omega
      · obtain ⟨a1, a2, a3⟩ := step_facts inner c depth hI l r
        generalize stepS inner depth l (l :: r) = X at a1 a2 a3
        rw [List.length_cons] at a2
        have := ih (r.drop (X.2 - 1)).length (by rw [List.length_drop]; omega) _ rfl
        rw [List.length_drop] at this
        have h2 : (c + 4) * X.2 + (c + 4) * (r.length - (X.2 - 1)) ≤ (c + 4) * m := by
          rw [← Nat.mul_add]
          exact Nat.mul_le_mul_left _ (by omega)
        rw [List.length_append]
        omega

theorem blocksAt_le (d : Nat) (ls : List (List UInt8)) : (blocksAt d ls).length ≤ (4 * (d + 1)) * ls.length := by
  induction d generalizing ls with
  | zero => simpa [blocksAt] using blocks_le (fun _ => []) 0 3 (by simp) ls
  | succ d ih =>
    have := blocks_le (blocksAt d) (4 * (d + 1)) (2 - (d : Int)) ih ls
    rw [blocksAt]
    rw [show 4 * (d + 1 + 1) = 4 * (d + 1) + 4 by omega]
    exact this

end Go.Proofs.YtljcljipppjnoaaGreatDoor
