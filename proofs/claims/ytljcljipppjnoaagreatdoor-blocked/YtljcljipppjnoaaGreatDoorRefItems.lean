import Derived.Test.YtljcljipppjnoaaGreatDoorRefQuote
namespace Go.Proofs.YtljcljipppjnoaaGreatDoor
open Go.RowKit

theorem behind_ge (ls : List (List UInt8)) (n : Nat) : n ≤ behindS ls n := by unfold behindS; omega
theorem behind_le (ls : List (List UInt8)) (n : Nat) (h : n ≤ ls.length) : behindS ls n ≤ ls.length := by
  unfold behindS
  have := (List.takeWhile_sublist (l := ls.drop n) blankL).length_le
  rw [List.length_drop] at this
  omega

def two (l : List UInt8) : Bool := beginsS ⟨l.toArray⟩ ⟨#[32, 32]⟩
def itemL (l : List UInt8) : Bool := itemS ⟨l.toArray⟩

/-- What more of an item's lines stands from n on, and where it ends. -/
def moreAt (ls : List (List UInt8)) (n : Nat) : List (List UInt8) × Nat :=
  if h : behindS ls n < ls.length then
    if two ls[behindS ls n] = true then (List.replicate (behindS ls n - n) [] ++ ls[behindS ls n].drop 2 :: (moreAt ls (behindS ls n + 1)).1, (moreAt ls (behindS ls n + 1)).2)
    else ([], n)
  else ([], n)
termination_by ls.length - n
decreasing_by all_goals (have := behind_ge ls n; omega)

theorem more_go (ls : List (List UInt8)) (n k : Nat) (hk : behindS ls n = k) (h : k < ls.length) (h2 : two ls[k] = true) :
    moreAt ls n = (List.replicate (k - n) [] ++ ls[k].drop 2 :: (moreAt ls (k + 1)).1, (moreAt ls (k + 1)).2) := by
  subst hk
  rw [moreAt, dif_pos h, if_pos h2]
theorem more_no (ls : List (List UInt8)) (n k : Nat) (hk : behindS ls n = k) (h : k < ls.length) (h2 : two ls[k] = false) : moreAt ls n = ([], n) := by
  subst hk
  rw [moreAt, dif_pos h, if_neg (by simp [h2])]
theorem more_end (ls : List (List UInt8)) (n k : Nat) (hk : behindS ls n = k) (h : ¬ k < ls.length) : moreAt ls n = ([], n) := by
  subst hk
  rw [moreAt, dif_neg h]

theorem more_facts (ls : List (List UInt8)) (n : Nat) (hn : n ≤ ls.length) : n ≤ (moreAt ls n).2 ∧ (moreAt ls n).2 ≤ ls.length ∧ (moreAt ls n).1.length = (moreAt ls n).2 - n ∧ ∀ M, Small M ls → ∀ l ∈ (moreAt ls n).1, l.length ≤ M := by
  induction hm : ls.length - n using Nat.strongRecOn generalizing n with
  | _ m ih =>
    have hge := behind_ge ls n
    by_cases h : behindS ls n < ls.length
    · cases h2 : two ls[behindS ls n] with
      | true =>
        obtain ⟨a1, a2, a3, a4⟩ := ih (ls.length - (behindS ls n + 1)) (by omega) (behindS ls n + 1) (by omega) rfl
        rw [more_go ls n _ rfl h h2]
        refine ⟨by simp only; omega, a2, ?_, ?_⟩
        · simp only [List.length_append, List.length_replicate, List.length_cons, a3]
          omega
        · intro M hM l hl
          simp only [List.mem_append, List.mem_replicate, List.mem_cons] at hl
          rcases hl with ⟨_, rfl⟩ | rfl | hl
          · simp
          · have := hM.2 ls[behindS ls n] (List.getElem_mem h)
            rw [List.length_drop]
            omega
          · exact a4 M hM l hl
      | false =>
        rw [more_no ls n _ rfl h h2]
        exact ⟨Nat.le_refl _, hn, by simp, fun _ _ l hl => by cases hl⟩
    · rw [more_end ls n _ rfl h]
      exact ⟨Nat.le_refl _, hn, by simp, fun _ _ l hl => by cases hl⟩
theorem more_ge (ls : List (List UInt8)) (n : Nat) : n ≤ (moreAt ls n).2 := by
  by_cases hn : n ≤ ls.length
  · exact (more_facts ls n hn).1
  · have : ¬ behindS ls n < ls.length := by have := behind_ge ls n; omega
    rw [more_end ls n _ rfl this]
    exact Nat.le_refl _

/-- The lines of the item at n. -/
def itemIn (ls : List (List UInt8)) (n : Nat) : List (List UInt8) := (ls[n]?.getD []).drop 2 :: (moreAt ls (n + 1)).1
def itemEv (inner : List (List UInt8) → List Ev) (ls : List (List UInt8)) (n : Nat) : List Ev := [⟨4, false, 0, []⟩] ++ inner (itemIn ls n) ++ [⟨4, true, 0, []⟩]

/-- The items from n on, and where they end. -/
def itemsAt (inner : List (List UInt8) → List Ev) (ls : List (List UInt8)) (n : Nat) : List Ev × Nat :=
  if h : behindS ls (moreAt ls (n + 1)).2 < ls.length then
    if itemL ls[behindS ls (moreAt ls (n + 1)).2] = true then
      (itemEv inner ls n ++ (itemsAt inner ls (behindS ls (moreAt ls (n + 1)).2)).1, (itemsAt inner ls (behindS ls (moreAt ls (n + 1)).2)).2)
    else (itemEv inner ls n, (moreAt ls (n + 1)).2)
  else (itemEv inner ls n, (moreAt ls (n + 1)).2)
termination_by ls.length - n
decreasing_by all_goals (have := behind_ge ls (moreAt ls (n + 1)).2; have := more_ge ls (n + 1); omega)

theorem items_go (inner : List (List UInt8) → List Ev) (ls : List (List UInt8)) (n k : Nat) (hk : behindS ls (moreAt ls (n + 1)).2 = k) (h : k < ls.length) (h2 : itemL ls[k] = true) :
    itemsAt inner ls n = (itemEv inner ls n ++ (itemsAt inner ls k).1, (itemsAt inner ls k).2) := by
  subst hk
  rw [itemsAt, dif_pos h, if_pos h2]
theorem items_no (inner : List (List UInt8) → List Ev) (ls : List (List UInt8)) (n k : Nat) (hk : behindS ls (moreAt ls (n + 1)).2 = k) (h : k < ls.length) (h2 : itemL ls[k] = false) :
    itemsAt inner ls n = (itemEv inner ls n, (moreAt ls (n + 1)).2) := by
  subst hk
  rw [itemsAt, dif_pos h, if_neg (by simp [h2])]
theorem items_end (inner : List (List UInt8) → List Ev) (ls : List (List UInt8)) (n k : Nat) (hk : behindS ls (moreAt ls (n + 1)).2 = k) (h : ¬ k < ls.length) :
    itemsAt inner ls n = (itemEv inner ls n, (moreAt ls (n + 1)).2) := by
  subst hk
  rw [itemsAt, dif_neg h]

theorem item_small (ls : List (List UInt8)) (n : Nat) (hn : n < ls.length) (M : Nat) (hM : Small M ls) : Small M (itemIn ls n) ∧ (itemIn ls n).length = (moreAt ls (n + 1)).2 - n := by
  obtain ⟨a1, a2, a3, a4⟩ := more_facts ls (n + 1) (by omega)
  have hl : (itemIn ls n).length = (moreAt ls (n + 1)).2 - n := by
    rw [itemIn, List.length_cons, a3]
    omega
  refine ⟨⟨by have := hM.1; omega, ?_⟩, hl⟩
  intro l hl
  rw [itemIn, List.mem_cons] at hl
  rcases hl with rfl | hl
  · rw [List.getElem?_eq_getElem hn, Option.getD_some, List.length_drop]
    have := hM.2 ls[n] (List.getElem_mem hn)
    omega
  · exact a4 M hM l hl

theorem items_facts (inner : List (List UInt8) → List Ev) (c : Nat) (hI : ∀ ls, (inner ls).length ≤ c * ls.length) (ls : List (List UInt8)) (n : Nat) (hn : n < ls.length) :
    n < (itemsAt inner ls n).2 ∧ (itemsAt inner ls n).2 ≤ ls.length ∧ (itemsAt inner ls n).1.length ≤ (c + 2) * ((itemsAt inner ls n).2 - n) := by
  induction hm : ls.length - n using Nat.strongRecOn generalizing n with
  | _ m ih =>
    obtain ⟨a1, a2, a3, _⟩ := more_facts ls (n + 1) (by omega)
    have hev : (itemEv inner ls n).length ≤ (c + 2) * ((moreAt ls (n + 1)).2 - n) := by
      have h1 := hI (itemIn ls n)
      have h2 : (itemIn ls n).length = (moreAt ls (n + 1)).2 - n := by rw [itemIn, List.length_cons, a3]; omega
      rw [h2] at h1
      rw [Nat.add_mul]
      simp only [itemEv, List.length_append, List.length_singleton]
      omega
    have hge := behind_ge ls (moreAt ls (n + 1)).2
    by_cases h : behindS ls (moreAt ls (n + 1)).2 < ls.length
    · cases h2 : itemL ls[behindS ls (moreAt ls (n + 1)).2] with
      | true =>
        obtain ⟨b1, b2, b3⟩ := ih (ls.length - behindS ls (moreAt ls (n + 1)).2) (by omega) (behindS ls (moreAt ls (n + 1)).2) h rfl
        rw [items_go inner ls n _ rfl h h2]
        refine ⟨by simp only; omega, b2, ?_⟩
        simp only [List.length_append]
        generalize hx : itemsAt inner ls (behindS ls (moreAt ls (n + 1)).2) = X at b1 b2 b3
        have h3 : (c + 2) * ((moreAt ls (n + 1)).2 - n) + (c + 2) * (X.2 - behindS ls (moreAt ls (n + 1)).2) ≤ (c + 2) * (X.2 - n) := by
          rw [← Nat.mul_add]
          exact Nat.mul_le_mul_left _ (by omega)
        omega
      | false =>
        rw [items_no inner ls n _ rfl h h2]
        exact ⟨by simp only; omega, a2, hev⟩
    · rw [items_end inner ls n _ rfl h]
      exact ⟨by simp only; omega, a2, hev⟩

def listS (inner : List (List UInt8) → List Ev) (ls : List (List UInt8)) : List Ev := [⟨3, false, 0, []⟩] ++ (itemsAt inner ls 0).1 ++ [⟨3, true, 0, []⟩]
def listN (inner : List (List UInt8) → List Ev) (ls : List (List UInt8)) : Nat := (itemsAt inner ls 0).2

end Go.Proofs.YtljcljipppjnoaaGreatDoor
