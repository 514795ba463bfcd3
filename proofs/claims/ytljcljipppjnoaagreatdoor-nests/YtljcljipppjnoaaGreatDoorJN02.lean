import Derived.Test.YtljcljipppjnoaaGreatDoorJN01
import Derived.Deep.AppendSrc
import Derived.Lib.SmallJoins
namespace Go.Proofs.YtljcljipppjnoaaGreatDoor
open Go.RowKit
def LinesV (v : Value) (ls : List (List UInt8)) (w : World) : Prop :=
  (ls = [] ∧ v = .slice none 0 0) ∨ ∃ g o cap, v = .slice (some ⟨g, o, none⟩) ls.length cap ∧ Strs g o cap ls w
theorem lines_own {w : World} {base : Nat} {t : TypeId} {v : Value} {ls : List (List UInt8)} (h : w.ownsRow base t 1 v ls.length (strCs ls)) : LinesV v ls w := by
  rcases h.2 with ⟨hv, h0⟩ | ⟨g, cap, cur, hv, hb, hg, hnc, hcm, hcs, ht⟩
  · exact Or.inl ⟨List.eq_nil_of_length_eq_zero h0, hv⟩
  · refine Or.inr ⟨g, 0, cap, hv, hnc, by simp only [maxLen] at hcm; omega, ?_, ?_⟩
    · rcases Nat.lt_or_ge g w.heap.size with hlt | hge
      · exact hlt
      · rw [Array.getElem?_eq_none hge] at hg; cases hg
    · intro j l hj
      have hc := h.cells (g := g) (by rw [hv]; rfl) j (.string ⟨l.toArray⟩) (by simp [strCs, hj])
      rw [Addr.add_lit] at hc
      exact hc
theorem Strs.drop {g o cap : Nat} {ls : List (List UInt8)} {w : World} (h : Strs g o cap ls w) (n : Nat) (hn : n ≤ ls.length) : Strs g (o + n) (cap - n) (ls.drop n) w := by
  have hf := h.fits
  have hm := h.max
  refine ⟨by rw [List.length_drop]; omega, by omega, h.lt, ?_⟩
  intro j l hj
  rw [List.getElem?_drop] at hj
  have := h.cell (n + j) l hj
  rw [← Nat.add_assoc] at this
  exact this
theorem Small.drop {M : Nat} {ls : List (List UInt8)} (h : Small M ls) (n : Nat) : Small M (ls.drop n) :=
  ⟨by have := h.1; rw [List.length_drop]; omega, fun l hl => h.2 l (List.mem_of_mem_drop hl)⟩
end Go.Proofs.YtljcljipppjnoaaGreatDoor

namespace Go.Proofs.YtljcljipppjnoaaGreatDoor
open Go.RowKit
def scan (p : List UInt8 → Bool) (ls : List (List UInt8)) (n : Nat) : Nat := n + ((ls.drop n).takeWhile p).length
theorem scan_lt (p : List UInt8 → Bool) (ls : List (List UInt8)) (n : Nat) (h : n < ls.length) (hb : p ls[n] = true) : scan p ls n = scan p ls (n + 1) := by
  unfold scan
  rw [List.drop_eq_getElem_cons h, List.takeWhile_cons, if_pos hb]
  simp
  omega
theorem scan_at (p : List UInt8 → Bool) (ls : List (List UInt8)) (n : Nat) (h : n < ls.length) (hb : p ls[n] = false) : scan p ls n = n := by
  unfold scan
  rw [List.drop_eq_getElem_cons h, List.takeWhile_cons, if_neg (by simp [hb])]
  rfl
theorem scan_end (p : List UInt8 → Bool) (ls : List (List UInt8)) (n : Nat) (h : n = ls.length) : scan p ls n = n := by
  unfold scan
  rw [List.drop_eq_nil_iff.2 (by omega)]
  rfl
def isQ : List UInt8 → Bool
  | [] => false
  | c :: _ => c == 62
def unq1 : List UInt8 → List UInt8
  | [] => []
  | c :: r => if c == 32 then r else c :: r
def unq (l : List UInt8) : List UInt8 := unq1 (l.drop 1)
def quoteN (ls : List (List UInt8)) : Nat := scan isQ ls 0
def quoteIn (ls : List (List UInt8)) : List (List UInt8) := (ls.take (quoteN ls)).map unq
def quoteS (inner : List (List UInt8) → List Ev) (ls : List (List UInt8)) : List Ev := [⟨2, false, 0, []⟩] ++ inner (quoteIn ls) ++ [⟨2, true, 0, []⟩]
def BlocksC (d : Int) (inner : List (List UInt8) → List Ev) : Prop :=
  ∀ (v : Value) (ls : List (List UInt8)) (w : World), LinesV v ls w → Small 1073741824 ls → Calls Tryz.prog 15 #[v, .int .i64 d] w fun e w' => ∃ v', e = .returned v' ∧ w'.ownsRow w.heap.size 83 4 v' (inner ls).length (evCs (inner ls)) ∧ Below w.heap.size w w'
theorem own_below {w w' : World} {base B size n : Nat} {e : TypeId} {v : Value} {xs : List Value} (h : w.ownsRow base e size v n xs) (hb : Below B w w') (hB : w.heap.size ≤ B) : w'.ownsRow base e size v n xs := by
  refine ⟨h.1, ?_⟩
  rcases h.2 with h0 | ⟨g, cap, cur, hv, hg, hh, r⟩
  · exact Or.inl h0
  · refine Or.inr ⟨g, cap, cur, hv, hg, ?_, r⟩
    rw [hb.block g, hh]
    have : g < w.heap.size := by
      rcases Nat.lt_or_ge g w.heap.size with hlt | hge
      · exact hlt
      · rw [Array.getElem?_eq_none hge] at hh; cases hh
    omega
theorem unq_le (l : List UInt8) : (unq l).length ≤ l.length := by
  unfold unq
  have h : (l.drop 1).length ≤ l.length := by rw [List.length_drop]; omega
  cases hd : l.drop 1 with
  | nil => simp [unq1]
  | cons c r =>
    rw [hd, List.length_cons] at h
    simp only [unq1]
    split
    · omega
    · simp only [List.length_cons]; omega
theorem quote_len (inner : List (List UInt8) → List Ev) (ls : List (List UInt8)) : (quoteS inner ls).length = 1 + (inner (quoteIn ls)).length + 1 := by
  simp [quoteS]; omega
end Go.Proofs.YtljcljipppjnoaaGreatDoor

namespace Go.Proofs.YtljcljipppjnoaaGreatDoor
open Go.RowKit
theorem behind_ge (ls : List (List UInt8)) (n : Nat) : n ≤ behindS ls n := by unfold behindS; omega
theorem behind_le (ls : List (List UInt8)) (n : Nat) (h : n ≤ ls.length) : behindS ls n ≤ ls.length := by
  unfold behindS
  have := (List.takeWhile_sublist (l := ls.drop n) blankL).length_le
  rw [List.length_drop] at this
  omega
def two (l : List UInt8) : Bool := beginsS ⟨l.toArray⟩ ⟨#[32, 32]⟩
def itemL (l : List UInt8) : Bool := itemS ⟨l.toArray⟩
def moreAt (ls : List (List UInt8)) (n : Nat) : List (List UInt8) × Nat :=
  if h : behindS ls n < ls.length then
    if two ls[behindS ls n] = true then (List.replicate (behindS ls n - n) [] ++ ls[behindS ls n].drop 2 :: (moreAt ls (behindS ls n + 1)).1, (moreAt ls (behindS ls n + 1)).2)
    else ([], n)
  else ([], n)
termination_by ls.length - n
decreasing_by all_goals (have := behind_ge ls n; omega)
theorem more_go (ls : List (List UInt8)) (n k : Nat) (hk : behindS ls n = k) (h : k < ls.length) (h2 : two ls[k] = true) :
    moreAt ls n = (List.replicate (k - n) [] ++ ls[k].drop 2 :: (moreAt ls (k + 1)).1, (moreAt ls (k + 1)).2) := by
  subst hk
  rw [moreAt, dif_pos h, if_pos h2]
theorem more_no (ls : List (List UInt8)) (n k : Nat) (hk : behindS ls n = k) (h : k < ls.length) (h2 : two ls[k] = false) : moreAt ls n = ([], n) := by
  subst hk
  rw [moreAt, dif_pos h, if_neg (by simp [h2])]
theorem more_end (ls : List (List UInt8)) (n k : Nat) (hk : behindS ls n = k) (h : ¬ k < ls.length) : moreAt ls n = ([], n) := by
  subst hk
  rw [moreAt, dif_neg h]
theorem more_facts (ls : List (List UInt8)) (n : Nat) (hn : n ≤ ls.length) : n ≤ (moreAt ls n).2 ∧ (moreAt ls n).2 ≤ ls.length ∧ (moreAt ls n).1.length = (moreAt ls n).2 - n ∧ ∀ M, Small M ls → ∀ l ∈ (moreAt ls n).1, l.length ≤ M := by
  induction hm : ls.length - n using Nat.strongRecOn generalizing n with
  | _ m ih =>
    have hge := behind_ge ls n
    by_cases h : behindS ls n < ls.length
    · cases h2 : two ls[behindS ls n] with
      | true =>
        obtain ⟨a1, a2, a3, a4⟩ := ih (ls.length - (behindS ls n + 1)) (by omega) (behindS ls n + 1) (by omega) rfl
        rw [more_go ls n _ rfl h h2]
        refine ⟨by simp only; omega, a2, ?_, ?_⟩
        · simp only [List.length_append, List.length_replicate, List.length_cons, a3]
          omega
        · intro M hM l hl
          simp only [List.mem_append, List.mem_replicate, List.mem_cons] at hl
          rcases hl with ⟨_, rfl⟩ | rfl | hl
          · simp
          · have := hM.2 ls[behindS ls n] (List.getElem_mem h)
            rw [List.length_drop]
            omega
          · exact a4 M hM l hl
      | false =>
        rw [more_no ls n _ rfl h h2]
        exact ⟨Nat.le_refl _, hn, by simp, fun _ _ l hl => by cases hl⟩
    · rw [more_end ls n _ rfl h]
      exact ⟨Nat.le_refl _, hn, by simp, fun _ _ l hl => by cases hl⟩
theorem more_ge (ls : List (List UInt8)) (n : Nat) : n ≤ (moreAt ls n).2 := by
  by_cases hn : n ≤ ls.length
  · exact (more_facts ls n hn).1
  · have : ¬ behindS ls n < ls.length := by have := behind_ge ls n; omega
    rw [more_end ls n _ rfl this]
    exact Nat.le_refl _
def itemIn (ls : List (List UInt8)) (n : Nat) : List (List UInt8) := (ls[n]?.getD []).drop 2 :: (moreAt ls (n + 1)).1
def itemEv (inner : List (List UInt8) → List Ev) (ls : List (List UInt8)) (n : Nat) : List Ev := [⟨4, false, 0, []⟩] ++ inner (itemIn ls n) ++ [⟨4, true, 0, []⟩]
def itemsAt (inner : List (List UInt8) → List Ev) (ls : List (List UInt8)) (n : Nat) : List Ev × Nat :=
  if h : behindS ls (moreAt ls (n + 1)).2 < ls.length then
    if itemL ls[behindS ls (moreAt ls (n + 1)).2] = true then
      (itemEv inner ls n ++ (itemsAt inner ls (behindS ls (moreAt ls (n + 1)).2)).1, (itemsAt inner ls (behindS ls (moreAt ls (n + 1)).2)).2)
    else (itemEv inner ls n, (moreAt ls (n + 1)).2)
  else (itemEv inner ls n, (moreAt ls (n + 1)).2)
termination_by ls.length - n
decreasing_by all_goals (have := behind_ge ls (moreAt ls (n + 1)).2; have := more_ge ls (n + 1); omega)
theorem items_go (inner : List (List UInt8) → List Ev) (ls : List (List UInt8)) (n k : Nat) (hk : behindS ls (moreAt ls (n + 1)).2 = k) (h : k < ls.length) (h2 : itemL ls[k] = true) :
    itemsAt inner ls n = (itemEv inner ls n ++ (itemsAt inner ls k).1, (itemsAt inner ls k).2) := by
  subst hk
  rw [itemsAt, dif_pos h, if_pos h2]
theorem items_no (inner : List (List UInt8) → List Ev) (ls : List (List UInt8)) (n k : Nat) (hk : behindS ls (moreAt ls (n + 1)).2 = k) (h : k < ls.length) (h2 : itemL ls[k] = false) :
    itemsAt inner ls n = (itemEv inner ls n, (moreAt ls (n + 1)).2) := by
  subst hk
  rw [itemsAt, dif_pos h, if_neg (by simp [h2])]
theorem items_end (inner : List (List UInt8) → List Ev) (ls : List (List UInt8)) (n k : Nat) (hk : behindS ls (moreAt ls (n + 1)).2 = k) (h : ¬ k < ls.length) :
    itemsAt inner ls n = (itemEv inner ls n, (moreAt ls (n + 1)).2) := by
  subst hk
  rw [itemsAt, dif_neg h]
theorem item_small (ls : List (List UInt8)) (n : Nat) (hn : n < ls.length) (M : Nat) (hM : Small M ls) : Small M (itemIn ls n) ∧ (itemIn ls n).length = (moreAt ls (n + 1)).2 - n := by
  obtain ⟨a1, a2, a3, a4⟩ := more_facts ls (n + 1) (by omega)
  have hl : (itemIn ls n).length = (moreAt ls (n + 1)).2 - n := by
    rw [itemIn, List.length_cons, a3]
    omega
  refine ⟨⟨by have := hM.1; omega, ?_⟩, hl⟩
  intro l hl
  rw [itemIn, List.mem_cons] at hl
  rcases hl with rfl | hl
  · rw [List.getElem?_eq_getElem hn, Option.getD_some, List.length_drop]
    have := hM.2 ls[n] (List.getElem_mem hn)
    omega
  · exact a4 M hM l hl
theorem items_facts (inner : List (List UInt8) → List Ev) (c : Nat) (hI : ∀ ls, (inner ls).length ≤ c * ls.length) (ls : List (List UInt8)) (n : Nat) (hn : n < ls.length) :
    n < (itemsAt inner ls n).2 ∧ (itemsAt inner ls n).2 ≤ ls.length ∧ (itemsAt inner ls n).1.length ≤ (c + 2) * ((itemsAt inner ls n).2 - n) := by
  induction hm : ls.length - n using Nat.strongRecOn generalizing n with
  | _ m ih =>
    obtain ⟨a1, a2, a3, _⟩ := more_facts ls (n + 1) (by omega)
    have hev : (itemEv inner ls n).length ≤ (c + 2) * ((moreAt ls (n + 1)).2 - n) := by
      have h1 := hI (itemIn ls n)
      have h2 : (itemIn ls n).length = (moreAt ls (n + 1)).2 - n := by rw [itemIn, List.length_cons, a3]; omega
      rw [h2] at h1
      rw [Nat.add_mul]
      simp only [itemEv, List.length_append, List.length_singleton]
      omega
    have hge := behind_ge ls (moreAt ls (n + 1)).2
    by_cases h : behindS ls (moreAt ls (n + 1)).2 < ls.length
    · cases h2 : itemL ls[behindS ls (moreAt ls (n + 1)).2] with
      | true =>
        obtain ⟨b1, b2, b3⟩ := ih (ls.length - behindS ls (moreAt ls (n + 1)).2) (by omega) (behindS ls (moreAt ls (n + 1)).2) h rfl
        rw [items_go inner ls n _ rfl h h2]
        refine ⟨by simp only; omega, b2, ?_⟩
        simp only [List.length_append]
        generalize hx : itemsAt inner ls (behindS ls (moreAt ls (n + 1)).2) = X at b1 b2 b3
        have h3 : (c + 2) * ((moreAt ls (n + 1)).2 - n) + (c + 2) * (X.2 - behindS ls (moreAt ls (n + 1)).2) ≤ (c + 2) * (X.2 - n) := by
          rw [← Nat.mul_add]
          exact Nat.mul_le_mul_left _ (by omega)
        omega
      | false =>
        rw [items_no inner ls n _ rfl h h2]
        exact ⟨by simp only; omega, a2, hev⟩
    · rw [items_end inner ls n _ rfl h]
      exact ⟨by simp only; omega, a2, hev⟩
def listS (inner : List (List UInt8) → List Ev) (ls : List (List UInt8)) : List Ev := [⟨3, false, 0, []⟩] ++ (itemsAt inner ls 0).1 ++ [⟨3, true, 0, []⟩]
def listN (inner : List (List UInt8) → List Ev) (ls : List (List UInt8)) : Nat := (itemsAt inner ls 0).2
end Go.Proofs.YtljcljipppjnoaaGreatDoor
