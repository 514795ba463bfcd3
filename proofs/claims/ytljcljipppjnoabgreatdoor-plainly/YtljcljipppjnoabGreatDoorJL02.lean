import Derived.Test.YtljcljipppjnoabGreatDoorJL01
import Derived.OneCell
import Derived.Deep.DeepCutAuto
namespace Go.Proofs.YtljcljipppjnoabGreatDoor
open Go.RowKit
theorem evCs_at (evs : List Ev) (k : Nat) (e : Ev) (h : evs[k]? = some e) : (evCs evs)[k * 4]? = some (.int .i64 e.kind) ∧ (evCs evs)[k * 4 + 1]? = some (.bool e.fin) ∧ (evCs evs)[k * 4 + 2]? = some (.int .i64 e.level) ∧ (evCs evs)[k * 4 + 3]? = some (.string ⟨e.text.toArray⟩) := by
  induction evs generalizing k with
  | nil => simp at h
  | cons x r ih =>
    have e0 : evCs (x :: r) = evCells x ++ evCs r := by simp [evCs]
    have el : (evCells x).length = 4 := rfl
    rw [e0]
    cases k with
    | zero =>
      simp at h
      subst h
      exact ⟨rfl, rfl, rfl, rfl⟩
    | succ k =>
      simp only [List.getElem?_cons_succ] at h
      obtain ⟨h1, h2, h3, h4⟩ := ih k h
      refine ⟨?_, ?_, ?_, ?_⟩
      · rw [List.getElem?_append_right (by omega), el, show (k + 1) * 4 - 4 = k * 4 by omega]; exact h1
      · rw [List.getElem?_append_right (by omega), el, show (k + 1) * 4 + 1 - 4 = k * 4 + 1 by omega]; exact h2
      · rw [List.getElem?_append_right (by omega), el, show (k + 1) * 4 + 2 - 4 = k * 4 + 2 by omega]; exact h3
      · rw [List.getElem?_append_right (by omega), el, show (k + 1) * 4 + 3 - 4 = k * 4 + 3 by omega]; exact h4
theorem set_row {w : World} {g i : Nat} {cur : Array Value} {t : TypeId} {v : Value} (h : w.heap[g]? = some (.cells cur t (0, 0))) : (w.setCell ⟨g, i, none⟩ v).heap[g]? = some (.cells (cur.setIfInBounds i v) t (0, 0)) := by
  have hlt := lt_of_block h
  have h' : w.heap[g] = .cells cur t (0, 0) := by simpa [Array.getElem?_eq_getElem hlt] using h
  show (w.heap.modify g _)[g]? = _
  rw [Array.getElem?_eq_getElem (by simpa using hlt)]
  simp only [Array.getElem_modify, if_true]
  rw [h']
  rfl
theorem row_cell {w : World} {g i : Nat} {cur : Array Value} {t : TypeId} {v : Value} (h : w.heap[g]? = some (.cells cur t (0, 0))) (hv : cur[i]? = some v) : w.cell? ⟨g, i, none⟩ = some v := by
  simp [World.cell?, h, hv]
theorem row_free {w : World} {g i : Nat} {cur : Array Value} {t : TypeId} (h : w.heap[g]? = some (.cells cur t (0, 0))) : w.frozen? ⟨g, i, none⟩ = false := by
  simp [World.frozen?, h]
end Go.Proofs.YtljcljipppjnoabGreatDoor

namespace Go.Proofs.YtljcljipppjnoabGreatDoor
open Go.RowKit
def signN (n : Nat) : Bool := (decide (33 ≤ n) && decide (n ≤ 47)) || (decide (58 ≤ n) && decide (n ≤ 64)) || (decide (91 ≤ n) && decide (n ≤ 96)) || (decide (123 ≤ n) && decide (n ≤ 126))
def signS (c : UInt8) : Bool := signN c.toNat
def nextAt (l : List UInt8) (c : UInt8) (k : Nat) : Nat := k + ((l.drop k).takeWhile fun x => !(x == c)).length
def foundZ (l : List UInt8) (c : UInt8) (k : Nat) : Int := if nextAt l c k < l.length then (nextAt l c k : Int) else -1
def spacedL (l : List UInt8) : List UInt8 := l.map fun c => if c = 10 then 32 else c
theorem next_ge (l : List UInt8) (c : UInt8) (k : Nat) : k ≤ nextAt l c k := by unfold nextAt; omega
theorem next_lt (l : List UInt8) (c : UInt8) (n : Nat) (h : n < l.length) (hb : (l[n] == c) = false) : nextAt l c n = nextAt l c (n + 1) := by
  unfold nextAt
  rw [List.drop_eq_getElem_cons h, List.takeWhile_cons, if_pos (by simp [hb])]
  simp
  omega
theorem ba_len (s : ByteArray) : s.data.toList.length = s.size := by rw [Array.length_toList]; rfl
end Go.Proofs.YtljcljipppjnoabGreatDoor

namespace Go.Proofs.YtljcljipppjnoabGreatDoor
open Go.RowKit
def addS (evs : List Ev) (t : List UInt8) : List Ev :=
  match evs.getLast? with
  | some e => if e.kind = 8 then evs.dropLast ++ [⟨e.kind, e.fin, e.level, e.text ++ t⟩] else evs ++ [⟨8, false, 0, t⟩]
  | none => evs ++ [⟨8, false, 0, t⟩]
theorem add_last (pre : List Ev) (e : Ev) (t : List UInt8) : addS (pre ++ [e]) t = if e.kind = 8 then pre ++ [⟨e.kind, e.fin, e.level, e.text ++ t⟩] else pre ++ [e] ++ [⟨8, false, 0, t⟩] := by
  simp [addS]
theorem add_nil (t : List UInt8) : addS [] t = [⟨8, false, 0, t⟩] := rfl
end Go.Proofs.YtljcljipppjnoabGreatDoor

namespace Go.Proofs.YtljcljipppjnoabGreatDoor
open Go.RowKit
def endsL (c : UInt8) : Bool := c == 41 || c == 32 || c == 9 || c == 10 || c == 40
def stopAt (l : List UInt8) (k : Nat) : Nat := k + ((l.drop k).takeWhile fun x => !endsL x).length
theorem stop_ge (l : List UInt8) (n : Nat) : n ≤ stopAt l n := by unfold stopAt; omega
def linkS (l : List UInt8) (i : Nat) : Option (Nat × Nat) :=
  if nextAt l 93 i < l.length ∧ ¬ nextAt l 91 (i + 1) < nextAt l 93 i ∧ l[nextAt l 93 i + 1]? = some 40 ∧ l[stopAt l (nextAt l 93 i + 2)]? = some 41 then some (nextAt l 93 i, stopAt l (nextAt l 93 i + 2)) else none
def linkV : Option (Nat × Nat) → Value
  | some x => .tuple #[.int .i64 x.1, .int .i64 (x.1 + 2 : Nat), .int .i64 x.2, .bool true]
  | none => .tuple #[.int .i64 0, .int .i64 0, .int .i64 0, .bool false]
end Go.Proofs.YtljcljipppjnoabGreatDoor

namespace Go.Proofs.YtljcljipppjnoabGreatDoor
open Go.RowKit
def bl3 (c : UInt8) : Bool := c == 32 || c == 9 || c == 10
def pnext (l : List UInt8) (j : Nat) : Nat :=
  if l[j]? = some 96 ∧ nextAt l 96 (j + 1) < l.length then nextAt l 96 (j + 1) + 1
  else if l[j]? = some 92 ∧ (l[j + 1]?.map fun c => signS c || c == 10) = some true then j + 2 else j + 1
theorem pnext_gt (l : List UInt8) (j : Nat) : j < pnext l j := by
  unfold pnext
  have := next_ge l 96 (j + 1)
  split
  · omega
  · split <;> omega
def pfrom (l : List UInt8) (j : Nat) : Nat := if _h : j < l.length ∧ l[j]? ≠ some 42 then pfrom l (pnext l j) else j
termination_by l.length - j
decreasing_by (have := pnext_gt l j; omega)
theorem pfrom_go (l : List UInt8) (j : Nat) (h : j < l.length) (h2 : l[j]? ≠ some 42) : pfrom l j = pfrom l (pnext l j) := by rw [pfrom, dif_pos ⟨h, h2⟩]
theorem pfrom_at (l : List UInt8) (j : Nat) (h : ¬ (j < l.length ∧ l[j]? ≠ some 42)) : pfrom l j = j := by rw [pfrom, dif_neg h]
def partnerS (l : List UInt8) (i : Nat) : Option Nat :=
  if pfrom l (i + 1) < l.length ∧ pfrom l (i + 1) ≠ i + 1 ∧ l[i + 1]?.map bl3 = some false ∧ l[pfrom l (i + 1) - 1]?.map bl3 = some false then some (pfrom l (i + 1)) else none
def partnerZ : Option Nat → Int
  | some j => j
  | none => -1
end Go.Proofs.YtljcljipppjnoabGreatDoor

namespace Go.Proofs.YtljcljipppjnoabGreatDoor
open Go.RowKit
def cut (l : List UInt8) (a b : Nat) : List UInt8 := (l.drop a).take (b - a)
theorem ba_cut (s : ByteArray) (a b : Nat) : s.extract a b = ⟨(cut s.data.toList a b).toArray⟩ := by
  apply ByteArray.ext
  apply Array.ext'
  rw [Lib.extract_data]
  rfl
theorem cut_len (l : List UInt8) (a b : Nat) (h : b ≤ l.length) : (cut l a b).length = b - a := by
  rw [cut, List.length_take, List.length_drop]
  omega
def oneS (inner : List UInt8 → Bool → List Ev) (l : List UInt8) (i : Nat) (ins : Bool) : List Ev × Nat :=
  if l[i]? = some 92 then
    if l[i + 1]? = some 10 then ([⟨11, false, 0, []⟩], 2)
    else if l[i + 1]?.map signS = some true then ([⟨8, false, 0, cut l (i + 1) (i + 2)⟩], 2) else ([], 0)
  else if l[i]? = some 10 then ([⟨10, false, 0, []⟩], 1)
  else if l[i]? = some 96 then
    if nextAt l 96 (i + 1) < l.length then ([⟨9, false, 0, spacedL (cut l (i + 1) (nextAt l 96 (i + 1)))⟩], nextAt l 96 (i + 1) + 1 - i) else ([], 0)
  else if l[i]? = some 91 then
    match linkS l i with
    | some x => ([⟨7, false, 0, cut l (x.1 + 2) x.2⟩] ++ inner (cut l (i + 1) x.1) ins ++ [⟨7, true, 0, []⟩], x.2 + 1 - i)
    | none => ([], 0)
  else if l[i]? = some 42 then
    if ins = true then ([], 0) else
    match partnerS l i with
    | some j => ([⟨6, false, 0, []⟩] ++ inner (cut l (i + 1) j) true ++ [⟨6, true, 0, []⟩], j + 1 - i)
    | none => ([], 0)
  else ([], 0)
theorem link_facts (l : List UInt8) (i : Nat) (x : Nat × Nat) (h : linkS l i = some x) (h91 : l[i]? = some 91) : i + 1 ≤ x.1 ∧ x.1 + 2 ≤ x.2 ∧ x.2 < l.length := by
  unfold linkS at h
  split at h
  · next hc =>
    cases h
    have hi : i < l.length := (List.getElem?_eq_some_iff.1 h91).1
    have hv : l[i] = 91 := (List.getElem?_eq_some_iff.1 h91).2
    have h1 := next_lt l 93 i hi (by rw [hv]; rfl)
    have h2 := next_ge l 93 (i + 1)
    have h3 := stop_ge l (nextAt l 93 i + 2)
    have h4 := (List.getElem?_eq_some_iff.1 hc.2.2.2).1
    exact ⟨by simp only; omega, h3, h4⟩
  · cases h
theorem pfrom_ge (l : List UInt8) (j : Nat) : j ≤ pfrom l j := by
  induction hm : l.length - j using Nat.strongRecOn generalizing j with
  | _ m ih =>
    by_cases h : j < l.length ∧ l[j]? ≠ some 42
    · have h1 := pnext_gt l j
      have h2 := ih (l.length - pnext l j) (by omega) (pnext l j) rfl
      rw [pfrom_go l j h.1 h.2]
      omega
    · rw [pfrom_at l j h]
      exact Nat.le_refl _
theorem partner_facts (l : List UInt8) (i j : Nat) (h : partnerS l i = some j) : i + 2 ≤ j ∧ j < l.length := by
  unfold partnerS at h
  split at h
  · next hc =>
    cases h
    have := pfrom_ge l (i + 1)
    exact ⟨by omega, hc.1⟩
  · cases h
theorem one_facts (inner : List UInt8 → Bool → List Ev) (hfl : ∀ l ins, (inner l ins).length ≤ 2 * l.length) (l : List UInt8) (i : Nat) (hi : i < l.length) (ins : Bool) :
    (oneS inner l i ins).1.length ≤ 2 * (oneS inner l i ins).2 ∧ i + (oneS inner l i ins).2 ≤ l.length := by
  unfold oneS
  split
  · split
    · next h => have := (List.getElem?_eq_some_iff.1 h).1; exact ⟨by simp, by simp only; omega⟩
    · split
      · next h =>
        have : i + 1 < l.length := by
          cases hc : l[i + 1]? with
          | none => rw [hc] at h; cases h
          | some c => exact (List.getElem?_eq_some_iff.1 hc).1
        exact ⟨by simp, by simp only; omega⟩
      · exact ⟨by simp, by simp only; omega⟩
  split
  · exact ⟨by simp, by simp only; omega⟩
  split
  · have := next_ge l 96 (i + 1)
    split
    · exact ⟨by simp; omega, by simp only; omega⟩
    · exact ⟨by simp, by simp only; omega⟩
  split
  · next h91 =>
    cases hl : linkS l i with
    | none => exact ⟨by simp, by simp only; omega⟩
    | some x =>
      obtain ⟨a1, a2, a3⟩ := link_facts l i x hl h91
      have h1 := hfl (cut l (i + 1) x.1) ins
      rw [cut_len l (i + 1) x.1 (by omega)] at h1
      exact ⟨by simp; omega, by simp only; omega⟩
  split
  · split
    · exact ⟨by simp, by simp only; omega⟩
    · cases hp : partnerS l i with
      | none => exact ⟨by simp, by simp only; omega⟩
      | some j =>
        obtain ⟨a1, a2⟩ := partner_facts l i j hp
        have h1 := hfl (cut l (i + 1) j) true
        rw [cut_len l (i + 1) j (by omega)] at h1
        exact ⟨by simp; omega, by simp only; omega⟩
  · exact ⟨by simp, by simp only; omega⟩
end Go.Proofs.YtljcljipppjnoabGreatDoor

namespace Go.Proofs.YtljcljipppjnoabGreatDoor
open Go.RowKit
def glue (acc m : List Ev) : List Ev :=
  match m with
  | [e] => if e.kind = 8 then addS acc e.text else acc ++ m
  | _ => acc ++ m
def inlFrom (inner : List UInt8 → Bool → List Ev) (l : List UInt8) (ins : Bool) (i : Nat) (acc : List Ev) : List Ev :=
  if _h : i < l.length then
    if (oneS inner l i ins).2 = 0 then inlFrom inner l ins (i + 1) (addS acc (cut l i (i + 1)))
    else inlFrom inner l ins (i + (oneS inner l i ins).2) (glue acc (oneS inner l i ins).1)
  else acc
termination_by l.length - i
decreasing_by all_goals omega
def inlineF : Nat → List UInt8 → Bool → List Ev
  | 0, _, _ => []
  | f + 1, l, ins => inlFrom (inlineF f) l ins 0 []
def inlineS (l : List UInt8) (ins : Bool) : List Ev := inlineF (l.length + 1) l ins
theorem add_len (acc : List Ev) (t : List UInt8) : (addS acc t).length ≤ acc.length + 1 := by
  rcases List.eq_nil_or_concat acc with rfl | ⟨pre, e, rfl⟩
  · simp [addS]
  · rw [List.concat_eq_append, add_last]
    split <;> simp
theorem glue_len (acc m : List Ev) : (glue acc m).length ≤ acc.length + m.length := by
  unfold glue
  split
  · split
    · have := add_len acc (by assumption : Ev).text
      simp only [List.length_singleton]
      omega
    · simp
  · simp
theorem add_text (acc : List Ev) (t : List UInt8) (a : Nat) (h : ∀ e ∈ acc, e.text.length ≤ a) : ∀ e ∈ addS acc t, e.text.length ≤ a + t.length := by
  rcases List.eq_nil_or_concat acc with rfl | ⟨pre, x, rfl⟩
  · intro e he
    simp [addS] at he
    subst he
    simp
  · rw [List.concat_eq_append] at h ⊢
    rw [add_last]
    have hx := h x (by simp)
    split
    · intro e he
      rcases List.mem_append.1 he with he | he
      · have := h e (by simp [he]); omega
      · simp at he
        subst he
        simp
        omega
    · intro e he
      rcases List.mem_append.1 he with he | he
      · have := h e he; omega
      · simp at he
        subst he
        simp
theorem one_text (inner : List UInt8 → Bool → List Ev) (hft : ∀ l ins, ∀ e ∈ inner l ins, e.text.length ≤ l.length) (l : List UInt8) (i : Nat) (ins : Bool) : ∀ e ∈ (oneS inner l i ins).1, e.text.length ≤ (oneS inner l i ins).2 := by
  have hcl : ∀ a b, (cut l a b).length ≤ b - a := fun a b => by rw [cut, List.length_take]; omega
  unfold oneS
  split
  · split
    · intro e he; simp at he; subst he; simp
    · split
      · intro e he
        simp at he
        subst he
        have := hcl (i + 1) (i + 2)
        simp only
        omega
      · intro e he; simp at he
  split
  · intro e he; simp at he; subst he; simp
  split
  · split
    · intro e he
      simp at he
      subst he
      have := hcl (i + 1) (nextAt l 96 (i + 1))
      have := next_ge l 96 (i + 1)
      simp only [spacedL, List.length_map]
      omega
    · intro e he; simp at he
  split
  · next h91 =>
    cases hl : linkS l i with
    | none => intro e he; simp at he
    | some x =>
      obtain ⟨a1, a2, a3⟩ := link_facts l i x hl h91
      intro e he
      simp only [List.mem_append, List.mem_singleton] at he
      rcases he with (rfl | he) | rfl
      · have := hcl (x.1 + 2) x.2
        simp only
        omega
      · have := hft _ _ e he
        have := hcl (i + 1) x.1
        simp only
        omega
      · simp
  split
  · split
    · intro e he; simp at he
    · cases hp : partnerS l i with
      | none => intro e he; simp at he
      | some j =>
        obtain ⟨a1, a2⟩ := partner_facts l i j hp
        intro e he
        simp only [List.mem_append, List.mem_singleton] at he
        rcases he with (rfl | he) | rfl
        · simp
        · have := hft _ _ e he
          have := hcl (i + 1) j
          simp only
          omega
        · simp
  · intro e he; simp at he
theorem glue_text (acc m : List Ev) (a b : Nat) (h : ∀ e ∈ acc, e.text.length ≤ a) (h2 : ∀ e ∈ m, e.text.length ≤ b) : ∀ e ∈ glue acc m, e.text.length ≤ a + b := by
  have hap : ∀ e ∈ acc ++ m, e.text.length ≤ a + b := by
    intro e he
    rcases List.mem_append.1 he with he | he
    · have := h e he; omega
    · have := h2 e he; omega
  unfold glue
  split
  · next x =>
    split
    · intro e he
      have := add_text acc x.text a h e he
      have := h2 x (by simp)
      omega
    · exact hap
  · exact hap
theorem inl_facts (inner : List UInt8 → Bool → List Ev) (hfl : ∀ l ins, (inner l ins).length ≤ 2 * l.length) (hft : ∀ l ins, ∀ e ∈ inner l ins, e.text.length ≤ l.length) (l : List UInt8) (ins : Bool) (i : Nat) (acc : List Ev) (hi : i ≤ l.length) (ht : ∀ e ∈ acc, e.text.length ≤ i) :
    (inlFrom inner l ins i acc).length ≤ acc.length + 2 * (l.length - i) ∧ ∀ e ∈ inlFrom inner l ins i acc, e.text.length ≤ l.length := by
  induction hm : l.length - i using Nat.strongRecOn generalizing i acc with
  | _ m ih =>
    rw [inlFrom]
    by_cases h : i < l.length
    · rw [dif_pos h]
      split
      · have h1 := add_len acc (cut l i (i + 1))
        have hc : (cut l i (i + 1)).length = 1 := by rw [cut_len l i (i + 1) (by omega)]; omega
        have ht2 : ∀ e ∈ addS acc (cut l i (i + 1)), e.text.length ≤ i + 1 := fun e he => by have := add_text acc _ i ht e he; omega
        obtain ⟨r1, r2⟩ := ih (l.length - (i + 1)) (by omega) (i + 1) _ (by omega) ht2 rfl
        exact ⟨by omega, r2⟩
      · next hne =>
        obtain ⟨f1, f2⟩ := one_facts inner hfl l i h ins
        have f3 := one_text inner hft l i ins
        have h1 := glue_len acc (oneS inner l i ins).1
        obtain ⟨r1, r2⟩ := ih (l.length - (i + (oneS inner l i ins).2)) (by omega) (i + (oneS inner l i ins).2) _ f2 (glue_text acc _ i _ ht f3) rfl
        exact ⟨by omega, r2⟩
    · rw [dif_neg h]
      exact ⟨by omega, fun e he => by have := ht e he; omega⟩
theorem inlF_facts (f : Nat) : (∀ l ins, (inlineF f l ins).length ≤ 2 * l.length) ∧ ∀ l ins, ∀ e ∈ inlineF f l ins, e.text.length ≤ l.length := by
  induction f with
  | zero => exact ⟨fun l ins => by simp [inlineF], fun l ins e he => by simp [inlineF] at he⟩
  | succ f ih =>
    refine ⟨fun l ins => ?_, fun l ins e he => ?_⟩
    · have := (inl_facts (inlineF f) ih.1 ih.2 l ins 0 [] (Nat.zero_le _) (fun e he => by cases he)).1
      simpa [inlineF] using this
    · exact (inl_facts (inlineF f) ih.1 ih.2 l ins 0 [] (Nat.zero_le _) (fun e he => by cases he)).2 e he
theorem one_congr (p q : List UInt8 → Bool → List Ev) (l : List UInt8) (i : Nat) (ins : Bool) (h : ∀ m b, m.length < l.length → p m b = q m b) : oneS p l i ins = oneS q l i ins := by
  unfold oneS
  by_cases c1 : l[i]? = some 92
  · rw [if_pos c1, if_pos c1]
  rw [if_neg c1, if_neg c1]
  by_cases c2 : l[i]? = some 10
  · rw [if_pos c2, if_pos c2]
  rw [if_neg c2, if_neg c2]
  by_cases c3 : l[i]? = some 96
  · rw [if_pos c3, if_pos c3]
  rw [if_neg c3, if_neg c3]
  by_cases c4 : l[i]? = some 91
  · rw [if_pos c4, if_pos c4]
    cases hl : linkS l i with
    | none => rfl
    | some x =>
      obtain ⟨a1, a2, a3⟩ := link_facts l i x hl c4
      simp only
      rw [h (cut l (i + 1) x.1) ins (by rw [cut_len _ _ _ (by omega)]; omega)]
  rw [if_neg c4, if_neg c4]
  by_cases c5 : l[i]? = some 42
  · rw [if_pos c5, if_pos c5]
    cases ins with
    | true => rfl
    | false =>
      cases hp : partnerS l i with
      | none => rfl
      | some j =>
        obtain ⟨b1, b2⟩ := partner_facts l i j hp
        simp only
        rw [h (cut l (i + 1) j) true (by rw [cut_len _ _ _ (by omega)]; omega)]
  rw [if_neg c5, if_neg c5]
theorem inl_congr (p q : List UInt8 → Bool → List Ev) (l : List UInt8) (ins : Bool) (h : ∀ m b, m.length < l.length → p m b = q m b) (i : Nat) (acc : List Ev) : inlFrom p l ins i acc = inlFrom q l ins i acc := by
  induction hm : l.length - i using Nat.strongRecOn generalizing i acc with
  | _ m ih =>
    rw [inlFrom.eq_def p l ins i acc, inlFrom.eq_def q l ins i acc, one_congr p q l i ins h]
    by_cases hi : i < l.length
    · rw [dif_pos hi, dif_pos hi]
      split
      · exact ih _ (by omega) _ _ rfl
      · exact ih _ (by omega) _ _ rfl
    · rw [dif_neg hi, dif_neg hi]
theorem inl_fuel (f g : Nat) (l : List UInt8) (ins : Bool) (hf : l.length < f) (hg : l.length < g) : inlineF f l ins = inlineF g l ins := by
  induction f generalizing g l ins with
  | zero => omega
  | succ f ih =>
    obtain ⟨g', rfl⟩ : ∃ g', g = g' + 1 := ⟨g - 1, by omega⟩
    exact inl_congr (inlineF f) (inlineF g') l ins (fun m b hm => ih g' m b (by omega) (by omega)) 0 []
theorem inl_eq (l : List UInt8) (ins : Bool) : inlineS l ins = inlFrom inlineS l ins 0 [] :=
  inl_congr (inlineF l.length) inlineS l ins (fun m b hm => inl_fuel l.length (m.length + 1) m b hm (Nat.lt_succ_self _)) 0 []
end Go.Proofs.YtljcljipppjnoabGreatDoor

namespace Go.Proofs.YtljcljipppjnoabGreatDoor
open Go.RowKit
theorem at_drop (l : List UInt8) (i k : Nat) : l[i + k]? = (l.drop i)[k]? := by rw [List.getElem?_drop]
theorem next_add (l : List UInt8) (c : UInt8) (i k : Nat) : nextAt l c (i + k) = i + nextAt (l.drop i) c k := by
  unfold nextAt
  rw [List.drop_drop]
  omega
theorem stop_add (l : List UInt8) (i k : Nat) : stopAt l (i + k) = i + stopAt (l.drop i) k := by
  unfold stopAt
  rw [List.drop_drop]
  omega
theorem cut_add (l : List UInt8) (i a b : Nat) : cut l (i + a) (i + b) = cut (l.drop i) a b := by
  unfold cut
  rw [List.drop_drop, show i + b - (i + a) = b - a by omega]
theorem pnext_add (l : List UInt8) (i j : Nat) : pnext l (i + j) = i + pnext (l.drop i) j := by
  have e1 : l[i + j]? = (l.drop i)[j]? := at_drop l i j
  have e2 : l[i + j + 1]? = (l.drop i)[j + 1]? := by rw [Nat.add_assoc]; exact at_drop l i (j + 1)
  have e3 : nextAt l 96 (i + j + 1) = i + nextAt (l.drop i) 96 (j + 1) := by rw [Nat.add_assoc]; exact next_add l 96 i (j + 1)
  have e4 : (l.drop i).length = l.length - i := List.length_drop
  unfold pnext
  rw [e1, e2, e3, e4]
  by_cases h1 : (l.drop i)[j]? = some 96 ∧ nextAt (l.drop i) 96 (j + 1) < l.length - i
  · rw [if_pos ⟨h1.1, by omega⟩, if_pos h1]; omega
  · rw [if_neg (fun h => h1 ⟨h.1, by omega⟩), if_neg h1]
    split <;> omega
theorem pfrom_add (l : List UInt8) (i j : Nat) : pfrom l (i + j) = i + pfrom (l.drop i) j := by
  induction hm : l.length - (i + j) using Nat.strongRecOn generalizing j with
  | _ m ih =>
    have e1 := at_drop l i j
    have e4 : (l.drop i).length = l.length - i := List.length_drop
    by_cases h : j < (l.drop i).length ∧ (l.drop i)[j]? ≠ some 42
    · have h1 := pnext_gt (l.drop i) j
      rw [pfrom_go (l.drop i) j h.1 h.2, pfrom_go l (i + j) (by omega) (by rw [e1]; exact h.2), pnext_add]
      exact ih (l.length - (i + pnext (l.drop i) j)) (by omega) _ rfl
    · rw [pfrom_at (l.drop i) j h, pfrom_at l (i + j) (fun h2 => h ⟨by omega, by rw [← e1]; exact h2.2⟩)]
theorem link_drop (l : List UInt8) (i : Nat) : linkS l i = (linkS (l.drop i) 0).map fun x => (i + x.1, i + x.2) := by
  have e1 : nextAt l 93 i = i + nextAt (l.drop i) 93 0 := next_add l 93 i 0
  have e2 : nextAt l 91 (i + 1) = i + nextAt (l.drop i) 91 (0 + 1) := next_add l 91 i 1
  have e4 : (l.drop i).length = l.length - i := List.length_drop
  unfold linkS
  rw [e1, e2, e4]
  generalize nextAt (l.drop i) 93 0 = j
  generalize nextAt (l.drop i) 91 (0 + 1) = k
  have e5 : stopAt l (i + j + 2) = i + stopAt (l.drop i) (j + 2) := by rw [Nat.add_assoc]; exact stop_add l i (j + 2)
  rw [e5, Nat.add_assoc i j 1, at_drop l i (j + 1), at_drop l i (stopAt (l.drop i) (j + 2))]
  by_cases h : j < l.length - i ∧ ¬ k < j ∧ (l.drop i)[j + 1]? = some 40 ∧ (l.drop i)[stopAt (l.drop i) (j + 2)]? = some 41
  · rw [if_pos h, if_pos ⟨by omega, by omega, h.2.2⟩]
    rfl
  · rw [if_neg h, if_neg (fun h2 => h ⟨by omega, by omega, h2.2.2⟩)]
    rfl
theorem partner_drop (l : List UInt8) (i : Nat) : partnerS l i = (partnerS (l.drop i) 0).map fun j => i + j := by
  have e1 : pfrom l (i + 1) = i + pfrom (l.drop i) (0 + 1) := pfrom_add l i 1
  have e4 : (l.drop i).length = l.length - i := List.length_drop
  have hg := pfrom_ge (l.drop i) (0 + 1)
  unfold partnerS
  rw [e1, e4, at_drop l i 1]
  generalize pfrom (l.drop i) (0 + 1) = j at hg
  rw [show i + j - 1 = i + (j - 1) by omega, at_drop l i (j - 1)]
  by_cases h : j < l.length - i ∧ j ≠ 0 + 1 ∧ (l.drop i)[0 + 1]?.map bl3 = some false ∧ (l.drop i)[j - 1]?.map bl3 = some false
  · rw [if_pos h, if_pos ⟨by omega, by omega, h.2.2⟩]
    rfl
  · rw [if_neg h, if_neg (fun h2 => h ⟨by omega, by omega, h2.2.2⟩)]
    rfl
theorem one_drop (inner : List UInt8 → Bool → List Ev) (l : List UInt8) (i : Nat) (ins : Bool) : oneS inner l i ins = oneS inner (l.drop i) 0 ins := by
  have e1 : l[i]? = (l.drop i)[0]? := at_drop l i 0
  have e2 : l[i + 1]? = (l.drop i)[0 + 1]? := at_drop l i 1
  have e3 : nextAt l 96 (i + 1) = i + nextAt (l.drop i) 96 (0 + 1) := next_add l 96 i 1
  have e4 : (l.drop i).length = l.length - i := List.length_drop
  unfold oneS
  rw [e1, e2]
  by_cases c1 : (l.drop i)[0]? = some 92
  · rw [if_pos c1, if_pos c1]
    by_cases d1 : (l.drop i)[0 + 1]? = some 10
    · rw [if_pos d1, if_pos d1]
    rw [if_neg d1, if_neg d1, show cut l (i + 1) (i + 2) = cut (l.drop i) (0 + 1) (0 + 2) from cut_add l i 1 2]
  rw [if_neg c1, if_neg c1]
  by_cases c2 : (l.drop i)[0]? = some 10
  · rw [if_pos c2, if_pos c2]
  rw [if_neg c2, if_neg c2]
  by_cases c3 : (l.drop i)[0]? = some 96
  · rw [if_pos c3, if_pos c3, e3, e4]
    by_cases d1 : nextAt (l.drop i) 96 (0 + 1) < l.length - i
    · rw [if_pos d1, if_pos (by omega), show cut l (i + 1) (i + nextAt (l.drop i) 96 (0 + 1)) = cut (l.drop i) (0 + 1) (nextAt (l.drop i) 96 (0 + 1)) from cut_add l i 1 _]
      congr 1
      omega
    · rw [if_neg d1, if_neg (by omega)]
  rw [if_neg c3, if_neg c3]
  by_cases c4 : (l.drop i)[0]? = some 91
  · rw [if_pos c4, if_pos c4, link_drop]
    cases hl : linkS (l.drop i) 0 with
    | none => rfl
    | some x =>
      simp only [Option.map_some]
      rw [show cut l (i + x.1 + 2) (i + x.2) = cut (l.drop i) (x.1 + 2) x.2 by rw [Nat.add_assoc]; exact cut_add l i _ _, show cut l (i + 1) (i + x.1) = cut (l.drop i) (0 + 1) x.1 from cut_add l i 1 _]
      congr 1
      omega
  rw [if_neg c4, if_neg c4]
  by_cases c5 : (l.drop i)[0]? = some 42
  · rw [if_pos c5, if_pos c5, partner_drop]
    cases ins with
    | true => rfl
    | false =>
      cases hp : partnerS (l.drop i) 0 with
      | none => rfl
      | some j =>
        simp only [Option.map_some, Bool.false_eq_true, if_false]
        rw [show cut l (i + 1) (i + j) = cut (l.drop i) (0 + 1) j from cut_add l i 1 _]
        congr 1
        omega
  rw [if_neg c5, if_neg c5]
theorem inl_drop (inner : List UInt8 → Bool → List Ev) (l : List UInt8) (ins : Bool) (i : Nat) (acc : List Ev) : inlFrom inner l ins i acc = inlFrom inner (l.drop i) ins 0 acc := by
  induction hm : l.length - i using Nat.strongRecOn generalizing l i acc with
  | _ m ih =>
    by_cases hi : i = 0
    · subst hi
      rw [List.drop_zero]
    have e4 : (l.drop i).length = l.length - i := List.length_drop
    rw [inlFrom.eq_def inner l ins i acc, inlFrom.eq_def inner (l.drop i) ins 0 acc, one_drop inner l i ins]
    by_cases h : i < l.length
    · rw [dif_pos h, dif_pos (by omega)]
      split
      · rw [ih _ (by omega) l (i + 1) _ rfl, show cut l i (i + 1) = cut (l.drop i) 0 (0 + 1) from cut_add l i 0 1, ih _ (by omega) (l.drop i) (0 + 1) _ rfl, List.drop_drop]
      · rw [ih _ (by omega) l (i + _) _ rfl, ih _ (by omega) (l.drop i) (0 + _) _ rfl, List.drop_drop, Nat.zero_add]
    · rw [dif_neg h, dif_neg (by omega)]
theorem inl_step (inner : List UInt8 → Bool → List Ev) (r : List UInt8) (hr : r ≠ []) (ins : Bool) (acc : List Ev) : inlFrom inner r ins 0 acc =
    if (oneS inner r 0 ins).2 = 0 then inlFrom inner (r.drop 1) ins 0 (addS acc (r.take 1))
    else inlFrom inner (r.drop (oneS inner r 0 ins).2) ins 0 (glue acc (oneS inner r 0 ins).1) := by
  have h : 0 < r.length := List.length_pos_iff.2 hr
  rw [inlFrom.eq_def inner r ins 0 acc, dif_pos h]
  split
  · rw [inl_drop inner r ins (0 + 1)]
    rfl
  · rw [inl_drop inner r ins (0 + _), Nat.zero_add]
theorem inl_end (inner : List UInt8 → Bool → List Ev) (ins : Bool) (acc : List Ev) : inlFrom inner [] ins 0 acc = acc := by
  rw [inlFrom.eq_def, dif_neg (by simp)]
theorem add_add (acc : List Ev) (t u : List UInt8) : addS (addS acc t) u = addS acc (t ++ u) := by
  rcases List.eq_nil_or_concat acc with rfl | ⟨pre, e, rfl⟩
  · rw [add_nil, add_nil]
    exact (add_last [] ⟨8, false, 0, t⟩ u).trans (by simp)
  · rw [List.concat_eq_append, add_last, add_last]
    split
    · next h => rw [add_last, if_pos h, List.append_assoc]
    · rw [add_last, if_pos rfl]
def isMark (c : UInt8) : Bool := c == 92 || c == 10 || c == 96 || c == 91 || c == 42
theorem one_plain (inner : List UInt8 → Bool → List Ev) (c : UInt8) (r : List UInt8) (ins : Bool) (h : isMark c = false) : oneS inner (c :: r) 0 ins = ([], 0) := by
  simp only [isMark, Bool.or_eq_false_iff, beq_eq_false_iff_ne] at h
  unfold oneS
  have e : (c :: r)[0]? = some c := rfl
  rw [e, if_neg (fun x => h.1.1.1.1 (Option.some.inj x)), if_neg (fun x => h.1.1.1.2 (Option.some.inj x)), if_neg (fun x => h.1.1.2 (Option.some.inj x)), if_neg (fun x => h.1.2 (Option.some.inj x)), if_neg (fun x => h.2 (Option.some.inj x))]
theorem text_run (inner : List UInt8 → Bool → List Ev) (ins : Bool) (acc : List Ev) (a r t : List UInt8) (h : ∀ c ∈ a, isMark c = false) : inlFrom inner (a ++ r) ins 0 (addS acc t) = inlFrom inner r ins 0 (addS acc (t ++ a)) := by
  induction a generalizing t with
  | nil => simp
  | cons c a ih =>
    rw [inl_step inner _ (by simp), List.cons_append, one_plain inner c (a ++ r) ins (h c (by simp)), if_pos rfl, add_add]
    show inlFrom inner (a ++ r) ins 0 (addS acc (t ++ [c])) = _
    rw [ih (t ++ [c]) (fun x hx => h x (by simp [hx])), List.append_assoc]
    rfl
theorem mem_tw (p : UInt8 → Bool) (l : List UInt8) (x : UInt8) (h : x ∈ l.takeWhile p) : p x = true := by
  induction l with
  | nil => simp at h
  | cons a l ih =>
    rw [List.takeWhile_cons] at h
    split at h
    · rcases List.mem_cons.1 h with rfl | h
      · assumption
      · exact ih h
    · cases h
def plainLen (r : List UInt8) : Nat := 1 + (r.tail.takeWhile fun c => !isMark c).length
theorem take_plain (c : UInt8) (r : List UInt8) : (c :: r).take (plainLen (c :: r)) = c :: r.takeWhile fun c => !isMark c := by
  rw [plainLen, Nat.add_comm, List.take_succ_cons]
  congr 1
  exact List.prefix_iff_eq_take.1 (List.takeWhile_prefix _) |>.symm
theorem drop_plain (c : UInt8) (r : List UInt8) : (c :: r).drop (plainLen (c :: r)) = r.dropWhile fun c => !isMark c := by
  rw [plainLen, Nat.add_comm, List.drop_succ_cons]
  have h : (r.takeWhile fun c => !isMark c) ++ (r.dropWhile fun c => !isMark c) = r := List.takeWhile_append_dropWhile
  show r.drop (r.takeWhile fun c => !isMark c).length = _
  conv => lhs; arg 2; rw [← h]
  rw [List.drop_left]
theorem plain_le (r : List UInt8) (h : r ≠ []) : 1 ≤ plainLen r ∧ plainLen r ≤ r.length := by
  cases r with
  | nil => exact absurd rfl h
  | cons c r =>
    have := (List.takeWhile_prefix (fun c => !isMark c) (l := r)).length_le
    simp only [plainLen, List.tail_cons, List.length_cons]
    omega
theorem inl_plain (inner : List UInt8 → Bool → List Ev) (r : List UInt8) (hr : r ≠ []) (ins : Bool) (acc : List Ev) (h : (oneS inner r 0 ins).2 = 0) : inlFrom inner r ins 0 acc = inlFrom inner (r.drop (plainLen r)) ins 0 (addS acc (r.take (plainLen r))) := by
  cases r with
  | nil => exact absurd rfl hr
  | cons c r =>
    rw [inl_step inner _ hr, if_pos h, take_plain, drop_plain]
    show inlFrom inner r ins 0 (addS acc [c]) = _
    have e : (r.takeWhile fun c => !isMark c) ++ (r.dropWhile fun c => !isMark c) = r := List.takeWhile_append_dropWhile
    conv => lhs; arg 2; rw [← e]
    rw [text_run]
    · rfl
    · intro x hx
      have := mem_tw _ _ _ hx
      simpa using this
def tellS (acc : List Ev) (e : Ev) : List Ev := if e.kind = 8 then addS acc e.text else acc ++ [e]
theorem add_behind (o acc : List Ev) (t : List UInt8) (h : acc ≠ [] ∨ ∀ e, o.getLast? = some e → e.kind ≠ 8) : addS (o ++ acc) t = o ++ addS acc t := by
  rcases List.eq_nil_or_concat acc with rfl | ⟨pre, e, rfl⟩
  · rcases h with h | h
    · exact absurd rfl h
    · rw [List.append_nil, add_nil]
      rcases List.eq_nil_or_concat o with rfl | ⟨pre, e, rfl⟩
      · rfl
      · rw [List.concat_eq_append] at h ⊢
        rw [add_last, if_neg (h e (by simp))]
  · rw [List.concat_eq_append, ← List.append_assoc, add_last, add_last]
    split <;> simp
end Go.Proofs.YtljcljipppjnoabGreatDoor

namespace Go.Proofs.YtljcljipppjnoabGreatDoor
open Go.RowKit
end Go.Proofs.YtljcljipppjnoabGreatDoor

namespace Go.Proofs.YtljcljipppjnoabGreatDoor
open Go.RowKit
def escC (c : UInt8) : List UInt8 :=
  if c = 38 then [38, 97, 109, 112, 59] else if c = 60 then [38, 108, 116, 59] else if c = 62 then [38, 103, 116, 59] else if c = 34 then [38, 113, 117, 111, 116, 59] else [c]
def escL (l : List UInt8) : List UInt8 := l.flatMap escC
end Go.Proofs.YtljcljipppjnoabGreatDoor
