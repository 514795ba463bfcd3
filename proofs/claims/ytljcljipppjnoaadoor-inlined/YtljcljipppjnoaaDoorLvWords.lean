import Derived.Test.YtljcljipppjnoaaDoorRefInl
namespace Go.Proofs.YtljcljipppjnoaaDoor
open Go.RowKit

/-! What stands in a leaf, looked at from where it begins. -/
theorem at_drop (l : List UInt8) (i k : Nat) : l[i + k]? = (l.drop i)[k]? := by rw [List.getElem?_drop]
theorem next_add (l : List UInt8) (c : UInt8) (i k : Nat) : nextAt l c (i + k) = i + nextAt (l.drop i) c k := by
  unfold nextAt
  rw [List.drop_drop]
  omega
theorem stop_add (l : List UInt8) (i k : Nat) : stopAt l (i + k) = i + stopAt (l.drop i) k := by
  unfold stopAt
  rw [List.drop_drop]
  omega
theorem cut_add (l : List UInt8) (i a b : Nat) : cut l (i + a) (i + b) = cut (l.drop i) a b := by
  unfold cut
  rw [List.drop_drop, show i + b - (i + a) = b - a by omega]
theorem pnext_add (l : List UInt8) (i j : Nat) : pnext l (i + j) = i + pnext (l.drop i) j := by
  have e1 : l[i + j]? = (l.drop i)[j]? := at_drop l i j
  have e2 : l[i + j + 1]? = (l.drop i)[j + 1]? := by rw [Nat.add_assoc]; exact at_drop l i (j + 1)
  have e3 : nextAt l 96 (i + j + 1) = i + nextAt (l.drop i) 96 (j + 1) := by rw [Nat.add_assoc]; exact next_add l 96 i (j + 1)
  have e4 : (l.drop i).length = l.length - i := List.length_drop
  unfold pnext
  rw [e1, e2, e3, e4]
  by_cases h1 : (l.drop i)[j]? = some 96 ∧ nextAt (l.drop i) 96 (j + 1) < l.length - i
  · rw [if_pos ⟨h1.1, by omega⟩, if_pos h1]; omega
  · rw [if_neg (fun h => h1 ⟨h.1, by omega⟩), if_neg h1]
    split <;> omega
theorem pfrom_add (l : List UInt8) (i j : Nat) : pfrom l (i + j) = i + pfrom (l.drop i) j := by
  induction hm : l.length - (i + j) using Nat.strongRecOn generalizing j with
  | _ m ih =>
    have e1 := at_drop l i j
    have e4 : (l.drop i).length = l.length - i := List.length_drop
    by_cases h : j < (l.drop i).length ∧ (l.drop i)[j]? ≠ some 42
    · have h1 := pnext_gt (l.drop i) j
      rw [pfrom_go (l.drop i) j h.1 h.2, pfrom_go l (i + j) (by omega) (by rw [e1]; exact h.2), pnext_add]
      exact ih (l.length - (i + pnext (l.drop i) j)) (by omega) _ rfl
    · rw [pfrom_at (l.drop i) j h, pfrom_at l (i + j) (fun h2 => h ⟨by omega, by rw [← e1]; exact h2.2⟩)]
theorem link_drop (l : List UInt8) (i : Nat) : linkS l i = (linkS (l.drop i) 0).map fun x => (i + x.1, i + x.2) := by
  have e1 : nextAt l 93 i = i + nextAt (l.drop i) 93 0 := next_add l 93 i 0
  have e2 : nextAt l 91 (i + 1) = i + nextAt (l.drop i) 91 (0 + 1) := next_add l 91 i 1
  have e4 : (l.drop i).length = l.length - i := List.length_drop
  unfold linkS
  rw [e1, e2, e4]
  generalize nextAt (l.drop i) 93 0 = j
  generalize nextAt (l.drop i) 91 (0 + 1) = k
  have e5 : stopAt l (i + j + 2) = i + stopAt (l.drop i) (j + 2) := by rw [Nat.add_assoc]; exact stop_add l i (j + 2)
  rw [e5, Nat.add_assoc i j 1, at_drop l i (j + 1), at_drop l i (stopAt (l.drop i) (j + 2))]
  by_cases h : j < l.length - i ∧ ¬ k < j ∧ (l.drop i)[j + 1]? = some 40 ∧ (l.drop i)[stopAt (l.drop i) (j + 2)]? = some 41
  · rw [if_pos h, if_pos ⟨by omega, by omega, h.2.2⟩]
    rfl
  · rw [if_neg h, if_neg (fun h2 => h ⟨by omega, by omega, h2.2.2⟩)]
    rfl
theorem partner_drop (l : List UInt8) (i : Nat) : partnerS l i = (partnerS (l.drop i) 0).map fun j => i + j := by
  have e1 : pfrom l (i + 1) = i + pfrom (l.drop i) (0 + 1) := pfrom_add l i 1
  have e4 : (l.drop i).length = l.length - i := List.length_drop
  have hg := pfrom_ge (l.drop i) (0 + 1)
  unfold partnerS
  rw [e1, e4, at_drop l i 1]
  generalize pfrom (l.drop i) (0 + 1) = j at hg
  rw [show i + j - 1 = i + (j - 1) by omega, at_drop l i (j - 1)]
  by_cases h : j < l.length - i ∧ j ≠ 0 + 1 ∧ (l.drop i)[0 + 1]?.map bl3 = some false ∧ (l.drop i)[j - 1]?.map bl3 = some false
  · rw [if_pos h, if_pos ⟨by omega, by omega, h.2.2⟩]
    rfl
  · rw [if_neg h, if_neg (fun h2 => h ⟨by omega, by omega, h2.2.2⟩)]
    rfl
theorem one_drop (inner : List UInt8 → Bool → List Ev) (l : List UInt8) (i : Nat) (ins : Bool) : oneS inner l i ins = oneS inner (l.drop i) 0 ins := by
  have e1 : l[i]? = (l.drop i)[0]? := at_drop l i 0
  have e2 : l[i + 1]? = (l.drop i)[0 + 1]? := at_drop l i 1
  have e3 : nextAt l 96 (i + 1) = i + nextAt (l.drop i) 96 (0 + 1) := next_add l 96 i 1
  have e4 : (l.drop i).length = l.length - i := List.length_drop
  unfold oneS
  rw [e1, e2]
  by_cases c1 : (l.drop i)[0]? = some 92
  · rw [if_pos c1, if_pos c1]
    by_cases d1 : (l.drop i)[0 + 1]? = some 10
    · rw [if_pos d1, if_pos d1]
    rw [if_neg d1, if_neg d1, show cut l (i + 1) (i + 2) = cut (l.drop i) (0 + 1) (0 + 2) from cut_add l i 1 2]
  rw [if_neg c1, if_neg c1]
  by_cases c2 : (l.drop i)[0]? = some 10
  · rw [if_pos c2, if_pos c2]
  rw [if_neg c2, if_neg c2]
  by_cases c3 : (l.drop i)[0]? = some 96
  · rw [if_pos c3, if_pos c3, e3, e4]
    by_cases d1 : nextAt (l.drop i) 96 (0 + 1) < l.length - i
    · rw [if_pos d1, if_pos (by omega), show cut l (i + 1) (i + nextAt (l.drop i) 96 (0 + 1)) = cut (l.drop i) (0 + 1) (nextAt (l.drop i) 96 (0 + 1)) from cut_add l i 1 _]
      congr 1
      omega
    · rw [if_neg d1, if_neg (by omega)]
  rw [if_neg c3, if_neg c3]
  by_cases c4 : (l.drop i)[0]? = some 91
  · rw [if_pos c4, if_pos c4, link_drop]
    cases hl : linkS (l.drop i) 0 with
    | none => rfl
    | some x =>
      simp only [Option.map_some]
      rw [show cut l (i + x.1 + 2) (i + x.2) = cut (l.drop i) (x.1 + 2) x.2 by rw [Nat.add_assoc]; exact cut_add l i _ _, show cut l (i + 1) (i + x.1) = cut (l.drop i) (0 + 1) x.1 from cut_add l i 1 _]
      congr 1
      omega
  rw [if_neg c4, if_neg c4]
  by_cases c5 : (l.drop i)[0]? = some 42
  · rw [if_pos c5, if_pos c5, partner_drop]
    cases ins with
    | true => rfl
    | false =>
      cases hp : partnerS (l.drop i) 0 with
      | none => rfl
      | some j =>
        simp only [Option.map_some, Bool.false_eq_true, if_false]
        rw [show cut l (i + 1) (i + j) = cut (l.drop i) (0 + 1) j from cut_add l i 1 _]
        congr 1
        omega
  rw [if_neg c5, if_neg c5]

theorem inl_drop (inner : List UInt8 → Bool → List Ev) (l : List UInt8) (ins : Bool) (i : Nat) (acc : List Ev) : inlFrom inner l ins i acc = inlFrom inner (l.drop i) ins 0 acc := by
  induction hm : l.length - i using Nat.strongRecOn generalizing l i acc with
  | _ m ih =>
    by_cases hi : i = 0
    · subst hi
      rw [List.drop_zero]
    have e4 : (l.drop i).length = l.length - i := List.length_drop
    rw [inlFrom.eq_def inner l ins i acc, inlFrom.eq_def inner (l.drop i) ins 0 acc, one_drop inner l i ins]
    by_cases h : i < l.length
    · rw [dif_pos h, dif_pos (by omega)]
      split
      · rw [ih _ (by omega) l (i + 1) _ rfl, show cut l i (i + 1) = cut (l.drop i) 0 (0 + 1) from cut_add l i 0 1, ih _ (by omega) (l.drop i) (0 + 1) _ rfl, List.drop_drop]
      · rw [ih _ (by omega) l (i + _) _ rfl, ih _ (by omega) (l.drop i) (0 + _) _ rfl, List.drop_drop, Nat.zero_add]
    · rw [dif_neg h, dif_neg (by omega)]
/-- One step, seen from where it begins. -/
theorem inl_step (inner : List UInt8 → Bool → List Ev) (r : List UInt8) (hr : r ≠ []) (ins : Bool) (acc : List Ev) : inlFrom inner r ins 0 acc =
    if (oneS inner r 0 ins).2 = 0 then inlFrom inner (r.drop 1) ins 0 (addS acc (r.take 1))
    else inlFrom inner (r.drop (oneS inner r 0 ins).2) ins 0 (glue acc (oneS inner r 0 ins).1) := by
  have h : 0 < r.length := List.length_pos_iff.2 hr
  rw [inlFrom.eq_def inner r ins 0 acc, dif_pos h]
  split
  · rw [inl_drop inner r ins (0 + 1)]
    rfl
  · rw [inl_drop inner r ins (0 + _), Nat.zero_add]
theorem inl_end (inner : List UInt8 → Bool → List Ev) (ins : Bool) (acc : List Ev) : inlFrom inner [] ins 0 acc = acc := by
  rw [inlFrom.eq_def, dif_neg (by simp)]

theorem add_add (acc : List Ev) (t u : List UInt8) : addS (addS acc t) u = addS acc (t ++ u) := by
  rcases List.eq_nil_or_concat acc with rfl | ⟨pre, e, rfl⟩
  · rw [add_nil, add_nil]
    exact (add_last [] ⟨8, false, 0, t⟩ u).trans (by simp)
  · rw [List.concat_eq_append, add_last, add_last]
    split
    · next h => rw [add_last, if_pos h, List.append_assoc]
    · rw [add_last, if_pos rfl]

/-- What may be more than text. -/
def isMark (c : UInt8) : Bool := c == 92 || c == 10 || c == 96 || c == 91 || c == 42
theorem one_plain (inner : List UInt8 → Bool → List Ev) (c : UInt8) (r : List UInt8) (ins : Bool) (h : isMark c = false) : oneS inner (c :: r) 0 ins = ([], 0) := by
  simp only [isMark, Bool.or_eq_false_iff, beq_eq_false_iff_ne] at h
  unfold oneS
  have e : (c :: r)[0]? = some c := rfl
  rw [e, if_neg (fun x => h.1.1.1.1 (Option.some.inj x)), if_neg (fun x => h.1.1.1.2 (Option.some.inj x)), if_neg (fun x => h.1.1.2 (Option.some.inj x)), if_neg (fun x => h.1.2 (Option.some.inj x)), if_neg (fun x => h.2 (Option.some.inj x))]
theorem text_run (inner : List UInt8 → Bool → List Ev) (ins : Bool) (acc : List Ev) (a r t : List UInt8) (h : ∀ c ∈ a, isMark c = false) : inlFrom inner (a ++ r) ins 0 (addS acc t) = inlFrom inner r ins 0 (addS acc (t ++ a)) := by
  induction a generalizing t with
  | nil => simp
  | cons c a ih =>
    rw [inl_step inner _ (by simp), List.cons_append, one_plain inner c (a ++ r) ins (h c (by simp)), if_pos rfl, add_add]
    show inlFrom inner (a ++ r) ins 0 (addS acc (t ++ [c])) = _
    rw [ih (t ++ [c]) (fun x hx => h x (by simp [hx])), List.append_assoc]
    rfl
theorem mem_tw (p : UInt8 → Bool) (l : List UInt8) (x : UInt8) (h : x ∈ l.takeWhile p) : p x = true := by
  induction l with
  | nil => simp at h
  | cons a l ih =>
    rw [List.takeWhile_cons] at h
    split at h
    · rcases List.mem_cons.1 h with rfl | h
      · assumption
      · exact ih h
    · cases h
/-- How long the text at the beginning is, if the first byte is text. -/
def plainLen (r : List UInt8) : Nat := 1 + (r.tail.takeWhile fun c => !isMark c).length
theorem take_plain (c : UInt8) (r : List UInt8) : (c :: r).take (plainLen (c :: r)) = c :: r.takeWhile fun c => !isMark c := by
  rw [plainLen, Nat.add_comm, List.take_succ_cons]
  congr 1
  exact List.prefix_iff_eq_take.1 (List.takeWhile_prefix _) |>.symm
theorem drop_plain (c : UInt8) (r : List UInt8) : (c :: r).drop (plainLen (c :: r)) = r.dropWhile fun c => !isMark c := by
  rw [plainLen, Nat.add_comm, List.drop_succ_cons]
  have h : (r.takeWhile fun c => !isMark c) ++ (r.dropWhile fun c => !isMark c) = r := List.takeWhile_append_dropWhile
  show r.drop (r.takeWhile fun c => !isMark c).length = _
  conv => lhs; arg 2; rw [← h]
  rw [List.drop_left]
theorem plain_le (r : List UInt8) (h : r ≠ []) : 1 ≤ plainLen r ∧ plainLen r ≤ r.length := by
  cases r with
  | nil => exact absurd rfl h
  | cons c r =>
    have := (List.takeWhile_prefix (fun c => !isMark c) (l := r)).length_le
    simp only [plainLen, List.tail_cons, List.length_cons]
    omega
/-- A step that is text: all of it at once. -/
theorem inl_plain (inner : List UInt8 → Bool → List Ev) (r : List UInt8) (hr : r ≠ []) (ins : Bool) (acc : List Ev) (h : (oneS inner r 0 ins).2 = 0) : inlFrom inner r ins 0 acc = inlFrom inner (r.drop (plainLen r)) ins 0 (addS acc (r.take (plainLen r))) := by
  cases r with
  | nil => exact absurd rfl hr
  | cons c r =>
    rw [inl_step inner _ hr, if_pos h, take_plain, drop_plain]
    show inlFrom inner r ins 0 (addS acc [c]) = _
    have e : (r.takeWhile fun c => !isMark c) ++ (r.dropWhile fun c => !isMark c) = r := List.takeWhile_append_dropWhile
    conv => lhs; arg 2; rw [← e]
    rw [text_run]
    · rfl
    · intro x hx
      have := mem_tw _ _ _ hx
      simpa using this

/-- Events behind others, one by one: a text stands together with the text ahead of it. -/
def tellS (acc : List Ev) (e : Ev) : List Ev := if e.kind = 8 then addS acc e.text else acc ++ [e]
theorem add_behind (o acc : List Ev) (t : List UInt8) (h : acc ≠ [] ∨ ∀ e, o.getLast? = some e → e.kind ≠ 8) : addS (o ++ acc) t = o ++ addS acc t := by
  rcases List.eq_nil_or_concat acc with rfl | ⟨pre, e, rfl⟩
  · rcases h with h | h
    · exact absurd rfl h
    · rw [List.append_nil, add_nil]
      rcases List.eq_nil_or_concat o with rfl | ⟨pre, e, rfl⟩
      · rfl
      · rw [List.concat_eq_append] at h ⊢
        rw [add_last, if_neg (h e (by simp))]
  · rw [List.concat_eq_append, ← List.append_assoc, add_last, add_last]
    split <;> simp
theorem add_ne (acc : List Ev) (t : List UInt8) : addS acc t ≠ [] := by
  rcases List.eq_nil_or_concat acc with rfl | ⟨pre, e, rfl⟩
  · simp [addS]
  · rw [List.concat_eq_append, add_last]
    split <;> simp

end Go.Proofs.YtljcljipppjnoaaDoor
