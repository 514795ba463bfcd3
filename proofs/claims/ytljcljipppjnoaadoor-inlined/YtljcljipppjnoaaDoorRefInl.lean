import Derived.Test.YtljcljipppjnoaaDoorRefOne
namespace Go.Proofs.YtljcljipppjnoaaDoor
open Go.RowKit

/-- Some events behind others: a lone text stands together with the text that is there. -/
def glue (acc m : List Ev) : List Ev :=
  match m with
  | [e] => if e.kind = 8 then addS acc e.text else acc ++ m
  | _ => acc ++ m
def inlFrom (inner : List UInt8 → Bool → List Ev) (l : List UInt8) (ins : Bool) (i : Nat) (acc : List Ev) : List Ev :=
  if _h : i < l.length then
    if (oneS inner l i ins).2 = 0 then inlFrom inner l ins (i + 1) (addS acc (cut l i (i + 1)))
    else inlFrom inner l ins (i + (oneS inner l i ins).2) (glue acc (oneS inner l i ins).1)
  else acc
termination_by l.length - i
decreasing_by all_goals omega
/-- What stands in a leaf; the number: how deep parts are looked at. -/
def inlineF : Nat → List UInt8 → Bool → List Ev
  | 0, _, _ => []
  | f + 1, l, ins => inlFrom (inlineF f) l ins 0 []
def inlineS (l : List UInt8) (ins : Bool) : List Ev := inlineF (l.length + 1) l ins

theorem add_len (acc : List Ev) (t : List UInt8) : (addS acc t).length ≤ acc.length + 1 := by
  rcases List.eq_nil_or_concat acc with rfl | ⟨pre, e, rfl⟩
  · simp [addS]
  · rw [List.concat_eq_append, add_last]
    split <;> simp
theorem glue_len (acc m : List Ev) : (glue acc m).length ≤ acc.length + m.length := by
  unfold glue
  split
  · split
    · have := add_len acc (by assumption : Ev).text
      simp only [List.length_singleton]
      omega
    · simp
  · simp
theorem add_text (acc : List Ev) (t : List UInt8) (a : Nat) (h : ∀ e ∈ acc, e.text.length ≤ a) : ∀ e ∈ addS acc t, e.text.length ≤ a + t.length := by
  rcases List.eq_nil_or_concat acc with rfl | ⟨pre, x, rfl⟩
  · intro e he
    simp [addS] at he
    subst he
    simp
  · rw [List.concat_eq_append] at h ⊢
    rw [add_last]
    have hx := h x (by simp)
    split
    · intro e he
      rcases List.mem_append.1 he with he | he
      · have := h e (by simp [he]); omega
      · simp at he
        subst he
        simp
        omega
    · intro e he
      rcases List.mem_append.1 he with he | he
      · have := h e he; omega
      · simp at he
        subst he
        simp
theorem one_text (inner : List UInt8 → Bool → List Ev) (hft : ∀ l ins, ∀ e ∈ inner l ins, e.text.length ≤ l.length) (l : List UInt8) (i : Nat) (ins : Bool) : ∀ e ∈ (oneS inner l i ins).1, e.text.length ≤ (oneS inner l i ins).2 := by
  have hcl : ∀ a b, (cut l a b).length ≤ b - a := fun a b => by rw [cut, List.length_take]; omega
  unfold oneS
  split
  · split
    · intro e he; simp at he; subst he; simp
    · split
      · intro e he
        simp at he
        subst he
        have := hcl (i + 1) (i + 2)
        simp only
        omega
      · intro e he; simp at he
  split
  · intro e he; simp at he; subst he; simp
  split
  · split
    · intro e he
      simp at he
      subst he
      have := hcl (i + 1) (nextAt l 96 (i + 1))
      have := next_ge l 96 (i + 1)
      simp only [spacedL, List.length_map]
      omega
    · intro e he; simp at he
  split
  · next h91 =>
    cases hl : linkS l i with
    | none => intro e he; simp at he
    | some x =>
      obtain ⟨a1, a2, a3⟩ := link_facts l i x hl h91
      intro e he
      simp only [List.mem_append, List.mem_singleton] at he
      rcases he with (rfl | he) | rfl
      · have := hcl (x.1 + 2) x.2
        simp only
        omega
      · have := hft _ _ e he
        have := hcl (i + 1) x.1
        simp only
        omega
      · simp
  split
  · split
    · intro e he; simp at he
    · cases hp : partnerS l i with
      | none => intro e he; simp at he
      | some j =>
        obtain ⟨a1, a2⟩ := partner_facts l i j hp
        intro e he
        simp only [List.mem_append, List.mem_singleton] at he
        rcases he with (rfl | he) | rfl
        · simp
        · have := hft _ _ e he
          have := hcl (i + 1) j
          simp only
          omega
        · simp
  · intro e he; simp at he
theorem glue_text (acc m : List Ev) (a b : Nat) (h : ∀ e ∈ acc, e.text.length ≤ a) (h2 : ∀ e ∈ m, e.text.length ≤ b) : ∀ e ∈ glue acc m, e.text.length ≤ a + b := by
  have hap : ∀ e ∈ acc ++ m, e.text.length ≤ a + b := by
    intro e he
    rcases List.mem_append.1 he with he | he
    · have := h e he; omega
    · have := h2 e he; omega
  unfold glue
  split
  · next x =>
    split
    · intro e he
      have := add_text acc x.text a h e he
      have := h2 x (by simp)
      omega
    · exact hap
  · exact hap
theorem inl_facts (inner : List UInt8 → Bool → List Ev) (hfl : ∀ l ins, (inner l ins).length ≤ 2 * l.length) (hft : ∀ l ins, ∀ e ∈ inner l ins, e.text.length ≤ l.length) (l : List UInt8) (ins : Bool) (i : Nat) (acc : List Ev) (hi : i ≤ l.length) (ht : ∀ e ∈ acc, e.text.length ≤ i) :
    (inlFrom inner l ins i acc).length ≤ acc.length + 2 * (l.length - i) ∧ ∀ e ∈ inlFrom inner l ins i acc, e.text.length ≤ l.length := by
  induction hm : l.length - i using Nat.strongRecOn generalizing i acc with
  | _ m ih =>
    rw [inlFrom]
    by_cases h : i < l.length
    · rw [dif_pos h]
      split
      · have h1 := add_len acc (cut l i (i + 1))
        have hc : (cut l i (i + 1)).length = 1 := by rw [cut_len l i (i + 1) (by omega)]; omega
        have ht2 : ∀ e ∈ addS acc (cut l i (i + 1)), e.text.length ≤ i + 1 := fun e he => by have := add_text acc _ i ht e he; omega
        obtain ⟨r1, r2⟩ := ih (l.length - (i + 1)) (by omega) (i + 1) _ (by omega) ht2 rfl
        exact ⟨by omega, r2⟩
      · next hne =>
        obtain ⟨f1, f2⟩ := one_facts inner hfl l i h ins
        have f3 := one_text inner hft l i ins
        have h1 := glue_len acc (oneS inner l i ins).1
        obtain ⟨r1, r2⟩ := ih (l.length - (i + (oneS inner l i ins).2)) (by omega) (i + (oneS inner l i ins).2) _ f2 (glue_text acc _ i _ ht f3) rfl
        exact ⟨by omega, r2⟩
    · rw [dif_neg h]
      exact ⟨by omega, fun e he => by have := ht e he; omega⟩
theorem inlF_facts (f : Nat) : (∀ l ins, (inlineF f l ins).length ≤ 2 * l.length) ∧ ∀ l ins, ∀ e ∈ inlineF f l ins, e.text.length ≤ l.length := by
  induction f with
  | zero => exact ⟨fun l ins => by simp [inlineF], fun l ins e he => by simp [inlineF] at he⟩
  | succ f ih =>
    refine ⟨fun l ins => ?_, fun l ins e he => ?_⟩
    · have := (inl_facts (inlineF f) ih.1 ih.2 l ins 0 [] (Nat.zero_le _) (fun e he => by cases he)).1
      simpa [inlineF] using this
    · exact (inl_facts (inlineF f) ih.1 ih.2 l ins 0 [] (Nat.zero_le _) (fun e he => by cases he)).2 e he

theorem one_congr (p q : List UInt8 → Bool → List Ev) (l : List UInt8) (i : Nat) (ins : Bool) (h : ∀ m b, m.length < l.length → p m b = q m b) : oneS p l i ins = oneS q l i ins := by
  unfold oneS
  by_cases c1 : l[i]? = some 92
  · rw [if_pos c1, if_pos c1]
  rw [if_neg c1, if_neg c1]
  by_cases c2 : l[i]? = some 10
  · rw [if_pos c2, if_pos c2]
  rw [if_neg c2, if_neg c2]
  by_cases c3 : l[i]? = some 96
  · rw [if_pos c3, if_pos c3]
  rw [if_neg c3, if_neg c3]
  by_cases c4 : l[i]? = some 91
  · rw [if_pos c4, if_pos c4]
    cases hl : linkS l i with
    | none => rfl
    | some x =>
      obtain ⟨a1, a2, a3⟩ := link_facts l i x hl c4
      simp only
      rw [h (cut l (i + 1) x.1) ins (by rw [cut_len _ _ _ (by omega)]; omega)]
  rw [if_neg c4, if_neg c4]
  by_cases c5 : l[i]? = some 42
  · rw [if_pos c5, if_pos c5]
    cases ins with
    | true => rfl
    | false =>
      cases hp : partnerS l i with
      | none => rfl
      | some j =>
        obtain ⟨b1, b2⟩ := partner_facts l i j hp
        simp only
        rw [h (cut l (i + 1) j) true (by rw [cut_len _ _ _ (by omega)]; omega)]
  rw [if_neg c5, if_neg c5]
theorem inl_congr (p q : List UInt8 → Bool → List Ev) (l : List UInt8) (ins : Bool) (h : ∀ m b, m.length < l.length → p m b = q m b) (i : Nat) (acc : List Ev) : inlFrom p l ins i acc = inlFrom q l ins i acc := by
  induction hm : l.length - i using Nat.strongRecOn generalizing i acc with
  | _ m ih =>
    rw [inlFrom.eq_def p l ins i acc, inlFrom.eq_def q l ins i acc, one_congr p q l i ins h]
    by_cases hi : i < l.length
    · rw [dif_pos hi, dif_pos hi]
      split
      · exact ih _ (by omega) _ _ rfl
      · exact ih _ (by omega) _ _ rfl
    · rw [dif_neg hi, dif_neg hi]
theorem inl_fuel (f g : Nat) (l : List UInt8) (ins : Bool) (hf : l.length < f) (hg : l.length < g) : inlineF f l ins = inlineF g l ins := by
  induction f generalizing g l ins with
  | zero => omega
  | succ f ih =>
    obtain ⟨g', rfl⟩ : ∃ g', g = g' + 1 := ⟨g - 1, by omega⟩
    exact inl_congr (inlineF f) (inlineF g') l ins (fun m b hm => ih g' m b (by omega) (by omega)) 0 []
/-- What stands in a leaf, by itself: the parts are looked at likewise. -/
theorem inl_eq (l : List UInt8) (ins : Bool) : inlineS l ins = inlFrom inlineS l ins 0 [] :=
  inl_congr (inlineF l.length) inlineS l ins (fun m b hm => inl_fuel l.length (m.length + 1) m b hm (Nat.lt_succ_self _)) 0 []

end Go.Proofs.YtljcljipppjnoaaDoor
