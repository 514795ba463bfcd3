import Derived.Test.YtljcljipppjnoabGreatDoorJL06
import Derived.Test.YtljcljipppjnoabGreatDoorJL35
import Derived.Laws.IdiomStrings
namespace Go.Proofs.YtljcljipppjnoabGreatDoor
open Go.RowKit
def slashS (e : Ev) : List UInt8 := if e.fin = true then [47] else []
def feedS (e : Ev) : List UInt8 := if e.fin = true ∨ e.kind = 2 ∨ e.kind = 3 ∨ e.kind = 4 then [10] else []
def htmlS (e : Ev) : List UInt8 :=
  if e.kind = 0 then [60] ++ slashS e ++ [112, 62] ++ feedS e
  else if e.kind = 1 then [60] ++ slashS e ++ [104] ++ [UInt8.ofNat (48 + e.level.toNat)] ++ [62] ++ feedS e
  else if e.kind = 2 then [60] ++ slashS e ++ [98, 108, 111, 99, 107, 113, 117, 111, 116, 101, 62] ++ feedS e
  else if e.kind = 3 then [60] ++ slashS e ++ [117, 108, 62] ++ feedS e
  else if e.kind = 4 then [60] ++ slashS e ++ [108, 105, 62] ++ feedS e
  else if e.kind = 6 then [60] ++ slashS e ++ [101, 109, 62]
  else if e.kind = 5 then (if e.fin = true then [60, 47, 99, 111, 100, 101, 62, 60, 47, 112, 114, 101, 62, 10] else [60, 112, 114, 101, 62, 60, 99, 111, 100, 101, 62])
  else if e.kind = 7 then (if e.fin = true then [60, 47, 97, 62] else [60, 97, 32, 104, 114, 101, 102, 61, 34] ++ whereL e.text ++ [34, 62])
  else if e.kind = 9 then [60, 99, 111, 100, 101, 62] ++ escL e.text ++ [60, 47, 99, 111, 100, 101, 62]
  else if e.kind = 10 then [10]
  else if e.kind = 11 then [60, 98, 114, 62, 10]
  else escL e.text
def pageS (l : List Ev) : List UInt8 := l.flatMap htmlS
theorem escC_len (c : UInt8) : (escC c).length ≤ 6 := by
  unfold escC
  repeat' split
  all_goals simp
theorem esc_len (l : List UInt8) : (escL l).length ≤ 6 * l.length := by
  induction l with
  | nil => simp [escL]
  | cons c l ih =>
    have := escC_len c
    simp only [escL, List.flatMap_cons, List.length_append, List.length_cons] at ih ⊢
    omega
theorem whereC_len (c : UInt8) : (whereC c).length ≤ 6 := by
  have hc : ∀ k, (whereC.cutH k).length ≤ 1 := fun k => by unfold whereC.cutH; rw [List.length_take]; omega
  have h1 := hc (c.toNat / 16)
  have h2 := hc (c.toNat % 16)
  unfold whereC
  split
  · simp
  split
  · simp
  · simp only [List.length_append, List.length_singleton]
    omega
theorem where_len (l : List UInt8) : (whereL l).length ≤ 6 * l.length := by
  induction l with
  | nil => simp [whereL]
  | cons c l ih =>
    have := whereC_len c
    simp only [whereL, List.flatMap_cons, List.length_append, List.length_cons] at ih ⊢
    omega
end Go.Proofs.YtljcljipppjnoabGreatDoor

namespace Go.Proofs.YtljcljipppjnoabGreatDoor
open Go.RowKit
def Lev (e : Ev) : Prop := (0 ≤ e.level ∧ e.level ≤ 3) ∧ 0 ≤ e.kind ∧ e.kind ≤ 11
def Lv0 (e : Ev) : Prop := e.level = 0 ∧ 0 ≤ e.kind ∧ e.kind ≤ 11
theorem levL_le (l : List UInt8) : levelL l ≤ 3 := by
  unfold levelL levelS
  split <;> omega
theorem leaf_lev (k v : Int) (t : List UInt8) (h : (0 ≤ v ∧ v ≤ 3) ∧ 0 ≤ k ∧ k ≤ 11) : ∀ e ∈ leafS k v t, Lev e := by
  intro e he
  unfold leafS at he
  simp only [List.mem_append, List.mem_singleton] at he
  rcases he with (rfl | he) | rfl
  · exact h
  · split at he
    · cases he
    · simp at he
      subst he
      exact ⟨⟨by show (0 : Int) ≤ 0; decide, by show (0 : Int) ≤ 3; decide⟩, by show (0 : Int) ≤ 8; decide, by show (8 : Int) ≤ 11; decide⟩
  · exact h
theorem items_lev (inner : List (List UInt8) → List Ev) (hI : ∀ ls, ∀ e ∈ inner ls, Lev e) (ls : List (List UInt8)) (n : Nat) : ∀ e ∈ (itemsAt inner ls n).1, Lev e := by
  induction hm : ls.length - n using Nat.strongRecOn generalizing n with
  | _ m ih =>
    have hev : ∀ e ∈ itemEv inner ls n, Lev e := by
      intro e he
      simp only [itemEv, List.mem_append, List.mem_singleton] at he
      rcases he with (rfl | he) | rfl
      · exact ⟨⟨by decide, by decide⟩, by decide, by decide⟩
      · exact hI _ e he
      · exact ⟨⟨by decide, by decide⟩, by decide, by decide⟩
    have hge := behind_ge ls (moreAt ls (n + 1)).2
    have hmg := more_ge ls (n + 1)
    by_cases h : behindS ls (moreAt ls (n + 1)).2 < ls.length
    · cases h2 : itemL ls[behindS ls (moreAt ls (n + 1)).2] with
      | true =>
        rw [items_go inner ls n _ rfl h h2]
        intro e he
        simp only [List.mem_append] at he
        rcases he with he | he
        · exact hev e he
        · exact ih _ (by omega) _ rfl e he
      | false => rw [items_no inner ls n _ rfl h h2]; exact hev
    · rw [items_end inner ls n _ rfl h]; exact hev
theorem step_lev (inner : List (List UInt8) → List Ev) (hI : ∀ ls, ∀ e ∈ inner ls, Lev e) (depth : Int) (l : List UInt8) (r : List (List UInt8)) : ∀ e ∈ (stepS inner depth l (l :: r)).1, Lev e := by
  have hz : (0 : Int) ≤ 0 ∧ (0 : Int) ≤ 3 := ⟨by decide, by decide⟩
  unfold stepS
  split
  · exact leaf_lev _ _ _ ⟨hz, by decide, by decide⟩
  split
  · have := levL_le l
    exact leaf_lev _ _ _ ⟨⟨by omega, by omega⟩, by decide, by decide⟩
  split
  · intro e he
    simp only [quoteS, List.mem_append, List.mem_singleton] at he
    rcases he with (rfl | he) | rfl
    · exact ⟨hz, by decide, by decide⟩
    · exact hI _ e he
    · exact ⟨hz, by decide, by decide⟩
  split
  · intro e he
    simp only [listS, List.mem_append, List.mem_singleton] at he
    rcases he with (rfl | he) | rfl
    · exact ⟨hz, by decide, by decide⟩
    · exact items_lev inner hI _ 0 e he
    · exact ⟨hz, by decide, by decide⟩
  · exact leaf_lev _ _ _ ⟨hz, by decide, by decide⟩
theorem blocks_lev (inner : List (List UInt8) → List Ev) (hI : ∀ ls, ∀ e ∈ inner ls, Lev e) (depth : Int) (ls : List (List UInt8)) : ∀ e ∈ blocksF inner depth ls, Lev e := by
  induction hm : ls.length using Nat.strongRecOn generalizing ls with
  | _ m ih =>
    cases ls with
    | nil => simp [blocksF]
    | cons l r =>
      rw [blocksF]
      rw [List.length_cons] at hm
      split
      · exact ih r.length (by omega) r rfl
      · have s1 := step_lev inner hI depth l r
        generalize stepS inner depth l (l :: r) = X at s1
        have hd : (r.drop (X.2 - 1)).length ≤ r.length := by rw [List.length_drop]; omega
        intro e he
        rcases List.mem_append.1 he with he | he
        · exact s1 e he
        · exact ih (r.drop (X.2 - 1)).length (by omega) _ rfl e he
theorem blocksAt_lev (d : Nat) (ls : List (List UInt8)) : ∀ e ∈ blocksAt d ls, Lev e := by
  induction d generalizing ls with
  | zero => exact blocks_lev (fun _ => []) (fun _ e he => by cases he) 3 ls
  | succ d ih => exact blocks_lev (blocksAt d) ih (2 - (d : Int)) ls
theorem add_lev (acc : List Ev) (t : List UInt8) (h : ∀ e ∈ acc, Lv0 e) : ∀ e ∈ addS acc t, Lv0 e := by
  rcases List.eq_nil_or_concat acc with rfl | ⟨pre, x, rfl⟩
  · intro e he
    simp [addS] at he
    subst he
    exact ⟨rfl, by show (0 : Int) ≤ 8; decide, by show (8 : Int) ≤ 11; decide⟩
  · rw [List.concat_eq_append] at h ⊢
    rw [add_last]
    split
    · intro e he
      rcases List.mem_append.1 he with he | he
      · exact h e (by simp [he])
      · simp at he
        subst he
        exact h x (by simp)
    · intro e he
      rcases List.mem_append.1 he with he | he
      · exact h e he
      · simp at he
        subst he
        exact ⟨rfl, by show (0 : Int) ≤ 8; decide, by show (8 : Int) ≤ 11; decide⟩
theorem one_lev (inner : List UInt8 → Bool → List Ev) (hI : ∀ l ins, ∀ e ∈ inner l ins, Lv0 e) (l : List UInt8) (i : Nat) (ins : Bool) : ∀ e ∈ (oneS inner l i ins).1, Lv0 e := by
  have hk0 : ∀ (k : Int) (f : Bool) (t : List UInt8), 0 ≤ k → k ≤ 11 → Lv0 ⟨k, f, 0, t⟩ := fun k f t h1 h2 => ⟨rfl, h1, h2⟩
  unfold oneS
  split
  · split
    · intro e he; simp at he; subst he; exact hk0 _ _ _ (by decide) (by decide)
    · split
      · intro e he; simp at he; subst he; exact hk0 _ _ _ (by decide) (by decide)
      · intro e he; simp at he
  split
  · intro e he; simp at he; subst he; exact hk0 _ _ _ (by decide) (by decide)
  split
  · split
    · intro e he; simp at he; subst he; exact hk0 _ _ _ (by decide) (by decide)
    · intro e he; simp at he
  split
  · cases linkS l i with
    | none => intro e he; simp at he
    | some x =>
      intro e he
      simp only [List.mem_append, List.mem_singleton] at he
      rcases he with (rfl | he) | rfl
      · exact hk0 _ _ _ (by decide) (by decide)
      · exact hI _ _ e he
      · exact hk0 _ _ _ (by decide) (by decide)
  split
  · split
    · intro e he; simp at he
    · cases partnerS l i with
      | none => intro e he; simp at he
      | some j =>
        intro e he
        simp only [List.mem_append, List.mem_singleton] at he
        rcases he with (rfl | he) | rfl
        · exact hk0 _ _ _ (by decide) (by decide)
        · exact hI _ _ e he
        · exact hk0 _ _ _ (by decide) (by decide)
  · intro e he; simp at he
theorem glue_lev (acc m : List Ev) (h : ∀ e ∈ acc, Lv0 e) (h2 : ∀ e ∈ m, Lv0 e) : ∀ e ∈ glue acc m, Lv0 e := by
  have hap : ∀ e ∈ acc ++ m, Lv0 e := fun e he => (List.mem_append.1 he).elim (h e) (h2 e)
  unfold glue
  split
  · split
    · exact add_lev acc _ h
    · exact hap
  · exact hap
theorem inl_lev (inner : List UInt8 → Bool → List Ev) (hI : ∀ l ins, ∀ e ∈ inner l ins, Lv0 e) (l : List UInt8) (ins : Bool) (i : Nat) (acc : List Ev) (h : ∀ e ∈ acc, Lv0 e) : ∀ e ∈ inlFrom inner l ins i acc, Lv0 e := by
  induction hm : l.length - i using Nat.strongRecOn generalizing i acc with
  | _ m ih =>
    rw [inlFrom]
    by_cases hi : i < l.length
    · rw [dif_pos hi]
      split
      · exact ih _ (by omega) _ _ (add_lev acc _ h) rfl
      · exact ih _ (by omega) _ _ (glue_lev acc _ h (one_lev inner hI l i ins)) rfl
    · rw [dif_neg hi]
      exact h
theorem inlF_lev (f : Nat) (l : List UInt8) (ins : Bool) : ∀ e ∈ inlineF f l ins, Lv0 e := by
  induction f generalizing l ins with
  | zero => intro e he; simp [inlineF] at he
  | succ f ih => exact inl_lev (inlineF f) ih l ins 0 [] (fun e he => by cases he)
theorem evAt_facts (l : List Ev) (M : Nat) (h : ∀ e ∈ l, Lev e ∧ e.text.length ≤ M) (i : Nat) : ∀ e ∈ evAt l i, Lev e ∧ e.text.length ≤ M := by
  unfold evAt
  cases hi : l[i]? with
  | none => intro e he; simp at he
  | some x =>
    simp only
    have hx := h x (List.mem_of_getElem? hi)
    split
    · intro e he
      have h1 := inlF_lev (x.text.length + 1) x.text false e he
      have h2 := (inlF_facts (x.text.length + 1)).2 x.text false e he
      exact ⟨⟨⟨by have := h1.1; omega, by have := h1.1; omega⟩, h1.2⟩, by omega⟩
    · intro e he
      simp at he
      subst he
      exact hx
theorem events_facts (t : List UInt8) : ∀ e ∈ eventsS t, Lev e ∧ e.text.length ≤ t.length + 1 := by
  intro e he
  unfold eventsS evUpto at he
  obtain ⟨i, _, hi⟩ := List.mem_flatMap.1 he
  refine evAt_facts _ (t.length + 1) (fun x hx => ⟨blocksAt_lev 3 _ x hx, ?_⟩) i e hi
  have h1 := (blocksAt_text 3 (linesL [] t)).1 x hx
  have h2 := tot_lines t
  omega
theorem html_len (e : Ev) : (htmlS e).length ≤ 6 * e.text.length + 32 := by
  have h1 := esc_len e.text
  have h2 := where_len e.text
  have hs : (slashS e).length ≤ 1 := by unfold slashS; split <;> simp
  have hf : (feedS e).length ≤ 1 := by unfold feedS; split <;> simp
  unfold htmlS
  by_cases k0 : e.kind = 0
  · rw [if_pos k0]
    simp only [List.length_append, List.length_cons, List.length_nil]
    omega
  rw [if_neg k0]
  by_cases k1 : e.kind = 1
  · rw [if_pos k1]
    simp only [List.length_append, List.length_cons, List.length_nil]
    omega
  rw [if_neg k1]
  by_cases k2 : e.kind = 2
  · rw [if_pos k2]
    simp only [List.length_append, List.length_cons, List.length_nil]
    omega
  rw [if_neg k2]
  by_cases k3 : e.kind = 3
  · rw [if_pos k3]
    simp only [List.length_append, List.length_cons, List.length_nil]
    omega
  rw [if_neg k3]
  by_cases k4 : e.kind = 4
  · rw [if_pos k4]
    simp only [List.length_append, List.length_cons, List.length_nil]
    omega
  rw [if_neg k4]
  by_cases k6 : e.kind = 6
  · rw [if_pos k6]
    simp only [List.length_append, List.length_cons, List.length_nil]
    omega
  rw [if_neg k6]
  by_cases k5 : e.kind = 5
  · rw [if_pos k5]
    by_cases kf : e.fin = true
    · rw [if_pos kf]
      simp only [List.length_cons, List.length_nil]
      omega
    · rw [if_neg kf]
      simp only [List.length_cons, List.length_nil]
      omega
  rw [if_neg k5]
  by_cases k7 : e.kind = 7
  · rw [if_pos k7]
    by_cases kf : e.fin = true
    · rw [if_pos kf]
      simp only [List.length_cons, List.length_nil]
      omega
    · rw [if_neg kf]
      simp only [List.length_append, List.length_cons, List.length_nil]
      omega
  rw [if_neg k7]
  by_cases k9 : e.kind = 9
  · rw [if_pos k9]
    simp only [List.length_append, List.length_cons, List.length_nil]
    omega
  rw [if_neg k9]
  by_cases k10 : e.kind = 10
  · rw [if_pos k10]
    simp only [List.length_cons, List.length_nil]
    omega
  rw [if_neg k10]
  by_cases k11 : e.kind = 11
  · rw [if_pos k11]
    simp only [List.length_cons, List.length_nil]
    omega
  rw [if_neg k11]
  omega
theorem page_len (l : List Ev) (M : Nat) (h : ∀ e ∈ l, e.text.length ≤ M) : (pageS l).length ≤ (6 * M + 32) * l.length := by
  induction l with
  | nil => simp [pageS]
  | cons e l ih =>
    have h1 := html_len e
    have h2 := h e (by simp)
    have h3 := ih (fun x hx => h x (by simp [hx]))
    simp only [pageS, List.flatMap_cons, List.length_append, List.length_cons] at h3 ⊢
    rw [Nat.mul_succ]
    omega
end Go.Proofs.YtljcljipppjnoabGreatDoor
