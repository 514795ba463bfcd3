import Derived.Test.YtljcljipppjnoabGreatDoorJL01
import Derived.Test.YtljcljipppjnoabGreatDoorJL02
import Derived.Deep.AppendLies
import Derived.Deep.CutBlock
import Derived.Deep.DeepCutAuto
import Derived.Deep.Light
import Derived.Lib.Join
namespace Go.Proofs.YtljcljipppjnoabGreatDoor
open Go.RowKit
end Go.Proofs.YtljcljipppjnoabGreatDoor

namespace Go.Proofs.YtljcljipppjnoabGreatDoor
open Go.RowKit
def levelL (l : List UInt8) : Nat := levelS ⟨l.toArray⟩
def stepS (inner : List (List UInt8) → List Ev) (depth : Int) (l : List UInt8) (ls : List (List UInt8)) : List Ev × Nat :=
  if startsS ⟨l.toArray⟩ depth = 2 then (leafS 5 0 (fencedT ls), fencedN ls)
  else if startsS ⟨l.toArray⟩ depth = 3 then (leafS 1 (levelL l) (trimL (l.drop (levelL l))), 1)
  else if startsS ⟨l.toArray⟩ depth = 4 then (quoteS inner ls, quoteN ls)
  else if startsS ⟨l.toArray⟩ depth = 5 then (listS inner ls, listN inner ls)
  else (leafS 0 0 (joinT (ls.take (paraFrom ls depth 1))), paraFrom ls depth 1)
def blocksF (inner : List (List UInt8) → List Ev) (depth : Int) : List (List UInt8) → List Ev
  | [] => []
  | l :: r => if blankL l = true then blocksF inner depth r else (stepS inner depth l (l :: r)).1 ++ blocksF inner depth (r.drop ((stepS inner depth l (l :: r)).2 - 1))
termination_by ls => ls.length
decreasing_by
  · simp
  · simp only [List.length_drop, List.length_cons]; omega
def blocksAt : Nat → List (List UInt8) → List Ev
  | 0 => blocksF (fun _ => []) 3
  | d + 1 => blocksF (blocksAt d) (2 - (d : Int))
theorem leaf_le (k l : Int) (t : List UInt8) : (leafS k l t).length ≤ 3 := by
  unfold leafS
  split <;> simp
theorem begins_q (l : List UInt8) (h : beginsS ⟨l.toArray⟩ ⟨#[62]⟩ = true) : isQ l = true := by
  cases l with
  | nil => exact absurd h (by decide)
  | cons c r =>
    simp only [beginsS, List.isPrefixOf, Bool.and_true] at h
    simp only [isQ]
    simp at h
    simp [h]
theorem starts4 (s : ByteArray) (d : Int) (h : startsS s d = 4) : beginsS s ⟨#[62]⟩ = true ∧ d < 3 := by
  unfold startsS at h
  split at h
  · omega
  split at h
  · omega
  split at h
  · assumption
  split at h <;> omega
theorem starts5 (s : ByteArray) (d : Int) (h : startsS s d = 5) : itemS s = true ∧ d < 3 := by
  unfold startsS at h
  split at h
  · omega
  split at h
  · omega
  split at h
  · omega
  split at h
  · assumption
  · omega
theorem scan_le (p : List UInt8 → Bool) (ls : List (List UInt8)) (n : Nat) (h : n ≤ ls.length) : scan p ls n ≤ ls.length ∧ n ≤ scan p ls n := by
  unfold scan
  have := (List.takeWhile_sublist (l := ls.drop n) p).length_le
  rw [List.length_drop] at this
  omega
theorem step_facts (inner : List (List UInt8) → List Ev) (c : Nat) (depth : Int) (hI : ∀ ls, (inner ls).length ≤ c * ls.length) (l : List UInt8) (r : List (List UInt8)) :
    1 ≤ (stepS inner depth l (l :: r)).2 ∧ (stepS inner depth l (l :: r)).2 ≤ (l :: r).length ∧ (stepS inner depth l (l :: r)).1.length ≤ (c + 4) * (stepS inner depth l (l :: r)).2 := by
  have h3 : ∀ (n : Nat) (k v : Int) (t : List UInt8), 1 ≤ n → (leafS k v t).length ≤ (c + 4) * n := by
    intro n k v t hn
    have h1 := leaf_le k v t
    have h2 : (c + 4) * 1 ≤ (c + 4) * n := Nat.mul_le_mul_left _ hn
    omega
  have hlen : 1 ≤ (l :: r).length := by simp
  unfold stepS
  split
  · have hs := scan_le (fun l => !shuts l) (l :: r) 1 hlen
    have he : shutAt (l :: r) 1 = scan (fun l => !shuts l) (l :: r) 1 := rfl
    have hN : 1 ≤ fencedN (l :: r) ∧ fencedN (l :: r) ≤ (l :: r).length := by
      unfold fencedN
      split <;> omega
    exact ⟨hN.1, hN.2, h3 _ _ _ _ hN.1⟩
  split
  · exact ⟨Nat.le_refl _, hlen, h3 _ _ _ _ (Nat.le_refl _)⟩
  split
  · next h4 =>
    have hq := begins_q l (starts4 _ _ h4).1
    have hs := scan_le isQ (l :: r) 1 hlen
    have he : quoteN (l :: r) = scan isQ (l :: r) 1 := scan_lt isQ (l :: r) 0 (by simp) hq
    refine ⟨by simp only; omega, by simp only; omega, ?_⟩
    simp only
    rw [quote_len]
    have h1 := hI (quoteIn (l :: r))
    have h2 : (quoteIn (l :: r)).length = quoteN (l :: r) := by rw [quoteIn, List.length_map, List.length_take]; omega
    rw [h2] at h1
    rw [Nat.add_mul]
    omega
  split
  · obtain ⟨a1, a2, a3⟩ := items_facts inner c hI (l :: r) 0 (by simp)
    refine ⟨a1, a2, ?_⟩
    simp only [listS, listN, List.length_append, List.length_singleton]
    rw [Nat.sub_zero] at a3
    rw [Nat.add_mul] at a3 ⊢
    omega
  · have hs := scan_le (stays depth) (l :: r) 1 hlen
    have he : paraFrom (l :: r) depth 1 = scan (stays depth) (l :: r) 1 := rfl
    exact ⟨by simp only; omega, by simp only; omega, h3 _ _ _ _ (by omega)⟩
theorem blocks_le (inner : List (List UInt8) → List Ev) (c : Nat) (depth : Int) (hI : ∀ ls, (inner ls).length ≤ c * ls.length) (ls : List (List UInt8)) : (blocksF inner depth ls).length ≤ (c + 4) * ls.length := by
  induction hm : ls.length using Nat.strongRecOn generalizing ls with
  | _ m ih =>
    cases ls with
    | nil => simp [blocksF]
    | cons l r =>
      rw [blocksF]
      rw [List.length_cons] at hm
      split
      · have := ih r.length (by omega) r rfl
        have h2 : (c + 4) * r.length ≤ (c + 4) * m := Nat.mul_le_mul_left _ (by omega)
        omega
      · obtain ⟨a1, a2, a3⟩ := step_facts inner c depth hI l r
        generalize stepS inner depth l (l :: r) = X at a1 a2 a3
        rw [List.length_cons] at a2
        have := ih (r.drop (X.2 - 1)).length (by rw [List.length_drop]; omega) _ rfl
        rw [List.length_drop] at this
        have h2 : (c + 4) * X.2 + (c + 4) * (r.length - (X.2 - 1)) ≤ (c + 4) * m := by
          rw [← Nat.mul_add]
          exact Nat.mul_le_mul_left _ (by omega)
        rw [List.length_append]
        omega
theorem blocksAt_le (d : Nat) (ls : List (List UInt8)) : (blocksAt d ls).length ≤ (4 * (d + 1)) * ls.length := by
  induction d generalizing ls with
  | zero => simpa [blocksAt] using blocks_le (fun _ => []) 0 3 (by simp) ls
  | succ d ih =>
    have := blocks_le (blocksAt d) (4 * (d + 1)) (2 - (d : Int)) ih ls
    rw [blocksAt]
    rw [show 4 * (d + 1 + 1) = 4 * (d + 1) + 4 by omega]
    exact this
end Go.Proofs.YtljcljipppjnoabGreatDoor

namespace Go.Proofs.YtljcljipppjnoabGreatDoor
open Go.RowKit
theorem Strs.none {g o cap : Nat} {ls : List (List UInt8)} {w : World} (h : Strs g o cap ls w) (o' : Nat) (r : List (List UInt8)) (hr : r.length = 0) : Strs g o' 0 r w := by
  have : r = [] := List.eq_nil_of_length_eq_zero hr
  subst this
  exact ⟨Nat.le_refl _, by omega, h.lt, fun j l hj => by simp at hj⟩
theorem level_le (l : List UInt8) : levelL l ≤ l.length := by
  have h : hashes l ≤ l.length := (List.takeWhile_sublist (l := l) _).length_le
  unfold levelL levelS
  simp only
  split
  · exact Nat.zero_le _
  · exact h
end Go.Proofs.YtljcljipppjnoabGreatDoor

namespace Go.Proofs.YtljcljipppjnoabGreatDoor
open Go.RowKit
end Go.Proofs.YtljcljipppjnoabGreatDoor

namespace Go.Proofs.YtljcljipppjnoabGreatDoor
open Go.RowKit
def tot (ls : List (List UInt8)) : Nat := (ls.map fun l => l.length + 1).sum
theorem tot_nil : tot [] = 0 := rfl
theorem tot_cons (l : List UInt8) (r : List (List UInt8)) : tot (l :: r) = l.length + 1 + tot r := by simp [tot]
theorem tot_append (a b : List (List UInt8)) : tot (a ++ b) = tot a + tot b := by simp [tot]
theorem tot_split (ls : List (List UInt8)) (n : Nat) : tot (ls.take n) + tot (ls.drop n) = tot ls := by
  rw [← tot_append, List.take_append_drop]
theorem tot_drop (ls : List (List UInt8)) (n : Nat) : tot (ls.drop n) ≤ tot ls := by have := tot_split ls n; omega
theorem tot_take (ls : List (List UInt8)) (n : Nat) : tot (ls.take n) ≤ tot ls := by have := tot_split ls n; omega
theorem tot_len (ls : List (List UInt8)) : ls.length ≤ tot ls := by
  induction ls with
  | nil => exact Nat.le_refl _
  | cons l r ih => rw [tot_cons, List.length_cons]; omega
theorem tot_mem {ls : List (List UInt8)} {l : List UInt8} (h : l ∈ ls) : l.length ≤ tot ls := by
  induction ls with
  | nil => cases h
  | cons a r ih =>
    rw [tot_cons]
    rcases List.mem_cons.1 h with rfl | h
    · omega
    · have := ih h; omega
theorem tot_small {ls : List (List UInt8)} {M : Nat} (h : tot ls ≤ M) : Small M ls := ⟨Nat.le_trans (tot_len ls) h, fun _ hl => Nat.le_trans (tot_mem hl) h⟩
theorem tot_map (f : List UInt8 → List UInt8) (hf : ∀ l, (f l).length ≤ l.length) (ls : List (List UInt8)) : tot (ls.map f) ≤ tot ls := by
  induction ls with
  | nil => exact Nat.le_refl _
  | cons l r ih => rw [List.map_cons, tot_cons, tot_cons]; have := hf l; omega
theorem tot_quote (ls : List (List UInt8)) : tot (quoteIn ls) ≤ tot ls := Nat.le_trans (tot_map unq unq_le _) (tot_take ls _)
theorem tot_rep (n : Nat) : tot (List.replicate n []) = n := by
  induction n with
  | zero => rfl
  | succ n ih => rw [List.replicate_succ, tot_cons, ih]; simp; omega
theorem tot_more (ls : List (List UInt8)) (n : Nat) (hn : n ≤ ls.length) : tot (moreAt ls n).1 ≤ tot (ls.drop n) := by
  induction hm : ls.length - n using Nat.strongRecOn generalizing n with
  | _ m ih =>
    have hge := behind_ge ls n
    by_cases h : behindS ls n < ls.length
    · cases h2 : two ls[behindS ls n] with
      | true =>
        have a := ih (ls.length - (behindS ls n + 1)) (by omega) (behindS ls n + 1) (by omega) rfl
        rw [more_go ls n _ rfl h h2, tot_append, tot_rep, tot_cons]
        generalize behindS ls n = k at h a hge ⊢
        have e1 : ls.drop n = (ls.drop n).take (k - n) ++ ls[k] :: ls.drop (k + 1) := by
          have := List.take_append_drop (k - n) (ls.drop n)
          rw [List.drop_drop, show n + (k - n) = k by omega, List.drop_eq_getElem_cons h] at this
          exact this.symm
        rw [e1, tot_append, tot_cons]
        have h3 := tot_len ((ls.drop n).take (k - n))
        rw [List.length_take, List.length_drop] at h3
        have h4 : (ls[k].drop 2).length ≤ ls[k].length := by rw [List.length_drop]; omega
        omega
      | false =>
        rw [more_no ls n _ rfl h h2]
        exact Nat.zero_le _
    · rw [more_end ls n _ rfl h]
      exact Nat.zero_le _
theorem tot_item (ls : List (List UInt8)) (n : Nat) (hn : n < ls.length) : tot (itemIn ls n) ≤ tot ls := by
  have h1 := tot_more ls (n + 1) (by omega)
  have h2 := tot_split ls n
  rw [List.drop_eq_getElem_cons hn, tot_cons] at h2
  rw [itemIn, tot_cons, List.getElem?_eq_getElem hn, Option.getD_some, List.length_drop]
  omega
theorem codeOf_len (ls : List (List UInt8)) : (codeOf ls).length = tot ls := by
  induction ls with
  | nil => rfl
  | cons l r ih =>
    have : codeOf (l :: r) = (l ++ [10]) ++ codeOf r := by simp [codeOf]
    rw [this, tot_cons, List.length_append, ih]
    simp
theorem joinT_join (ls : List (List UInt8)) : joinT ls = Lib.join (ls.map trimL) [10] := by
  induction ls with
  | nil => rfl
  | cons l r ih =>
    cases r with
    | nil => simp [joinT, Lib.join, List.intercalate]
    | cons a b =>
      simp only [joinT, Lib.join, List.intercalate] at ih ⊢
      simpa using ih
theorem joinT_len (ls : List (List UInt8)) : (joinT ls).length ≤ tot ls := by
  cases ls with
  | nil => exact Nat.zero_le _
  | cons l r =>
    have h : ∀ r : List (List UInt8), (r.flatMap fun x => 10 :: trimL x).length ≤ tot r := by
      intro r
      induction r with
      | nil => exact Nat.le_refl _
      | cons x t ih =>
        rw [List.flatMap_cons, List.length_append, List.length_cons, tot_cons]
        have := trimL_le x
        omega
    have h1 := h r
    have h2 := trimL_le l
    rw [joinT, List.length_append, tot_cons]
    omega
def linesAll : List UInt8 → List UInt8 → List (List UInt8)
  | cur, [] => [cur]
  | cur, c :: r => if c = 10 then cur :: linesAll [] r else linesAll (cur ++ [c]) r
theorem la_ne (cur l : List UInt8) : linesAll cur l ≠ [] := by
  induction l generalizing cur with
  | nil => simp [linesAll]
  | cons c r ih =>
    rw [linesAll]
    split
    · simp
    · exact ih _
theorem lines_all (cur l : List UInt8) : linesL cur l = if (linesAll cur l).getLast? = some [] then (linesAll cur l).dropLast else linesAll cur l := by
  induction l generalizing cur with
  | nil =>
    by_cases h : cur = [] <;> simp [linesL, linesAll, h]
  | cons c r ih =>
    rw [linesL, linesAll]
    by_cases hc : c = 10
    · rw [if_pos hc, if_pos hc, ih]
      have hne := la_ne [] r
      generalize linesAll [] r = t at hne
      cases t with
      | nil => exact absurd rfl hne
      | cons a b =>
        rw [List.getLast?_cons_cons, List.dropLast_cons_cons]
        split <;> rfl
    · rw [if_neg hc, if_neg hc, ih]
theorem tot_all (cur l : List UInt8) : tot (linesAll cur l) = cur.length + l.length + 1 := by
  induction l generalizing cur with
  | nil => simp [linesAll, tot]
  | cons c r ih =>
    rw [linesAll]
    split
    · rw [tot_cons, ih]; simp; omega
    · rw [ih]; simp; omega
theorem tot_lines (l : List UInt8) : tot (linesL [] l) ≤ l.length + 1 := by
  rw [lines_all]
  have h := tot_all [] l
  simp only [List.length_nil, Nat.zero_add] at h
  split
  · rw [List.dropLast_eq_take]
    exact Nat.le_trans (tot_take _ _) (by omega)
  · omega
end Go.Proofs.YtljcljipppjnoabGreatDoor

namespace Go.Proofs.YtljcljipppjnoabGreatDoor
open Go.RowKit
theorem leaf_text (k v : Int) (t : List UInt8) (M : Nat) (h : t.length ≤ M) : ∀ e ∈ leafS k v t, e.text.length ≤ M := by
  intro e he
  unfold leafS at he
  simp only [List.mem_append, List.mem_singleton] at he
  rcases he with (rfl | he) | rfl
  · simp
  · split at he
    · cases he
    · simp at he
      subst he
      exact h
  · simp
theorem items_text (inner : List (List UInt8) → List Ev) (hI : ∀ ls, ∀ e ∈ inner ls, e.text.length ≤ tot ls) (ls : List (List UInt8)) (n : Nat) (hn : n < ls.length) : ∀ e ∈ (itemsAt inner ls n).1, e.text.length ≤ tot ls := by
  induction hm : ls.length - n using Nat.strongRecOn generalizing n with
  | _ m ih =>
    have hev : ∀ e ∈ itemEv inner ls n, e.text.length ≤ tot ls := by
      intro e he
      simp only [itemEv, List.mem_append, List.mem_singleton] at he
      rcases he with (rfl | he) | rfl
      · simp
      · exact Nat.le_trans (hI _ e he) (tot_item ls n hn)
      · simp
    have hge := behind_ge ls (moreAt ls (n + 1)).2
    have hmg := more_ge ls (n + 1)
    by_cases h : behindS ls (moreAt ls (n + 1)).2 < ls.length
    · cases h2 : itemL ls[behindS ls (moreAt ls (n + 1)).2] with
      | true =>
        rw [items_go inner ls n _ rfl h h2]
        intro e he
        simp only [List.mem_append] at he
        rcases he with he | he
        · exact hev e he
        · exact ih _ (by omega) _ h rfl e he
      | false => rw [items_no inner ls n _ rfl h h2]; exact hev
    · rw [items_end inner ls n _ rfl h]; exact hev
theorem step_text (inner : List (List UInt8) → List Ev) (hI : ∀ ls, ∀ e ∈ inner ls, e.text.length ≤ tot ls) (depth : Int) (l : List UInt8) (r : List (List UInt8)) : (∀ e ∈ (stepS inner depth l (l :: r)).1, e.text.length ≤ tot (l :: r)) ∧ ∀ e, (stepS inner depth l (l :: r)).1.head? = some e → e.kind ≠ 8 := by
  have hlh : ∀ k v t (e : Ev), k ≠ 8 → (leafS k v t).head? = some e → e.kind ≠ 8 := by
    intro k v t e hk he
    simp [leafS] at he
    subst he
    exact hk
  unfold stepS
  split
  · refine ⟨leaf_text _ _ _ _ ?_, fun e he => hlh _ _ _ e (by decide) he⟩
    rw [fencedT, codeOf_len]
    exact Nat.le_trans (tot_drop _ _) (tot_take _ _)
  split
  · refine ⟨leaf_text _ _ _ _ ?_, fun e he => hlh _ _ _ e (by decide) he⟩
    have h1 := trimL_le (l.drop (levelL l))
    rw [List.length_drop] at h1
    rw [tot_cons]
    omega
  split
  · refine ⟨fun e he => ?_, fun e he => ?_⟩
    · simp only [quoteS, List.mem_append, List.mem_singleton] at he
      rcases he with (rfl | he) | rfl
      · simp
      · exact Nat.le_trans (hI _ e he) (tot_quote _)
      · simp
    · simp [quoteS] at he
      subst he
      decide
  split
  · refine ⟨fun e he => ?_, fun e he => ?_⟩
    · simp only [listS, List.mem_append, List.mem_singleton] at he
      rcases he with (rfl | he) | rfl
      · simp
      · exact items_text inner hI _ 0 (by simp) e he
      · simp
    · simp [listS] at he
      subst he
      decide
  · refine ⟨leaf_text _ _ _ _ ?_, fun e he => hlh _ _ _ e (by decide) he⟩
    exact Nat.le_trans (joinT_len _) (tot_take _ _)
theorem blocks_text (inner : List (List UInt8) → List Ev) (hI : ∀ ls, ∀ e ∈ inner ls, e.text.length ≤ tot ls) (depth : Int) (ls : List (List UInt8)) : (∀ e ∈ blocksF inner depth ls, e.text.length ≤ tot ls) ∧ ∀ e, (blocksF inner depth ls).head? = some e → e.kind ≠ 8 := by
  induction hm : ls.length using Nat.strongRecOn generalizing ls with
  | _ m ih =>
    cases ls with
    | nil => simp [blocksF]
    | cons l r =>
      rw [blocksF]
      rw [List.length_cons] at hm
      split
      · obtain ⟨i1, i2⟩ := ih r.length (by omega) r rfl
        exact ⟨fun e he => by have := i1 e he; rw [tot_cons]; omega, i2⟩
      · obtain ⟨s1, s2⟩ := step_text inner hI depth l r
        have hne : (stepS inner depth l (l :: r)).1 ≠ [] := by
          unfold stepS
          split
          · simp [leafS]
          split
          · simp [leafS]
          split
          · simp [quoteS]
          split
          · simp [listS]
          · simp [leafS]
        generalize stepS inner depth l (l :: r) = X at s1 s2 hne
        have hd : (r.drop (X.2 - 1)).length ≤ r.length := by rw [List.length_drop]; omega
        obtain ⟨i1, i2⟩ := ih (r.drop (X.2 - 1)).length (by omega) _ rfl
        refine ⟨fun e he => ?_, fun e he => ?_⟩
        · rcases List.mem_append.1 he with he | he
          · exact s1 e he
          · have := i1 e he
            have := tot_drop r (X.2 - 1)
            rw [tot_cons]
            omega
        · have hh : (X.1 ++ blocksF inner depth (r.drop (X.2 - 1))).head? = X.1.head? := by
            cases h : X.1 with
            | nil => exact absurd h hne
            | cons a b => rfl
          rw [hh] at he
          exact s2 e he
theorem blocksAt_text (d : Nat) (ls : List (List UInt8)) : (∀ e ∈ blocksAt d ls, e.text.length ≤ tot ls) ∧ ∀ e, (blocksAt d ls).head? = some e → e.kind ≠ 8 := by
  induction d generalizing ls with
  | zero => exact blocks_text (fun _ => []) (fun _ e he => by cases he) 3 ls
  | succ d ih => exact blocks_text (blocksAt d) (fun ls => (ih ls).1) (2 - (d : Int)) ls
def evAt (l : List Ev) (i : Nat) : List Ev :=
  match l[i]? with
  | some e => if e.kind = 8 ∧ l[i - 1]?.map (fun x => x.kind) ≠ some 5 then inlineS e.text false else [e]
  | none => []
def evUpto (l : List Ev) (k : Nat) : List Ev := (List.range k).flatMap (evAt l)
def eventsS (t : List UInt8) : List Ev := evUpto (blocksAt 3 (linesL [] t)) (blocksAt 3 (linesL [] t)).length
end Go.Proofs.YtljcljipppjnoabGreatDoor

namespace Go.Proofs.YtljcljipppjnoabGreatDoor
open Go.RowKit
end Go.Proofs.YtljcljipppjnoabGreatDoor

namespace Go.Proofs.YtljcljipppjnoabGreatDoor
open Go.RowKit
def deepS (st : List Ev) : Nat := (st.filter fun e => decide (e.kind = 2 ∨ e.kind = 4)).length
def topK (st : List Ev) : Int := match st.getLast? with
  | some e => e.kind
  | none => -1
def insideS (st : List Ev) (k : Int) : Bool :=
  if (k = 6 ∨ k = 7) ∧ ∃ e ∈ st, e.kind = k then false
  else if k = 4 then decide (topK st = 3 ∧ deepS st < 3)
  else if k = 6 ∨ k = 7 then decide (topK st = 0 ∨ topK st = 1 ∨ topK st = 6 ∨ topK st = 7)
  else if k = 2 ∨ k = 3 then decide ((topK st = -1 ∨ topK st = 2 ∨ topK st = 4) ∧ deepS st < 3)
  else decide (topK st = -1 ∨ topK st = 2 ∨ topK st = 4)
def nest1 (st : List Ev) (prev : Int) (e : Ev) : Option (List Ev) :=
  if 8 ≤ e.kind then
    if st = [] ∨ e.fin = true ∨ e.level ≠ 0 ∨ (e.kind = 8 ∧ (e.text = [] ∨ prev = 8)) ∨ (2 ≤ topK st ∧ topK st ≤ 4) then none else some st
  else if e.fin = true then
    match st.getLast? with
    | some o => if o.kind = e.kind ∧ o.level = e.level then some st.dropLast else none
    | none => none
  else if ((e.kind = 1) ↔ 0 < e.level) ∧ e.level ≤ 3 ∧ 0 ≤ e.level ∧ insideS st e.kind = true then some (st ++ [e]) else none
def nestS (st : List Ev) (prev : Int) : List Ev → Option (List Ev)
  | [] => some st
  | e :: r => match nest1 st prev e with
    | some st' => nestS st' e.kind r
    | none => none
def lastK (prev : Int) (l : List Ev) : Int := match l.getLast? with
  | some e => e.kind
  | none => prev
structure Fit (st : List Ev) (l : List UInt8) (ins : Bool) : Prop where
  top : topK st = 0 ∨ topK st = 1 ∨ topK st = 6 ∨ topK st = 7
  emp : ins = false → ∀ e ∈ st, e.kind ≠ 6
  lnk : (∃ e ∈ st, e.kind = 7) → (91 : UInt8) ∉ l
def expS (p : Option Int) : List Ev → List Ev
  | [] => []
  | e :: r => (if e.kind = 8 ∧ p ≠ some 5 then inlineS e.text false else [e]) ++ expS (some e.kind) r
def lastO (p : Option Int) (l : List Ev) : Option Int := match l.getLast? with
  | some e => some e.kind
  | none => p
theorem lastO_cons (p : Option Int) (e : Ev) (l : List Ev) : lastO p (e :: l) = lastO (some e.kind) l := by
  unfold lastO
  cases l with
  | nil => rfl
  | cons a b =>
    rw [List.getLast?_cons_cons]
    cases h : (a :: b).getLast? with
    | none => simp at h
    | some x => rfl
theorem exp_app (p : Option Int) (a b : List Ev) : expS p (a ++ b) = expS p a ++ expS (lastO p a) b := by
  induction a generalizing p with
  | nil => rfl
  | cons e a ih => rw [List.cons_append, expS, expS, lastO_cons, ih, List.append_assoc]
theorem exp_ne (p : Option Int) (e : Ev) (r : List Ev) (h : e.kind ≠ 8) : expS p (e :: r) = e :: expS (some e.kind) r := by
  rw [expS, if_neg (fun x => h x.1)]
  rfl
theorem evAt_exp (a b : List Ev) (e : Ev) (h : a ≠ [] ∨ True) : evAt (a ++ e :: b) a.length = if e.kind = 8 ∧ lastO none a ≠ some 5 then inlineS e.text false else [e] := by
  have hat : (a ++ e :: b)[a.length]? = some e := by simp
  unfold evAt
  rw [hat]
  simp only
  rcases List.eq_nil_or_concat a with rfl | ⟨pre, x, rfl⟩
  · have h0 : lastO none ([] : List Ev) = none := rfl
    rw [h0]
    by_cases hk : e.kind = 8
    · rw [if_pos ⟨hk, by simp [hk]⟩, if_pos ⟨hk, by simp⟩]
    · rw [if_neg (fun hh => hk hh.1), if_neg (fun hh => hk hh.1)]
  · rw [List.concat_eq_append]
    have h1 : lastO none (pre ++ [x]) = some x.kind := by simp [lastO]
    have h2 : (pre ++ [x] ++ e :: b)[(pre ++ [x]).length - 1]? = some x := by simp
    rw [h1, h2]
    rfl
theorem range_exp (b a : List Ev) : (List.range' a.length b.length).flatMap (evAt (a ++ b)) = expS (lastO none a) b := by
  induction b generalizing a with
  | nil => rfl
  | cons e b ih =>
    rw [List.length_cons, List.range'_succ, List.flatMap_cons, evAt_exp a b e (Or.inr trivial), expS]
    have h1 := ih (a ++ [e])
    rw [List.length_append, List.length_singleton, List.append_assoc, List.singleton_append] at h1
    rw [h1]
    congr 2
    simp [lastO]
theorem events_exp (t : List UInt8) : eventsS t = expS none (blocksAt 3 (linesL [] t)) := by
  have h := range_exp (blocksAt 3 (linesL [] t)) []
  rw [List.nil_append, List.length_nil] at h
  unfold eventsS evUpto
  rw [List.range_eq_range']
  exact h
def Good (st : List Ev) (l : List Ev) : Prop := ∀ p prev, nestS st prev (expS p l) = some st
structure Room (st : List Ev) (d : Nat) : Prop where
  top : topK st = -1 ∨ topK st = 2 ∨ topK st = 4
  deep : deepS st + d ≤ 3
  no : ∀ e ∈ st, e.kind ≠ 6 ∧ e.kind ≠ 7
end Go.Proofs.YtljcljipppjnoabGreatDoor

namespace Go.Proofs.YtljcljipppjnoabGreatDoor
open Go.RowKit
def cost (l : List Ev) : Nat := (l.map fun e => 1 + 2 * e.text.length).sum
theorem cost_app (a b : List Ev) : cost (a ++ b) = cost a + cost b := by simp [cost]
theorem cost_cons (e : Ev) (r : List Ev) : cost (e :: r) = 1 + 2 * e.text.length + cost r := by simp [cost]
theorem cost_exp (p : Option Int) (l : List Ev) : (expS p l).length ≤ cost l := by
  induction l generalizing p with
  | nil => exact Nat.le_refl _
  | cons e r ih =>
    rw [expS, List.length_append, cost_cons]
    have h1 := ih (some e.kind)
    have h2 := (inlF_facts (e.text.length + 1)).1 e.text false
    have h3 : (if e.kind = 8 ∧ p ≠ some 5 then inlineS e.text false else [e]).length ≤ 1 + 2 * e.text.length := by
      split
      · unfold inlineS; omega
      · simp
    omega
theorem cost_leaf (k v : Int) (t : List UInt8) : cost (leafS k v t) ≤ 3 + 2 * t.length := by
  unfold leafS
  split <;> simp [cost] <;> omega
theorem tot_more2 (ls : List (List UInt8)) (n : Nat) (hn : n ≤ ls.length) : tot (moreAt ls n).1 + tot (ls.drop (moreAt ls n).2) ≤ tot (ls.drop n) := by
  induction hm : ls.length - n using Nat.strongRecOn generalizing n with
  | _ m ih =>
    have hge := behind_ge ls n
    by_cases h : behindS ls n < ls.length
    · cases h2 : two ls[behindS ls n] with
      | true =>
        have a := ih (ls.length - (behindS ls n + 1)) (by omega) (behindS ls n + 1) (by omega) rfl
        rw [more_go ls n _ rfl h h2, tot_append, tot_rep, tot_cons]
        generalize behindS ls n = k at h a hge ⊢
        have e1 : ls.drop n = (ls.drop n).take (k - n) ++ ls[k] :: ls.drop (k + 1) := by
          have := List.take_append_drop (k - n) (ls.drop n)
          rw [List.drop_drop, show n + (k - n) = k by omega, List.drop_eq_getElem_cons h] at this
          exact this.symm
        rw [e1, tot_append, tot_cons]
        have h3 := tot_len ((ls.drop n).take (k - n))
        rw [List.length_take, List.length_drop] at h3
        have h4 : (ls[k].drop 2).length ≤ ls[k].length := by rw [List.length_drop]; omega
        simp only
        omega
      | false =>
        rw [more_no ls n _ rfl h h2]
        simp [tot_nil]
    · rw [more_end ls n _ rfl h]
      simp [tot_nil]
theorem tot_drops (ls : List (List UInt8)) {j k : Nat} (h : j ≤ k) : tot (ls.drop k) ≤ tot (ls.drop j) := by
  have e : ls.drop k = (ls.drop j).drop (k - j) := by rw [List.drop_drop, show j + (k - j) = k by omega]
  rw [e]
  exact tot_drop _ _
theorem item_some {l : List UInt8} (h : itemL l = true) : 1 ≤ l.length := by
  cases l with
  | nil => exact absurd (show itemS ⟨#[]⟩ = true from h) (by decide +kernel)
  | cons c r => simp
theorem tot_item2 (ls : List (List UInt8)) (n : Nat) (hn : n < ls.length) (hi : itemL ls[n] = true) : tot (itemIn ls n) + 1 + tot (ls.drop (moreAt ls (n + 1)).2) ≤ tot (ls.drop n) := by
  have h1 := tot_more2 ls (n + 1) (by omega)
  have h2 := item_some hi
  rw [List.drop_eq_getElem_cons hn, tot_cons]
  rw [itemIn, tot_cons, List.getElem?_eq_getElem hn, Option.getD_some, List.length_drop]
  omega
theorem cost_items (inner : List (List UInt8) → List Ev) (hI : ∀ ls, cost (inner ls) ≤ 4 * tot ls) (ls : List (List UInt8)) (n : Nat) (hn : n < ls.length) (hi : itemL ls[n] = true) : cost (itemsAt inner ls n).1 + 2 + 4 * tot (ls.drop (itemsAt inner ls n).2) ≤ 4 * tot (ls.drop n) := by
  induction hm : ls.length - n using Nat.strongRecOn generalizing n with
  | _ m ih =>
    have hev : cost (itemEv inner ls n) ≤ 2 + 4 * tot (itemIn ls n) := by
      have := hI (itemIn ls n)
      rw [itemEv, cost_app, cost_app]
      simp [cost] at *
      omega
    have hti := tot_item2 ls n hn hi
    have hge := behind_ge ls (moreAt ls (n + 1)).2
    have hmg := more_ge ls (n + 1)
    by_cases h : behindS ls (moreAt ls (n + 1)).2 < ls.length
    · cases h2 : itemL ls[behindS ls (moreAt ls (n + 1)).2] with
      | true =>
        have a := ih _ (by omega) _ h h2 rfl
        have b := tot_drops ls hge
        rw [items_go inner ls n _ rfl h h2]
        simp only [cost_app]
        omega
      | false => rw [items_no inner ls n _ rfl h h2]; simp only; omega
    · rw [items_end inner ls n _ rfl h]; simp only; omega
theorem blank_some {l : List UInt8} (h : ¬ blankL l = true) : 1 ≤ l.length := by
  cases l with
  | nil => exact absurd rfl h
  | cons c r => simp
theorem q_some {l : List UInt8} (h : isQ l = true) : (unq l).length + 1 ≤ l.length := by
  cases l with
  | nil => exact absurd h (by decide)
  | cons c r =>
    show (unq1 r).length + 1 ≤ r.length + 1
    cases r with
    | nil => exact Nat.le_refl _
    | cons d s =>
      show (if d == 32 then s else d :: s).length + 1 ≤ _
      split <;> simp
theorem tot_unq (ls : List (List UInt8)) (h : ∀ l ∈ ls, isQ l = true) : tot (ls.map unq) + ls.length ≤ tot ls := by
  induction ls with
  | nil => exact Nat.le_refl _
  | cons l r ih =>
    rw [List.map_cons, tot_cons, tot_cons, List.length_cons]
    have h1 := q_some (h l (by simp))
    have h2 := ih (fun l hl => h l (by simp [hl]))
    omega
theorem tot_quote2 (ls : List (List UInt8)) : tot (quoteIn ls) + quoteN ls ≤ tot (ls.take (quoteN ls)) := by
  have hq : quoteN ls = (ls.takeWhile isQ).length := by simp [quoteN, scan]
  have ht : ls.take (quoteN ls) = ls.takeWhile isQ := by
    rw [hq]
    have h := List.takeWhile_append_dropWhile (p := isQ) (l := ls)
    generalize List.takeWhile isQ ls = a at h
    rw [← h, List.take_left' rfl]
  unfold quoteIn
  rw [ht, hq]
  exact tot_unq _ (fun l hl => by have := List.all_takeWhile (p := isQ) (l := ls); exact List.all_eq_true.1 this l hl)
theorem cost_step (inner : List (List UInt8) → List Ev) (hI : ∀ ls, cost (inner ls) ≤ 4 * tot ls) (depth : Int) (l : List UInt8) (r : List (List UInt8)) (hb : ¬ blankL l = true) : cost (stepS inner depth l (l :: r)).1 + 4 * tot ((l :: r).drop (stepS inner depth l (l :: r)).2) ≤ 4 * tot (l :: r) := by
  have hl := blank_some hb
  unfold stepS
  split
  · have h1 := cost_leaf 5 0 (fencedT (l :: r))
    have h0 : (fencedT (l :: r)).length = tot (((l :: r).take (shutAt (l :: r) 1)).drop 1) := by rw [fencedT, codeOf_len]
    rw [h0] at h1
    have h2 : tot (((l :: r).take (shutAt (l :: r) 1)).drop 1) + 1 ≤ tot ((l :: r).take (shutAt (l :: r) 1)) := by
      have : 1 ≤ shutAt (l :: r) 1 := by unfold shutAt; omega
      obtain ⟨k, hk⟩ : ∃ k, shutAt (l :: r) 1 = k + 1 := ⟨shutAt (l :: r) 1 - 1, by omega⟩
      rw [hk, List.take_succ_cons, List.drop_succ_cons, List.drop_zero, tot_cons]
      omega
    have h3 : tot ((l :: r).drop (fencedN (l :: r))) ≤ tot ((l :: r).drop (shutAt (l :: r) 1)) := by
      unfold fencedN
      split
      · exact tot_drops _ (by omega)
      · rw [List.drop_length]; exact Nat.zero_le _
    have h4 := tot_split (l :: r) (shutAt (l :: r) 1)
    simp only
    omega
  split
  · have h1 := cost_leaf 1 (levelL l) (trimL (l.drop (levelL l)))
    have h2 := trimL_le (l.drop (levelL l))
    rw [List.length_drop] at h2
    simp only [List.drop_succ_cons, List.drop_zero]
    rw [tot_cons]
    omega
  split
  · rename_i h4
    have h1 := hI (quoteIn (l :: r))
    have h2 := tot_quote2 (l :: r)
    have h3 := tot_split (l :: r) (quoteN (l :: r))
    have h5 : 1 ≤ quoteN (l :: r) := by
      have hq := begins_q l (starts4 _ _ h4).1
      simp [quoteN, scan, hq]
    have h6 : cost (quoteS inner (l :: r)) ≤ 2 + cost (inner (quoteIn (l :: r))) := by
      rw [quoteS, cost_app, cost_app]
      simp [cost]
      omega
    simp only
    omega
  split
  · rename_i h5
    have h1 := cost_items inner hI (l :: r) 0 (by simp) (by simpa [itemL] using (starts5 _ _ h5).1)
    have h6 : cost (listS inner (l :: r)) ≤ 2 + cost (itemsAt inner (l :: r) 0).1 := by
      rw [listS, cost_app, cost_app]
      simp [cost]
      omega
    rw [List.drop_zero] at h1
    simp only [listN]
    omega
  · have h1 := cost_leaf 0 0 (joinT ((l :: r).take (paraFrom (l :: r) depth 1)))
    have h2 := joinT_len ((l :: r).take (paraFrom (l :: r) depth 1))
    have h3 := tot_split (l :: r) (paraFrom (l :: r) depth 1)
    have h4 : 2 ≤ tot ((l :: r).take (paraFrom (l :: r) depth 1)) := by
      obtain ⟨k, hk⟩ : ∃ k, paraFrom (l :: r) depth 1 = k + 1 := ⟨paraFrom (l :: r) depth 1 - 1, by unfold paraFrom; omega⟩
      rw [hk, List.take_succ_cons, tot_cons]
      omega
    simp only
    omega
theorem cost_blocks (inner : List (List UInt8) → List Ev) (c : Nat) (hc : ∀ ls, (inner ls).length ≤ c * ls.length) (hI : ∀ ls, cost (inner ls) ≤ 4 * tot ls) (depth : Int) (ls : List (List UInt8)) : cost (blocksF inner depth ls) ≤ 4 * tot ls := by
  induction hm : ls.length using Nat.strongRecOn generalizing ls with
  | _ m ih =>
    cases ls with
    | nil => simp [blocksF, cost]
    | cons l r =>
      rw [blocksF]
      rw [List.length_cons] at hm
      split
      · have := ih r.length (by omega) r rfl
        rw [tot_cons]
        omega
      · rename_i hb
        have h1 := cost_step inner hI depth l r hb
        have h2 := (step_facts inner c depth hc l r).1
        generalize stepS inner depth l (l :: r) = X at h1 h2
        have hd : (r.drop (X.2 - 1)).length ≤ r.length := by rw [List.length_drop]; omega
        have h3 := ih (r.drop (X.2 - 1)).length (by omega) _ rfl
        have e : (l :: r).drop X.2 = r.drop (X.2 - 1) := by
          obtain ⟨k, hk⟩ : ∃ k, X.2 = k + 1 := ⟨X.2 - 1, by omega⟩
          rw [hk, List.drop_succ_cons]
          rfl
        rw [e] at h1
        rw [cost_app]
        omega
theorem cost_at (d : Nat) (ls : List (List UInt8)) : cost (blocksAt d ls) ≤ 4 * tot ls := by
  induction d generalizing ls with
  | zero => exact cost_blocks (fun _ => []) 0 (fun _ => by simp) (fun _ => by simp [cost]) 3 ls
  | succ d ih => exact cost_blocks (blocksAt d) _ (fun ls => blocksAt_le d ls) ih (2 - (d : Int)) ls
theorem events_len (t : List UInt8) : (eventsS t).length ≤ 4 * (t.length + 1) := by
  rw [events_exp]
  have h1 := cost_exp none (blocksAt 3 (linesL [] t))
  have h2 := cost_at 3 (linesL [] t)
  have h3 := tot_lines t
  omega
end Go.Proofs.YtljcljipppjnoabGreatDoor

namespace Go.Proofs.YtljcljipppjnoabGreatDoor
open Go.RowKit
def letterB (c : UInt8) : Bool := decide (97 ≤ c.toNat) && decide (c.toNat ≤ 122)
structure Word (w : List UInt8) : Prop where
  ne : w ≠ []
  all : ∀ c ∈ w, letterB c = true
def letterFacts (c : UInt8) : Bool := !isBl c && !isMark c && !endsL c && !bl3 c && c != 10 && c != 35 && c != 62 && c != 45 && c != 96 && c != 42 && c != 92 && c != 93 && c != 91 && c != 13 && c != 0
theorem letter_all : ∀ n : Fin 256, letterB (UInt8.ofNat n.val) = true → letterFacts (UInt8.ofNat n.val) = true := by decide +kernel
theorem letter_facts (c : UInt8) (h : letterB c = true) : letterFacts c = true := by
  have e : UInt8.ofNat c.toNat = c := by simp
  have := letter_all ⟨c.toNat, UInt8.toNat_lt c⟩
  simp only [e] at this
  exact this h
theorem Word.facts {w : List UInt8} (h : Word w) {c : UInt8} (hc : c ∈ w) : isBl c = false ∧ isMark c = false ∧ endsL c = false ∧ bl3 c = false ∧ c ≠ 10 ∧ c ≠ 35 ∧ c ≠ 62 ∧ c ≠ 45 ∧ c ≠ 96 ∧ c ≠ 42 ∧ c ≠ 92 ∧ c ≠ 93 ∧ c ≠ 91 ∧ c ≠ 13 ∧ c ≠ 0 := by
  have := letter_facts c (h.all c hc)
  simpa [letterFacts, and_assoc] using this
theorem Word.cons {w : List UInt8} (h : Word w) : ∃ c r, w = c :: r := by
  cases w with
  | nil => exact absurd rfl h.ne
  | cons c r => exact ⟨c, r, rfl⟩
theorem Word.pos {w : List UInt8} (h : Word w) : 1 ≤ w.length := by
  obtain ⟨c, r, rfl⟩ := h.cons
  simp
theorem lines_run (cur l : List UInt8) (h : ∀ c ∈ l, c ≠ 10) : linesL cur l = if cur ++ l = [] then [] else [cur ++ l] := by
  induction l generalizing cur with
  | nil => simp [linesL]
  | cons c r ih =>
    rw [linesL, if_neg (h c (by simp)), ih (cur ++ [c]) (fun x hx => h x (by simp [hx]))]
    simp
theorem lines_feed (cur l r : List UInt8) (h : ∀ c ∈ l, c ≠ 10) : linesL cur (l ++ 10 :: r) = (cur ++ l) :: linesL [] r := by
  induction l generalizing cur with
  | nil => simp [linesL]
  | cons c l ih =>
    rw [List.cons_append, linesL, if_neg (h c (by simp)), ih (cur ++ [c]) (fun x hx => h x (by simp [hx]))]
    simp
theorem trim_same (l : List UInt8) (h1 : ∀ c, l.head? = some c → isBl c = false) (h2 : ∀ c, l.getLast? = some c → isBl c = false) : trimL l = l := by
  unfold trimL
  have e1 : l.dropWhile isBl = l := by
    cases l with
    | nil => rfl
    | cons c r => rw [List.dropWhile_cons, if_neg (by simp [h1 c rfl])]
  rw [e1]
  have e2 : l.reverse.dropWhile isBl = l.reverse := by
    cases hr : l.reverse with
    | nil => rfl
    | cons c r =>
      have : l.getLast? = some c := by rw [List.getLast?_eq_head?_reverse, hr]; rfl
      rw [List.dropWhile_cons, if_neg (by simp [h2 c this])]
  rw [e2, List.reverse_reverse]
theorem starts_plain (c : UInt8) (r : List UInt8) (d : Int) (h : c ≠ 96 ∧ c ≠ 35 ∧ c ≠ 62 ∧ c ≠ 45) : startsS ⟨(c :: r).toArray⟩ d = 0 := by
  obtain ⟨h1, h2, h3, h4⟩ := h
  have b1 : beginsS ⟨(c :: r).toArray⟩ ⟨#[96, 96, 96]⟩ = false := by simp [beginsS, List.isPrefixOf]; intro h; exact absurd h.symm h1
  have b2 : levelS ⟨(c :: r).toArray⟩ = 0 := by
    unfold levelS
    have : hashes (c :: r) = 0 := by simp [hashes, h2]
    rw [if_pos (Or.inl (by simp [this]))]
  have b3 : beginsS ⟨(c :: r).toArray⟩ ⟨#[62]⟩ = false := by simp [beginsS, List.isPrefixOf]; exact fun h => h3 h.symm
  have b4 : itemS ⟨(c :: r).toArray⟩ = false := by
    have e : (⟨(c :: r).toArray⟩ : ByteArray).toList = c :: r := by rw [list_of]
    simp [itemS, beginsS, List.isPrefixOf, e]
    exact ⟨⟨fun h => absurd h h4, fun h => absurd h.symm h4⟩, fun h => absurd h.symm h4⟩
  unfold startsS
  rw [if_neg (by simp [b1]), if_neg (by omega), if_neg (by simp [b3]), if_neg (by simp [b4])]
theorem para_one (inner : List (List UInt8) → List Ev) (d : Int) (l : List UInt8) (hb : blankL l = false) (hs : startsS ⟨l.toArray⟩ d = 0) : blocksF inner d [l] = leafS 0 0 (trimL l) := by
  have e : stepS inner d l [l] = (leafS 0 0 (trimL l), 1) := by
    unfold stepS
    rw [if_neg (by omega), if_neg (by omega), if_neg (by omega), if_neg (by omega)]
    have : paraFrom [l] d 1 = 1 := by simp [paraFrom]
    rw [this]
    simp [joinT]
  rw [blocksF, if_neg (by simp [hb]), e]
  simp [blocksF]
theorem blank_no (c : UInt8) (r : List UInt8) (h : isBl c = false) : blankL (c :: r) = false := by simp [blankL, h]
theorem para_at' (inner : List (List UInt8) → List Ev) (d : Int) (c : UInt8) (r : List UInt8) (hb : isBl c = false) (h : c ≠ 96 ∧ c ≠ 35 ∧ c ≠ 62 ∧ c ≠ 45) (hl : ∀ x, (c :: r).getLast? = some x → isBl x = false) : blocksF inner d [c :: r] = leafS 0 0 (c :: r) := by
  rw [para_one inner d (c :: r) (blank_no c r hb) (starts_plain c r d h), trim_same (c :: r) (fun x hx => by simp at hx; rw [← hx]; exact hb) hl]
theorem last_in {w : List UInt8} {x : UInt8} (hx : w.getLast? = some x) : x ∈ w := List.mem_of_getLast? hx
theorem para_word (inner : List (List UInt8) → List Ev) (d : Int) (w : List UInt8) (h : Word w) : blocksF inner d [w] = leafS 0 0 w := by
  obtain ⟨c, r, rfl⟩ := h.cons
  have f := h.facts (c := c) (by simp)
  exact para_at' inner d c r f.1 ⟨f.2.2.2.2.2.2.2.2.1, f.2.2.2.2.2.1, f.2.2.2.2.2.2.1, f.2.2.2.2.2.2.2.1⟩ (fun x hx => (h.facts (last_in hx)).1)
theorem inl_word (inner : List UInt8 → Bool → List Ev) (w : List UInt8) (h : Word w) (ins : Bool) : inlFrom inner w ins 0 [] = [⟨8, false, 0, w⟩] := by
  obtain ⟨c, r, rfl⟩ := h.cons
  have f := h.facts (c := c) (by simp)
  rw [inl_step inner (c :: r) (by simp) ins [], one_plain inner c r ins f.2.1]
  simp only [if_true, List.drop_succ_cons, List.drop_zero, List.take_succ_cons, List.take_zero]
  have := text_run inner ins [] r [] [c] (fun x hx => (h.facts (by simp [hx])).2.1)
  rw [List.append_nil] at this
  rw [this, inl_end]
  rfl
theorem inlS_word (w : List UInt8) (h : Word w) (f : Nat) (ins : Bool) : inlineF (f + 1) w ins = [⟨8, false, 0, w⟩] := inl_word _ w h ins
theorem exp_leaf (k v : Int) (t : List UInt8) (p : Option Int) (ht : t ≠ []) (hk : k ≠ 8) (h5 : k ≠ 5) : expS p (leafS k v t) = [⟨k, false, v, []⟩] ++ inlineS t false ++ [⟨k, true, v, []⟩] := by
  unfold leafS
  rw [if_neg ht, List.append_assoc, List.singleton_append, exp_ne _ _ _ hk, List.singleton_append, expS, if_pos ⟨rfl, by simp [h5]⟩, exp_ne _ _ _ hk]
  simp [expS]
theorem ev_word (w : List UInt8) (h : Word w) : eventsS w = [⟨0, false, 0, []⟩, ⟨8, false, 0, w⟩, ⟨0, true, 0, []⟩] := by
  rw [events_exp, lines_run [] w (fun c hc => (h.facts hc).2.2.2.2.1), List.nil_append, if_neg h.ne]
  show expS none (blocksF (blocksAt 2) (2 - ((2 : Nat) : Int)) [w]) = _
  rw [para_word _ _ w h, exp_leaf 0 0 w none h.ne (by decide) (by decide)]
  unfold inlineS
  rw [inlS_word w h]
  rfl
theorem starts_h2 (r : List UInt8) (d : Int) : startsS ⟨(35 :: 35 :: 32 :: r).toArray⟩ d = 3 ∧ levelL (35 :: 35 :: 32 :: r) = 2 := by
  have b1 : beginsS ⟨(35 :: 35 :: 32 :: r).toArray⟩ ⟨#[96, 96, 96]⟩ = false := by simp [beginsS, List.isPrefixOf]
  have hh : hashes (35 :: 35 :: 32 :: r) = 2 := by simp [hashes]
  have b2 : levelS ⟨(35 :: 35 :: 32 :: r).toArray⟩ = 2 := by
    unfold levelS
    have e : (⟨(35 :: 35 :: 32 :: r).toArray⟩ : ByteArray).data.toList = 35 :: 35 :: 32 :: r := rfl
    rw [e, hh, if_neg (by simp [isBl])]
  refine ⟨?_, b2⟩
  unfold startsS
  rw [if_neg (by simp [b1]), if_pos (by omega)]
theorem trim_both (w : List UInt8) (h : Word w) : trimL (32 :: (w ++ [32])) = w := by
  unfold trimL
  obtain ⟨c, r, rfl⟩ := h.cons
  have f := h.facts (c := c) (by simp)
  have e1 : (32 :: (c :: r ++ [32])).dropWhile isBl = c :: r ++ [32] := by
    rw [List.dropWhile_cons, if_pos (by decide), List.cons_append, List.dropWhile_cons, if_neg (by simp [f.1])]
  rw [e1, List.reverse_append, List.reverse_singleton, List.singleton_append, List.dropWhile_cons, if_pos (by decide)]
  have e2 : (c :: r).reverse.dropWhile isBl = (c :: r).reverse := by
    cases hr : (c :: r).reverse with
    | nil => rfl
    | cons x t =>
      have hx : (c :: r).getLast? = some x := by rw [List.getLast?_eq_head?_reverse, hr]; rfl
      rw [List.dropWhile_cons, if_neg (by simp [(h.facts (last_in hx)).1])]
  rw [e2, List.reverse_reverse]
theorem ev_head (w : List UInt8) (h : Word w) : eventsS (35 :: 35 :: 32 :: (w ++ [32, 10])) = [⟨1, false, 2, []⟩, ⟨8, false, 0, w⟩, ⟨1, true, 2, []⟩] := by
  have e : (35 :: 35 :: 32 :: (w ++ [32, 10]) : List UInt8) = (35 :: 35 :: 32 :: (w ++ [32])) ++ 10 :: [] := by simp
  have hl : ∀ c ∈ (35 :: 35 :: 32 :: (w ++ [32]) : List UInt8), c ≠ 10 := by
    intro c hc
    simp at hc
    rcases hc with rfl | rfl | hc | rfl
    · decide
    · decide
    · exact (h.facts hc).2.2.2.2.1
    · decide
  rw [events_exp, e, lines_feed [] _ [] hl, List.nil_append]
  show expS none (blocksF (blocksAt 2) (2 - ((2 : Nat) : Int)) [35 :: 35 :: 32 :: (w ++ [32])]) = _
  obtain ⟨s1, s2⟩ := starts_h2 (w ++ [32]) (2 - ((2 : Nat) : Int))
  have es : stepS (blocksAt 2) (2 - ((2 : Nat) : Int)) (35 :: 35 :: 32 :: (w ++ [32])) [35 :: 35 :: 32 :: (w ++ [32])] = (leafS 1 2 w, 1) := by
    unfold stepS
    rw [if_neg (by omega), if_pos s1, s2]
    have : (35 :: 35 :: 32 :: (w ++ [32]) : List UInt8).drop 2 = 32 :: (w ++ [32]) := rfl
    rw [this, trim_both w h]
    rfl
  rw [blocksF, if_neg (by simp [blankL, isBl]), es]
  simp only [Nat.sub_self, List.drop_zero]
  rw [blocksF, List.append_nil, exp_leaf 1 2 w none h.ne (by decide) (by decide)]
  unfold inlineS
  rw [inlS_word w h]
  rfl
theorem pfrom_word (l : List UInt8) (w r : List UInt8) (h : ∀ c ∈ w, c ≠ 96 ∧ c ≠ 92 ∧ c ≠ 42) (k : Nat) (hd : l.drop k = w ++ 42 :: r) : pfrom l k = k + w.length := by
  induction w generalizing k with
  | nil =>
    have h0 : l[k]? = some 42 := by have := List.getElem?_drop (xs := l) (i := k) (j := 0); rw [hd] at this; simpa using this.symm
    rw [pfrom_at l k (fun hh => hh.2 h0)]
    rfl
  | cons c w ih =>
    obtain ⟨h1, h2, h3⟩ := h c (by simp)
    have h0 : l[k]? = some c := by have := List.getElem?_drop (xs := l) (i := k) (j := 0); rw [hd] at this; simpa using this.symm
    have hk : k < l.length := (List.getElem?_eq_some_iff.1 h0).1
    have hp : pnext l k = k + 1 := by
      unfold pnext
      rw [if_neg (by rw [h0]; simp [h1]), if_neg (by rw [h0]; simp [h2])]
    rw [pfrom_go l k hk (by rw [h0]; simpa using h3), hp, ih (fun x hx => h x (by simp [hx])) (k + 1) (by rw [← List.drop_drop, hd]; rfl)]
    simp
    omega
theorem inl_em (w : List UInt8) (h : Word w) (f : Nat) : inlineF (f + 2) (42 :: (w ++ [42])) false = [⟨6, false, 0, []⟩, ⟨8, false, 0, w⟩, ⟨6, true, 0, []⟩] := by
  have hp : pfrom (42 :: (w ++ [42])) 1 = 1 + w.length := pfrom_word _ w [] (fun c hc => by have := h.facts hc; exact ⟨this.2.2.2.2.2.2.2.2.1, this.2.2.2.2.2.2.2.2.2.2.1, this.2.2.2.2.2.2.2.2.2.1⟩) 1 (by simp)
  have hpos := h.pos
  have hps : partnerS (42 :: (w ++ [42])) 0 = some (1 + w.length) := by
    unfold partnerS
    rw [Nat.zero_add, hp]
    obtain ⟨c, r, rfl⟩ := h.cons
    have f1 := h.facts (c := c) (by simp)
    have e2 : (42 :: (c :: r ++ [42]) : List UInt8)[1 + (c :: r).length - 1]?.map bl3 = some false := by
      have e : 1 + (c :: r).length - 1 = (c :: r).length := by omega
      rw [e]
      have : (42 :: (c :: r ++ [42]) : List UInt8)[(c :: r).length]? = (c :: r).getLast? := by
        rw [List.getLast?_eq_getElem?, List.length_cons, List.getElem?_cons_succ, List.getElem?_append_left (by simp)]
        rfl
      rw [this]
      cases hx : (c :: r).getLast? with
      | none => simp at hx
      | some x => simp [(h.facts (last_in hx)).2.2.2.1]
    rw [if_pos ⟨by simp; omega, by simp, by simp [f1.2.2.2.1], e2⟩]
  have ho : oneS (inlineF (f + 1)) (42 :: (w ++ [42])) 0 false = ([⟨6, false, 0, []⟩] ++ [⟨8, false, 0, w⟩] ++ [⟨6, true, 0, []⟩], w.length + 2) := by
    unfold oneS
    have e0 : (42 :: (w ++ [42]) : List UInt8)[0]? = some 42 := rfl
    rw [e0, if_neg (by decide), if_neg (by decide), if_neg (by decide), if_neg (by decide), if_pos rfl, if_neg (by decide), hps]
    have ec : cut (42 :: (w ++ [42])) (0 + 1) (1 + w.length) = w := by simp [cut]
    simp only [ec]
    rw [inlS_word w h]
    simp
    omega
  show inlFrom (inlineF (f + 1)) (42 :: (w ++ [42])) false 0 [] = _
  rw [inl_step _ _ (by simp), ho]
  rw [if_neg (show ¬ w.length + 2 = 0 by omega)]
  have ed : (42 :: (w ++ [42]) : List UInt8).drop (w.length + 2) = [] := by simp
  simp only [ed]
  rw [inl_end]
  rfl
theorem ev_em (w : List UInt8) (h : Word w) : eventsS (42 :: (w ++ [42])) = [⟨0, false, 0, []⟩, ⟨6, false, 0, []⟩, ⟨8, false, 0, w⟩, ⟨6, true, 0, []⟩, ⟨0, true, 0, []⟩] := by
  have hl : ∀ c ∈ (42 :: (w ++ [42]) : List UInt8), c ≠ 10 := by
    intro c hc
    simp at hc
    rcases hc with rfl | hc | rfl
    · decide
    · exact (h.facts hc).2.2.2.2.1
    · decide
  rw [events_exp, lines_run [] _ hl, List.nil_append, if_neg (by simp)]
  show expS none (blocksF (blocksAt 2) (2 - ((2 : Nat) : Int)) [42 :: (w ++ [42])]) = _
  rw [para_at' _ _ 42 (w ++ [42]) (by decide) (by decide) (fun x hx => by
    have : (42 :: (w ++ [42]) : List UInt8).getLast? = some 42 := by rw [← List.cons_append, List.getLast?_append]; rfl
    rw [this] at hx
    injection hx with hx
    rw [← hx]
    decide), exp_leaf 0 0 _ none (by simp) (by decide) (by decide)]
  unfold inlineS
  have e : (42 :: (w ++ [42]) : List UInt8).length + 1 = (w.length + 1) + 2 := by simp
  rw [e, inl_em w h]
  rfl
theorem ev_quote (w : List UInt8) (h : Word w) : eventsS (62 :: 32 :: w) = [⟨2, false, 0, []⟩, ⟨0, false, 0, []⟩, ⟨8, false, 0, w⟩, ⟨0, true, 0, []⟩, ⟨2, true, 0, []⟩] := by
  have hl : ∀ c ∈ (62 :: 32 :: w : List UInt8), c ≠ 10 := by
    intro c hc
    simp at hc
    rcases hc with rfl | rfl | hc
    · decide
    · decide
    · exact (h.facts hc).2.2.2.2.1
  rw [events_exp, lines_run [] _ hl, List.nil_append, if_neg (by simp)]
  show expS none (blocksF (blocksAt 2) (2 - ((2 : Nat) : Int)) [62 :: 32 :: w]) = _
  have b1 : beginsS ⟨(62 :: 32 :: w).toArray⟩ ⟨#[96, 96, 96]⟩ = false := by simp [beginsS, List.isPrefixOf]
  have b2 : levelS ⟨(62 :: 32 :: w).toArray⟩ = 0 := by
    unfold levelS
    have : hashes (62 :: 32 :: w) = 0 := by simp [hashes]
    rw [if_pos (Or.inl (by simp [this]))]
  have b3 : beginsS ⟨(62 :: 32 :: w).toArray⟩ ⟨#[62]⟩ = true := by simp [beginsS, List.isPrefixOf]
  have s1 : startsS ⟨(62 :: 32 :: w).toArray⟩ (2 - ((2 : Nat) : Int)) = 4 := by
    unfold startsS
    rw [if_neg (by simp [b1]), if_neg (by omega), if_pos ⟨b3, by decide⟩]
  have hq : quoteN [62 :: 32 :: w] = 1 := by simp [quoteN, scan, isQ]
  have hi : quoteIn [62 :: 32 :: w] = [w] := by
    unfold quoteIn
    rw [hq]
    rfl
  have es : stepS (blocksAt 2) (2 - ((2 : Nat) : Int)) (62 :: 32 :: w) [62 :: 32 :: w] = ([⟨2, false, 0, []⟩] ++ leafS 0 0 w ++ [⟨2, true, 0, []⟩], 1) := by
    unfold stepS
    rw [if_neg (by omega), if_neg (by omega), if_pos s1, hq]
    unfold quoteS
    rw [hi]
    have : blocksAt 2 [w] = leafS 0 0 w := para_word (blocksAt 1) _ w h
    rw [this]
  rw [blocksF, if_neg (by simp [blankL, isBl]), es]
  simp only [Nat.sub_self, List.drop_zero]
  rw [blocksF, List.append_nil, List.append_assoc, List.singleton_append, exp_ne _ _ _ (by decide), exp_app, exp_leaf 0 0 w _ h.ne (by decide) (by decide)]
  unfold inlineS
  rw [inlS_word w h]
  simp [expS]
end Go.Proofs.YtljcljipppjnoabGreatDoor

namespace Go.Proofs.YtljcljipppjnoabGreatDoor
open Go.RowKit
theorem tw_all {p : UInt8 → Bool} {t r : List UInt8} (h : ∀ c ∈ t, p c = true) (hr : ∀ c, r.head? = some c → p c = false) : (t ++ r).takeWhile p = t := by
  induction t with
  | nil =>
    cases r with
    | nil => rfl
    | cons c r => rw [List.nil_append, List.takeWhile_cons, if_neg (by simp [hr c rfl])]
  | cons a t ih => rw [List.cons_append, List.takeWhile_cons, if_pos (h a (by simp)), ih (fun c hc => h c (by simp [hc]))]
theorem next_run (l t r : List UInt8) (c : UInt8) (k : Nat) (hd : l.drop k = t ++ c :: r) (ht : ∀ x ∈ t, x ≠ c) : nextAt l c k = k + t.length := by
  unfold nextAt
  rw [hd, tw_all (fun x hx => by simp [ht x hx]) (fun x hx => by simp at hx; simp [hx])]
theorem next_none (l : List UInt8) (c : UInt8) (k : Nat) (ht : ∀ x ∈ l.drop k, x ≠ c) : nextAt l c k = k + (l.drop k).length := by
  unfold nextAt
  have := tw_all (p := fun x => !(x == c)) (t := l.drop k) (r := []) (fun x hx => by simp [ht x hx]) (fun x hx => by simp at hx)
  rw [List.append_nil] at this
  rw [this]
theorem stop_run (l t r : List UInt8) (c : UInt8) (k : Nat) (hd : l.drop k = t ++ c :: r) (ht : ∀ x ∈ t, endsL x = false) (hc : endsL c = true) : stopAt l k = k + t.length := by
  unfold stopAt
  rw [hd, tw_all (fun x hx => by simp [ht x hx]) (fun x hx => by simp at hx; simp [← hx, hc])]
def linkL (w : List UInt8) : List UInt8 := 91 :: (w ++ 93 :: 40 :: (w ++ [41]))
theorem linkL_len (w : List UInt8) : (linkL w).length = 2 * w.length + 4 := by simp [linkL]; omega
theorem link_word (w : List UInt8) (h : Word w) : linkS (linkL w) 0 = some (w.length + 1, 2 * w.length + 3) := by
  have f := fun c (hc : c ∈ w) => h.facts hc
  have e1 : nextAt (linkL w) 93 0 = w.length + 1 := by
    rw [next_run (linkL w) (91 :: w) (40 :: (w ++ [41])) 93 0 (by simp [linkL]) (fun x hx => by
      rcases List.mem_cons.1 hx with rfl | hx
      · decide
      · exact (f x hx).2.2.2.2.2.2.2.2.2.2.2.1)]
    simp
  have e2 : nextAt (linkL w) 91 (0 + 1) = 1 + (w ++ 93 :: 40 :: (w ++ [41])).length := by
    rw [Nat.zero_add, next_none (linkL w) 91 1 (fun x hx => ?_)]
    · rfl
    · have hx : x ∈ w ++ 93 :: 40 :: (w ++ [41]) := hx
      simp at hx
      rcases hx with hx | rfl | rfl | hx | rfl
      · exact (f x hx).2.2.2.2.2.2.2.2.2.2.2.2.1
      · decide
      · decide
      · exact (f x hx).2.2.2.2.2.2.2.2.2.2.2.2.1
      · decide
  have ed : (linkL w).drop (w.length + 1 + 2) = w ++ 41 :: [] := by
    unfold linkL
    rw [show w.length + 1 + 2 = (w.length + 2) + 1 by omega, List.drop_succ_cons, List.drop_append]
    simp
  have e3 : (linkL w)[w.length + 1 + 1]? = some 40 := by
    unfold linkL
    rw [List.getElem?_cons_succ, List.getElem?_append_right (by omega), Nat.add_sub_cancel_left]
    rfl
  have e4 : stopAt (linkL w) (w.length + 1 + 2) = w.length + 1 + 2 + w.length := stop_run _ w [] 41 _ ed (fun x hx => (f x hx).2.2.1) (by decide)
  have e5 : (linkL w)[w.length + 1 + 2 + w.length]? = some 41 := by
    have := List.getElem?_drop (xs := linkL w) (i := w.length + 1 + 2) (j := w.length)
    rw [ed] at this
    rw [← this]
    simp
  unfold linkS
  rw [e1, e2, e4, if_pos ⟨by rw [linkL_len]; omega, by simp; omega, e3, e5⟩]
  congr 2
  omega
theorem inl_link (w : List UInt8) (h : Word w) (f : Nat) : inlineF (f + 2) (linkL w) false = [⟨7, false, 0, w⟩, ⟨8, false, 0, w⟩, ⟨7, true, 0, []⟩] := by
  have ho : oneS (inlineF (f + 1)) (linkL w) 0 false = ([⟨7, false, 0, w⟩] ++ [⟨8, false, 0, w⟩] ++ [⟨7, true, 0, []⟩], 2 * w.length + 4) := by
    unfold oneS
    have e0 : (linkL w)[0]? = some 91 := rfl
    rw [e0, if_neg (by decide), if_neg (by decide), if_neg (by decide), if_pos rfl, link_word w h]
    have ec : cut (linkL w) (0 + 1) (w.length + 1) = w := by simp [cut, linkL]
    have ed : cut (linkL w) (w.length + 1 + 2) (2 * w.length + 3) = w := by
      unfold cut
      have : (linkL w).drop (w.length + 1 + 2) = w ++ 41 :: [] := by
        unfold linkL
        rw [show w.length + 1 + 2 = (w.length + 2) + 1 by omega, List.drop_succ_cons, List.drop_append]
        simp
      rw [this, show 2 * w.length + 3 - (w.length + 1 + 2) = w.length by omega]
      simp
    simp only [ec, ed]
    rw [inlS_word w h]
    simp
  show inlFrom (inlineF (f + 1)) (linkL w) false 0 [] = _
  rw [inl_step _ _ (by simp [linkL]), ho]
  rw [if_neg (show ¬ 2 * w.length + 4 = 0 by omega)]
  have ed : (linkL w).drop (2 * w.length + 4) = [] := by rw [← linkL_len]; exact List.drop_length
  simp only [ed]
  rw [inl_end]
  rfl
theorem starts_item (r : List UInt8) (d : Int) (hd : d < 3) : startsS ⟨(45 :: 32 :: r).toArray⟩ d = 5 ∧ itemL (45 :: 32 :: r) = true := by
  have b1 : beginsS ⟨(45 :: 32 :: r).toArray⟩ ⟨#[96, 96, 96]⟩ = false := by simp [beginsS, List.isPrefixOf]
  have b2 : levelS ⟨(45 :: 32 :: r).toArray⟩ = 0 := by
    unfold levelS
    have : hashes (45 :: 32 :: r) = 0 := by simp [hashes]
    rw [if_pos (Or.inl (by simp [this]))]
  have b3 : beginsS ⟨(45 :: 32 :: r).toArray⟩ ⟨#[62]⟩ = false := by simp [beginsS, List.isPrefixOf]
  have b4 : itemS ⟨(45 :: 32 :: r).toArray⟩ = true := by simp [itemS, beginsS, List.isPrefixOf]
  refine ⟨?_, b4⟩
  unfold startsS
  rw [if_neg (by simp [b1]), if_neg (by omega), if_neg (by simp [b3]), if_pos ⟨b4, hd⟩]
theorem para_link (inner : List (List UInt8) → List Ev) (d : Int) (w : List UInt8) : blocksF inner d [linkL w] = leafS 0 0 (linkL w) := by
  unfold linkL
  refine para_at' inner d 91 _ (by decide) (by decide) (fun x hx => ?_)
  have : (91 :: (w ++ 93 :: 40 :: (w ++ [41])) : List UInt8).getLast? = some 41 := by
    have e : (91 :: (w ++ 93 :: 40 :: (w ++ [41])) : List UInt8) = (91 :: (w ++ 93 :: 40 :: w)) ++ [41] := by simp
    rw [e, List.getLast?_append]
    rfl
  rw [this] at hx
  injection hx with hx
  rw [← hx]
  decide
theorem ev_items (w : List UInt8) (h : Word w) : eventsS ((45 :: 32 :: w) ++ 10 :: (45 :: 32 :: linkL w)) = [⟨3, false, 0, []⟩, ⟨4, false, 0, []⟩, ⟨0, false, 0, []⟩, ⟨8, false, 0, w⟩, ⟨0, true, 0, []⟩, ⟨4, true, 0, []⟩, ⟨4, false, 0, []⟩, ⟨0, false, 0, []⟩, ⟨7, false, 0, w⟩, ⟨8, false, 0, w⟩, ⟨7, true, 0, []⟩, ⟨0, true, 0, []⟩, ⟨4, true, 0, []⟩, ⟨3, true, 0, []⟩] := by
  have hw := fun c (hc : c ∈ w) => (h.facts hc).2.2.2.2.1
  have hl1 : ∀ c ∈ (45 :: 32 :: w : List UInt8), c ≠ 10 := by
    intro c hc
    simp at hc
    rcases hc with rfl | rfl | hc
    · decide
    · decide
    · exact hw c hc
  have hl2 : ∀ c ∈ (45 :: 32 :: linkL w : List UInt8), c ≠ 10 := by
    intro c hc
    simp [linkL] at hc
    rcases hc with rfl | rfl | rfl | hc | rfl | rfl | hc | rfl <;> first | decide | exact hw c hc
  rw [events_exp, lines_feed [] _ _ hl1, lines_run [] _ hl2, List.nil_append, List.nil_append, if_neg (by simp)]
  show expS none (blocksF (blocksAt 2) (2 - ((2 : Nat) : Int)) [45 :: 32 :: w, 45 :: 32 :: linkL w]) = _
  generalize hls : [45 :: 32 :: w, 45 :: 32 :: linkL w] = ls
  have hlen : ls.length = 2 := by rw [← hls]; rfl
  have hb1 : behindS ls 1 = 1 := by rw [← hls]; simp [behindS, blankL, isBl]
  have hb2 : behindS ls 2 = 2 := by rw [← hls]; simp [behindS]
  have g1 : ls[1]? = some (45 :: 32 :: linkL w) := by rw [← hls]; rfl
  have g0 : ls[0]? = some (45 :: 32 :: w) := by rw [← hls]; rfl
  have l1 : ls[1]'(by omega) = 45 :: 32 :: linkL w := by have := List.getElem?_eq_getElem (l := ls) (i := 1) (by omega); rw [g1] at this; exact (Option.some.inj this).symm
  have m1 : moreAt ls 1 = ([], 1) := more_no ls 1 1 hb1 (by omega) (by rw [l1]; simp [two, beginsS, List.isPrefixOf])
  have m2 : moreAt ls 2 = ([], 2) := more_end ls 2 2 hb2 (by omega)
  have i0 : itemIn ls 0 = [w] := by unfold itemIn; rw [g0, m1]; rfl
  have i1 : itemIn ls 1 = [linkL w] := by unfold itemIn; rw [g1, m2]; rfl
  have p0 : blocksAt 2 [w] = leafS 0 0 w := para_word (blocksAt 1) _ w h
  have p1 : blocksAt 2 [linkL w] = leafS 0 0 (linkL w) := para_link (blocksAt 1) _ w
  have t1 : itemsAt (blocksAt 2) ls 1 = (itemEv (blocksAt 2) ls 1, 2) := by
    rw [items_end (blocksAt 2) ls 1 2 (by rw [m2]; exact hb2) (by omega), m2]
  have t0 : itemsAt (blocksAt 2) ls 0 = (itemEv (blocksAt 2) ls 0 ++ itemEv (blocksAt 2) ls 1, 2) := by
    rw [items_go (blocksAt 2) ls 0 1 (by rw [m1]; exact hb1) (by omega) (by rw [l1]; exact (starts_item _ 0 (by decide)).2), t1]
  have es : stepS (blocksAt 2) (2 - ((2 : Nat) : Int)) (45 :: 32 :: w) ls = ([⟨3, false, 0, []⟩] ++ (([⟨4, false, 0, []⟩] ++ leafS 0 0 w ++ [⟨4, true, 0, []⟩]) ++ ([⟨4, false, 0, []⟩] ++ leafS 0 0 (linkL w) ++ [⟨4, true, 0, []⟩])) ++ [⟨3, true, 0, []⟩], 2) := by
    have s1 := (starts_item w (2 - ((2 : Nat) : Int)) (by decide)).1
    unfold stepS
    rw [if_neg (by omega), if_neg (by omega), if_neg (by omega), if_pos s1]
    unfold listS listN
    rw [t0]
    unfold itemEv
    rw [i0, i1, p0, p1]
  rw [← hls] at es ⊢
  rw [blocksF, if_neg (by simp [blankL, isBl]), es]
  have : ([45 :: 32 :: linkL w] : List (List UInt8)).drop (2 - 1) = [] := rfl
  simp only [this]
  rw [blocksF, List.append_nil]
  simp only [List.append_assoc, List.cons_append, List.nil_append]
  rw [exp_ne _ _ _ (by decide), exp_ne _ _ _ (by decide), exp_app, exp_leaf 0 0 w _ h.ne (by decide) (by decide), exp_ne _ _ _ (by decide), exp_ne _ _ _ (by decide), exp_app, exp_leaf 0 0 (linkL w) _ (by simp [linkL]) (by decide) (by decide)]
  unfold inlineS
  rw [inlS_word w h, linkL_len, show 2 * w.length + 4 + 1 = (2 * w.length + 3) + 2 by omega, inl_link w h]
  simp [expS]
end Go.Proofs.YtljcljipppjnoabGreatDoor
