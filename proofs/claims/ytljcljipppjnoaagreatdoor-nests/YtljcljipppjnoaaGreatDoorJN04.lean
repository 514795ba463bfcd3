import Derived.Test.YtljcljipppjnoaaGreatDoorJN02
import Derived.Test.YtljcljipppjnoaaGreatDoorJN03
import Derived.Deep.AppendLies
import Derived.Deep.CutBlock
import Derived.Deep.DeepCutAuto
import Derived.Deep.Light
import Derived.Lib.Join
namespace Go.Proofs.YtljcljipppjnoaaGreatDoor
open Go.RowKit
end Go.Proofs.YtljcljipppjnoaaGreatDoor

namespace Go.Proofs.YtljcljipppjnoaaGreatDoor
open Go.RowKit
def levelL (l : List UInt8) : Nat := levelS ⟨l.toArray⟩
def stepS (inner : List (List UInt8) → List Ev) (depth : Int) (l : List UInt8) (ls : List (List UInt8)) : List Ev × Nat :=
  if startsS ⟨l.toArray⟩ depth = 2 then (leafS 5 0 (fencedT ls), fencedN ls)
  else if startsS ⟨l.toArray⟩ depth = 3 then (leafS 1 (levelL l) (trimL (l.drop (levelL l))), 1)
  else if startsS ⟨l.toArray⟩ depth = 4 then (quoteS inner ls, quoteN ls)
  else if startsS ⟨l.toArray⟩ depth = 5 then (listS inner ls, listN inner ls)
  else (leafS 0 0 (joinT (ls.take (paraFrom ls depth 1))), paraFrom ls depth 1)
def blocksF (inner : List (List UInt8) → List Ev) (depth : Int) : List (List UInt8) → List Ev
  | [] => []
  | l :: r => if blankL l = true then blocksF inner depth r else (stepS inner depth l (l :: r)).1 ++ blocksF inner depth (r.drop ((stepS inner depth l (l :: r)).2 - 1))
termination_by ls => ls.length
decreasing_by
  · simp
  · simp only [List.length_drop, List.length_cons]; omega
def blocksAt : Nat → List (List UInt8) → List Ev
  | 0 => blocksF (fun _ => []) 3
  | d + 1 => blocksF (blocksAt d) (2 - (d : Int))
theorem leaf_le (k l : Int) (t : List UInt8) : (leafS k l t).length ≤ 3 := by
  unfold leafS
  split <;> simp
theorem begins_q (l : List UInt8) (h : beginsS ⟨l.toArray⟩ ⟨#[62]⟩ = true) : isQ l = true := by
  cases l with
  | nil => exact absurd h (by decide)
  | cons c r =>
    simp only [beginsS, List.isPrefixOf, Bool.and_true] at h
    simp only [isQ]
    simp at h
    simp [h]
theorem starts4 (s : ByteArray) (d : Int) (h : startsS s d = 4) : beginsS s ⟨#[62]⟩ = true ∧ d < 3 := by
  unfold startsS at h
  split at h
  · omega
  split at h
  · omega
  split at h
  · assumption
  split at h <;> omega
theorem starts5 (s : ByteArray) (d : Int) (h : startsS s d = 5) : itemS s = true ∧ d < 3 := by
  unfold startsS at h
  split at h
  · omega
  split at h
  · omega
  split at h
  · omega
  split at h
  · assumption
  · omega
theorem scan_le (p : List UInt8 → Bool) (ls : List (List UInt8)) (n : Nat) (h : n ≤ ls.length) : scan p ls n ≤ ls.length ∧ n ≤ scan p ls n := by
  unfold scan
  have := (List.takeWhile_sublist (l := ls.drop n) p).length_le
  rw [List.length_drop] at this
  omega
theorem step_facts (inner : List (List UInt8) → List Ev) (c : Nat) (depth : Int) (hI : ∀ ls, (inner ls).length ≤ c * ls.length) (l : List UInt8) (r : List (List UInt8)) :
    1 ≤ (stepS inner depth l (l :: r)).2 ∧ (stepS inner depth l (l :: r)).2 ≤ (l :: r).length ∧ (stepS inner depth l (l :: r)).1.length ≤ (c + 4) * (stepS inner depth l (l :: r)).2 := by
  have h3 : ∀ (n : Nat) (k v : Int) (t : List UInt8), 1 ≤ n → (leafS k v t).length ≤ (c + 4) * n := by
    intro n k v t hn
    have h1 := leaf_le k v t
    have h2 : (c + 4) * 1 ≤ (c + 4) * n := Nat.mul_le_mul_left _ hn
    omega
  have hlen : 1 ≤ (l :: r).length := by simp
  unfold stepS
  split
  · have hs := scan_le (fun l => !shuts l) (l :: r) 1 hlen
    have he : shutAt (l :: r) 1 = scan (fun l => !shuts l) (l :: r) 1 := rfl
    have hN : 1 ≤ fencedN (l :: r) ∧ fencedN (l :: r) ≤ (l :: r).length := by
      unfold fencedN
      split <;> omega
    exact ⟨hN.1, hN.2, h3 _ _ _ _ hN.1⟩
  split
  · exact ⟨Nat.le_refl _, hlen, h3 _ _ _ _ (Nat.le_refl _)⟩
  split
  · next h4 =>
    have hq := begins_q l (starts4 _ _ h4).1
    have hs := scan_le isQ (l :: r) 1 hlen
    have he : quoteN (l :: r) = scan isQ (l :: r) 1 := scan_lt isQ (l :: r) 0 (by simp) hq
    refine ⟨by simp only; omega, by simp only; omega, ?_⟩
    simp only
    rw [quote_len]
    have h1 := hI (quoteIn (l :: r))
    have h2 : (quoteIn (l :: r)).length = quoteN (l :: r) := by rw [quoteIn, List.length_map, List.length_take]; omega
    rw [h2] at h1
    rw [Nat.add_mul]
    omega
  split
  · obtain ⟨a1, a2, a3⟩ := items_facts inner c hI (l :: r) 0 (by simp)
    refine ⟨a1, a2, ?_⟩
    simp only [listS, listN, List.length_append, List.length_singleton]
    rw [Nat.sub_zero] at a3
    rw [Nat.add_mul] at a3 ⊢
    omega
  · have hs := scan_le (stays depth) (l :: r) 1 hlen
    have he : paraFrom (l :: r) depth 1 = scan (stays depth) (l :: r) 1 := rfl
    exact ⟨by simp only; omega, by simp only; omega, h3 _ _ _ _ (by omega)⟩
theorem blocks_le (inner : List (List UInt8) → List Ev) (c : Nat) (depth : Int) (hI : ∀ ls, (inner ls).length ≤ c * ls.length) (ls : List (List UInt8)) : (blocksF inner depth ls).length ≤ (c + 4) * ls.length := by
  induction hm : ls.length using Nat.strongRecOn generalizing ls with
  | _ m ih =>
    cases ls with
    | nil => simp [blocksF]
    | cons l r =>
      rw [blocksF]
      rw [List.length_cons] at hm
      split
      · have := ih r.length (by omega) r rfl
        have h2 : (c + 4) * r.length ≤ (c + 4) * m := Nat.mul_le_mul_left _ (by omega)
        omega
      · obtain ⟨a1, a2, a3⟩ := step_facts inner c depth hI l r
        generalize stepS inner depth l (l :: r) = X at a1 a2 a3
        rw [List.length_cons] at a2
        have := ih (r.drop (X.2 - 1)).length (by rw [List.length_drop]; omega) _ rfl
        rw [List.length_drop] at this
        have h2 : (c + 4) * X.2 + (c + 4) * (r.length - (X.2 - 1)) ≤ (c + 4) * m := by
          rw [← Nat.mul_add]
          exact Nat.mul_le_mul_left _ (by omega)
        rw [List.length_append]
        omega
theorem blocksAt_le (d : Nat) (ls : List (List UInt8)) : (blocksAt d ls).length ≤ (4 * (d + 1)) * ls.length := by
  induction d generalizing ls with
  | zero => simpa [blocksAt] using blocks_le (fun _ => []) 0 3 (by simp) ls
  | succ d ih =>
    have := blocks_le (blocksAt d) (4 * (d + 1)) (2 - (d : Int)) ih ls
    rw [blocksAt]
    rw [show 4 * (d + 1 + 1) = 4 * (d + 1) + 4 by omega]
    exact this
end Go.Proofs.YtljcljipppjnoaaGreatDoor

namespace Go.Proofs.YtljcljipppjnoaaGreatDoor
open Go.RowKit
theorem Strs.none {g o cap : Nat} {ls : List (List UInt8)} {w : World} (h : Strs g o cap ls w) (o' : Nat) (r : List (List UInt8)) (hr : r.length = 0) : Strs g o' 0 r w := by
  have : r = [] := List.eq_nil_of_length_eq_zero hr
  subst this
  exact ⟨Nat.le_refl _, by omega, h.lt, fun j l hj => by simp at hj⟩
theorem level_le (l : List UInt8) : levelL l ≤ l.length := by
  have h : hashes l ≤ l.length := (List.takeWhile_sublist (l := l) _).length_le
  unfold levelL levelS
  simp only
  split
  · exact Nat.zero_le _
  · exact h
end Go.Proofs.YtljcljipppjnoaaGreatDoor

namespace Go.Proofs.YtljcljipppjnoaaGreatDoor
open Go.RowKit
end Go.Proofs.YtljcljipppjnoaaGreatDoor

namespace Go.Proofs.YtljcljipppjnoaaGreatDoor
open Go.RowKit
def tot (ls : List (List UInt8)) : Nat := (ls.map fun l => l.length + 1).sum
theorem tot_nil : tot [] = 0 := rfl
theorem tot_cons (l : List UInt8) (r : List (List UInt8)) : tot (l :: r) = l.length + 1 + tot r := by simp [tot]
theorem tot_append (a b : List (List UInt8)) : tot (a ++ b) = tot a + tot b := by simp [tot]
theorem tot_split (ls : List (List UInt8)) (n : Nat) : tot (ls.take n) + tot (ls.drop n) = tot ls := by
  rw [← tot_append, List.take_append_drop]
theorem tot_drop (ls : List (List UInt8)) (n : Nat) : tot (ls.drop n) ≤ tot ls := by have := tot_split ls n; omega
theorem tot_take (ls : List (List UInt8)) (n : Nat) : tot (ls.take n) ≤ tot ls := by have := tot_split ls n; omega
theorem tot_len (ls : List (List UInt8)) : ls.length ≤ tot ls := by
  induction ls with
  | nil => exact Nat.le_refl _
  | cons l r ih => rw [tot_cons, List.length_cons]; omega
theorem tot_mem {ls : List (List UInt8)} {l : List UInt8} (h : l ∈ ls) : l.length ≤ tot ls := by
  induction ls with
  | nil => cases h
  | cons a r ih =>
    rw [tot_cons]
    rcases List.mem_cons.1 h with rfl | h
    · omega
    · have := ih h; omega
theorem tot_small {ls : List (List UInt8)} {M : Nat} (h : tot ls ≤ M) : Small M ls := ⟨Nat.le_trans (tot_len ls) h, fun _ hl => Nat.le_trans (tot_mem hl) h⟩
theorem tot_map (f : List UInt8 → List UInt8) (hf : ∀ l, (f l).length ≤ l.length) (ls : List (List UInt8)) : tot (ls.map f) ≤ tot ls := by
  induction ls with
  | nil => exact Nat.le_refl _
  | cons l r ih => rw [List.map_cons, tot_cons, tot_cons]; have := hf l; omega
theorem tot_quote (ls : List (List UInt8)) : tot (quoteIn ls) ≤ tot ls := Nat.le_trans (tot_map unq unq_le _) (tot_take ls _)
theorem tot_rep (n : Nat) : tot (List.replicate n []) = n := by
  induction n with
  | zero => rfl
  | succ n ih => rw [List.replicate_succ, tot_cons, ih]; simp; omega
theorem tot_more (ls : List (List UInt8)) (n : Nat) (hn : n ≤ ls.length) : tot (moreAt ls n).1 ≤ tot (ls.drop n) := by
  induction hm : ls.length - n using Nat.strongRecOn generalizing n with
  | _ m ih =>
    have hge := behind_ge ls n
    by_cases h : behindS ls n < ls.length
    · cases h2 : two ls[behindS ls n] with
      | true =>
        have a := ih (ls.length - (behindS ls n + 1)) (by omega) (behindS ls n + 1) (by omega) rfl
        rw [more_go ls n _ rfl h h2, tot_append, tot_rep, tot_cons]
        generalize behindS ls n = k at h a hge ⊢
        have e1 : ls.drop n = (ls.drop n).take (k - n) ++ ls[k] :: ls.drop (k + 1) := by
          have := List.take_append_drop (k - n) (ls.drop n)
          rw [List.drop_drop, show n + (k - n) = k by omega, List.drop_eq_getElem_cons h] at this
          exact this.symm
        rw [e1, tot_append, tot_cons]
        have h3 := tot_len ((ls.drop n).take (k - n))
        rw [List.length_take, List.length_drop] at h3
        have h4 : (ls[k].drop 2).length ≤ ls[k].length := by rw [List.length_drop]; omega
        omega
      | false =>
        rw [more_no ls n _ rfl h h2]
        exact Nat.zero_le _
    · rw [more_end ls n _ rfl h]
      exact Nat.zero_le _
theorem tot_item (ls : List (List UInt8)) (n : Nat) (hn : n < ls.length) : tot (itemIn ls n) ≤ tot ls := by
  have h1 := tot_more ls (n + 1) (by omega)
  have h2 := tot_split ls n
  rw [List.drop_eq_getElem_cons hn, tot_cons] at h2
  rw [itemIn, tot_cons, List.getElem?_eq_getElem hn, Option.getD_some, List.length_drop]
  omega
theorem codeOf_len (ls : List (List UInt8)) : (codeOf ls).length = tot ls := by
  induction ls with
  | nil => rfl
  | cons l r ih =>
    have : codeOf (l :: r) = (l ++ [10]) ++ codeOf r := by simp [codeOf]
    rw [this, tot_cons, List.length_append, ih]
    simp
theorem joinT_join (ls : List (List UInt8)) : joinT ls = Lib.join (ls.map trimL) [10] := by
  induction ls with
  | nil => rfl
  | cons l r ih =>
    cases r with
    | nil => simp [joinT, Lib.join, List.intercalate]
    | cons a b =>
      simp only [joinT, Lib.join, List.intercalate] at ih ⊢
      simpa using ih
theorem joinT_len (ls : List (List UInt8)) : (joinT ls).length ≤ tot ls := by
  cases ls with
  | nil => exact Nat.zero_le _
  | cons l r =>
    have h : ∀ r : List (List UInt8), (r.flatMap fun x => 10 :: trimL x).length ≤ tot r := by
      intro r
      induction r with
      | nil => exact Nat.le_refl _
      | cons x t ih =>
        rw [List.flatMap_cons, List.length_append, List.length_cons, tot_cons]
        have := trimL_le x
        omega
    have h1 := h r
    have h2 := trimL_le l
    rw [joinT, List.length_append, tot_cons]
    omega
def linesAll : List UInt8 → List UInt8 → List (List UInt8)
  | cur, [] => [cur]
  | cur, c :: r => if c = 10 then cur :: linesAll [] r else linesAll (cur ++ [c]) r
theorem la_ne (cur l : List UInt8) : linesAll cur l ≠ [] := by
  induction l generalizing cur with
  | nil => simp [linesAll]
  | cons c r ih =>
    rw [linesAll]
    split
    · simp
    · exact ih _
theorem lines_all (cur l : List UInt8) : linesL cur l = if (linesAll cur l).getLast? = some [] then (linesAll cur l).dropLast else linesAll cur l := by
  induction l generalizing cur with
  | nil =>
    by_cases h : cur = [] <;> simp [linesL, linesAll, h]
  | cons c r ih =>
    rw [linesL, linesAll]
    by_cases hc : c = 10
    · rw [if_pos hc, if_pos hc, ih]
      have hne := la_ne [] r
      generalize linesAll [] r = t at hne
      cases t with
      | nil => exact absurd rfl hne
      | cons a b =>
        rw [List.getLast?_cons_cons, List.dropLast_cons_cons]
        split <;> rfl
    · rw [if_neg hc, if_neg hc, ih]
theorem tot_all (cur l : List UInt8) : tot (linesAll cur l) = cur.length + l.length + 1 := by
  induction l generalizing cur with
  | nil => simp [linesAll, tot]
  | cons c r ih =>
    rw [linesAll]
    split
    · rw [tot_cons, ih]; simp; omega
    · rw [ih]; simp; omega
theorem tot_lines (l : List UInt8) : tot (linesL [] l) ≤ l.length + 1 := by
  rw [lines_all]
  have h := tot_all [] l
  simp only [List.length_nil, Nat.zero_add] at h
  split
  · rw [List.dropLast_eq_take]
    exact Nat.le_trans (tot_take _ _) (by omega)
  · omega
end Go.Proofs.YtljcljipppjnoaaGreatDoor

namespace Go.Proofs.YtljcljipppjnoaaGreatDoor
open Go.RowKit
theorem leaf_text (k v : Int) (t : List UInt8) (M : Nat) (h : t.length ≤ M) : ∀ e ∈ leafS k v t, e.text.length ≤ M := by
  intro e he
  unfold leafS at he
  simp only [List.mem_append, List.mem_singleton] at he
  rcases he with (rfl | he) | rfl
  · simp
  · split at he
    · cases he
    · simp at he
      subst he
      exact h
  · simp
theorem items_text (inner : List (List UInt8) → List Ev) (hI : ∀ ls, ∀ e ∈ inner ls, e.text.length ≤ tot ls) (ls : List (List UInt8)) (n : Nat) (hn : n < ls.length) : ∀ e ∈ (itemsAt inner ls n).1, e.text.length ≤ tot ls := by
  induction hm : ls.length - n using Nat.strongRecOn generalizing n with
  | _ m ih =>
    have hev : ∀ e ∈ itemEv inner ls n, e.text.length ≤ tot ls := by
      intro e he
      simp only [itemEv, List.mem_append, List.mem_singleton] at he
      rcases he with (rfl | he) | rfl
      · simp
      · exact Nat.le_trans (hI _ e he) (tot_item ls n hn)
      · simp
    have hge := behind_ge ls (moreAt ls (n + 1)).2
    have hmg := more_ge ls (n + 1)
    by_cases h : behindS ls (moreAt ls (n + 1)).2 < ls.length
    · cases h2 : itemL ls[behindS ls (moreAt ls (n + 1)).2] with
      | true =>
        rw [items_go inner ls n _ rfl h h2]
        intro e he
        simp only [List.mem_append] at he
        rcases he with he | he
        · exact hev e he
        · exact ih _ (by omega) _ h rfl e he
      | false => rw [items_no inner ls n _ rfl h h2]; exact hev
    · rw [items_end inner ls n _ rfl h]; exact hev
theorem step_text (inner : List (List UInt8) → List Ev) (hI : ∀ ls, ∀ e ∈ inner ls, e.text.length ≤ tot ls) (depth : Int) (l : List UInt8) (r : List (List UInt8)) : (∀ e ∈ (stepS inner depth l (l :: r)).1, e.text.length ≤ tot (l :: r)) ∧ ∀ e, (stepS inner depth l (l :: r)).1.head? = some e → e.kind ≠ 8 := by
  have hlh : ∀ k v t (e : Ev), k ≠ 8 → (leafS k v t).head? = some e → e.kind ≠ 8 := by
    intro k v t e hk he
    simp [leafS] at he
    subst he
    exact hk
  unfold stepS
  split
  · refine ⟨leaf_text _ _ _ _ ?_, fun e he => hlh _ _ _ e (by decide) he⟩
    rw [fencedT, codeOf_len]
    exact Nat.le_trans (tot_drop _ _) (tot_take _ _)
  split
  · refine ⟨leaf_text _ _ _ _ ?_, fun e he => hlh _ _ _ e (by decide) he⟩
    have h1 := trimL_le (l.drop (levelL l))
    rw [List.length_drop] at h1
    rw [tot_cons]
    omega
  split
  · refine ⟨fun e he => ?_, fun e he => ?_⟩
    · simp only [quoteS, List.mem_append, List.mem_singleton] at he
      rcases he with (rfl | he) | rfl
      · simp
      · exact Nat.le_trans (hI _ e he) (tot_quote _)
      · simp
    · simp [quoteS] at he
      subst he
      decide
  split
  · refine ⟨fun e he => ?_, fun e he => ?_⟩
    · simp only [listS, List.mem_append, List.mem_singleton] at he
      rcases he with (rfl | he) | rfl
      · simp
      · exact items_text inner hI _ 0 (by simp) e he
      · simp
    · simp [listS] at he
      subst he
      decide
  · refine ⟨leaf_text _ _ _ _ ?_, fun e he => hlh _ _ _ e (by decide) he⟩
    exact Nat.le_trans (joinT_len _) (tot_take _ _)
theorem blocks_text (inner : List (List UInt8) → List Ev) (hI : ∀ ls, ∀ e ∈ inner ls, e.text.length ≤ tot ls) (depth : Int) (ls : List (List UInt8)) : (∀ e ∈ blocksF inner depth ls, e.text.length ≤ tot ls) ∧ ∀ e, (blocksF inner depth ls).head? = some e → e.kind ≠ 8 := by
  induction hm : ls.length using Nat.strongRecOn generalizing ls with
  | _ m ih =>
    cases ls with
    | nil => simp [blocksF]
    | cons l r =>
      rw [blocksF]
      rw [List.length_cons] at hm
      split
      · obtain ⟨i1, i2⟩ := ih r.length (by omega) r rfl
        exact ⟨fun e he => by have := i1 e he; rw [tot_cons]; omega, i2⟩
      · obtain ⟨s1, s2⟩ := step_text inner hI depth l r
        have hne : (stepS inner depth l (l :: r)).1 ≠ [] := by
          unfold stepS
          split
          · simp [leafS]
          split
          · simp [leafS]
          split
          · simp [quoteS]
          split
          · simp [listS]
          · simp [leafS]
        generalize stepS inner depth l (l :: r) = X at s1 s2 hne
        have hd : (r.drop (X.2 - 1)).length ≤ r.length := by rw [List.length_drop]; omega
        obtain ⟨i1, i2⟩ := ih (r.drop (X.2 - 1)).length (by omega) _ rfl
        refine ⟨fun e he => ?_, fun e he => ?_⟩
        · rcases List.mem_append.1 he with he | he
          · exact s1 e he
          · have := i1 e he
            have := tot_drop r (X.2 - 1)
            rw [tot_cons]
            omega
        · have hh : (X.1 ++ blocksF inner depth (r.drop (X.2 - 1))).head? = X.1.head? := by
            cases h : X.1 with
            | nil => exact absurd h hne
            | cons a b => rfl
          rw [hh] at he
          exact s2 e he
theorem blocksAt_text (d : Nat) (ls : List (List UInt8)) : (∀ e ∈ blocksAt d ls, e.text.length ≤ tot ls) ∧ ∀ e, (blocksAt d ls).head? = some e → e.kind ≠ 8 := by
  induction d generalizing ls with
  | zero => exact blocks_text (fun _ => []) (fun _ e he => by cases he) 3 ls
  | succ d ih => exact blocks_text (blocksAt d) (fun ls => (ih ls).1) (2 - (d : Int)) ls
def evAt (l : List Ev) (i : Nat) : List Ev :=
  match l[i]? with
  | some e => if e.kind = 8 ∧ l[i - 1]?.map (fun x => x.kind) ≠ some 5 then inlineS e.text false else [e]
  | none => []
def evUpto (l : List Ev) (k : Nat) : List Ev := (List.range k).flatMap (evAt l)
def eventsS (t : List UInt8) : List Ev := evUpto (blocksAt 3 (linesL [] t)) (blocksAt 3 (linesL [] t)).length
end Go.Proofs.YtljcljipppjnoaaGreatDoor

namespace Go.Proofs.YtljcljipppjnoaaGreatDoor
open Go.RowKit
end Go.Proofs.YtljcljipppjnoaaGreatDoor

namespace Go.Proofs.YtljcljipppjnoaaGreatDoor
open Go.RowKit
def deepS (st : List Ev) : Nat := (st.filter fun e => decide (e.kind = 2 ∨ e.kind = 4)).length
def topK (st : List Ev) : Int := match st.getLast? with
  | some e => e.kind
  | none => -1
def insideS (st : List Ev) (k : Int) : Bool :=
  if (k = 6 ∨ k = 7) ∧ ∃ e ∈ st, e.kind = k then false
  else if k = 4 then decide (topK st = 3 ∧ deepS st < 3)
  else if k = 6 ∨ k = 7 then decide (topK st = 0 ∨ topK st = 1 ∨ topK st = 6 ∨ topK st = 7)
  else if k = 2 ∨ k = 3 then decide ((topK st = -1 ∨ topK st = 2 ∨ topK st = 4) ∧ deepS st < 3)
  else decide (topK st = -1 ∨ topK st = 2 ∨ topK st = 4)
def nest1 (st : List Ev) (prev : Int) (e : Ev) : Option (List Ev) :=
  if 8 ≤ e.kind then
    if st = [] ∨ e.fin = true ∨ e.level ≠ 0 ∨ (e.kind = 8 ∧ (e.text = [] ∨ prev = 8)) ∨ (2 ≤ topK st ∧ topK st ≤ 4) then none else some st
  else if e.fin = true then
    match st.getLast? with
    | some o => if o.kind = e.kind ∧ o.level = e.level then some st.dropLast else none
    | none => none
  else if ((e.kind = 1) ↔ 0 < e.level) ∧ e.level ≤ 3 ∧ 0 ≤ e.level ∧ insideS st e.kind = true then some (st ++ [e]) else none
def nestS (st : List Ev) (prev : Int) : List Ev → Option (List Ev)
  | [] => some st
  | e :: r => match nest1 st prev e with
    | some st' => nestS st' e.kind r
    | none => none
def lastK (prev : Int) (l : List Ev) : Int := match l.getLast? with
  | some e => e.kind
  | none => prev
theorem last_cons (prev : Int) (e : Ev) (l : List Ev) : lastK prev (e :: l) = lastK e.kind l := by
  unfold lastK
  cases l with
  | nil => rfl
  | cons a b =>
    rw [List.getLast?_cons_cons]
    cases h : (a :: b).getLast? with
    | none => simp at h
    | some x => rfl
theorem last_app (prev : Int) (a b : List Ev) : lastK prev (a ++ b) = lastK (lastK prev a) b := by
  induction a generalizing prev with
  | nil => rfl
  | cons e a ih => rw [List.cons_append, last_cons, last_cons, ih]
theorem last_snoc' (prev : Int) (a : List Ev) (e : Ev) : lastK prev (a ++ [e]) = e.kind := by rw [last_app]; rfl
theorem nest_app (a b : List Ev) (st st' : List Ev) (prev : Int) (h : nestS st prev a = some st') : nestS st prev (a ++ b) = nestS st' (lastK prev a) b := by
  induction a generalizing st prev with
  | nil =>
    simp only [nestS, Option.some.injEq] at h
    subst h
    rfl
  | cons e a ih =>
    rw [List.cons_append, nestS, last_cons]
    rw [nestS] at h
    cases h1 : nest1 st prev e with
    | none => rw [h1] at h; cases h
    | some s1 =>
      rw [h1] at h
      exact ih s1 e.kind h
theorem nest_one (st st' : List Ev) (prev : Int) (e : Ev) (h : nest1 st prev e = some st') : nestS st prev [e] = some st' := by
  simp only [nestS, h]
theorem top_snoc (st : List Ev) (e : Ev) : topK (st ++ [e]) = e.kind := by simp [topK]
theorem deep_snoc (st : List Ev) (e : Ev) : deepS (st ++ [e]) = deepS st + if e.kind = 2 ∨ e.kind = 4 then 1 else 0 := by
  unfold deepS
  rw [List.filter_append, List.length_append]
  congr 1
  by_cases h : e.kind = 2 ∨ e.kind = 4
  · simp [h]
  · simp [h]
theorem nest_within (st : List Ev) (prev : Int) (k v : Int) (t : List UInt8) (mid : List Ev) (hk : k < 8) (hv : ((k = 1) ↔ 0 < v) ∧ v ≤ 3 ∧ 0 ≤ v) (hi : insideS st k = true) (hm : nestS (st ++ [⟨k, false, v, t⟩]) k mid = some (st ++ [⟨k, false, v, t⟩])) :
    nestS st prev ([⟨k, false, v, t⟩] ++ mid ++ [⟨k, true, v, []⟩]) = some st := by
  have h1 : nestS st prev [⟨k, false, v, t⟩] = some (st ++ [⟨k, false, v, t⟩]) := by
    apply nest_one
    unfold nest1
    rw [if_neg (by show ¬ (8 : Int) ≤ k; omega), if_neg (by simp), if_pos ⟨hv.1, hv.2.1, hv.2.2, hi⟩]
  have h2 : nestS st prev ([⟨k, false, v, t⟩] ++ mid) = some (st ++ [⟨k, false, v, t⟩]) := by rw [nest_app _ _ _ _ _ h1]; exact hm
  rw [nest_app _ _ _ _ _ h2]
  apply nest_one
  unfold nest1
  rw [if_neg (by show ¬ (8 : Int) ≤ k; omega), if_pos rfl]
  simp
theorem nest_snoc (a : List Ev) (e : Ev) (st st' : List Ev) (prev : Int) (h : nestS st prev (a ++ [e]) = some st') : ∃ s1, nestS st prev a = some s1 ∧ nest1 s1 (lastK prev a) e = some st' := by
  induction a generalizing st prev with
  | nil =>
    refine ⟨st, rfl, ?_⟩
    show nest1 st prev e = some st'
    rw [List.nil_append, nestS] at h
    cases h1 : nest1 st prev e with
    | none => rw [h1] at h; cases h
    | some s1 =>
      rw [h1] at h
      simp only [nestS] at h
      exact h
  | cons x a ih =>
    rw [List.cons_append, nestS] at h
    cases h1 : nest1 st prev x with
    | none => rw [h1] at h; cases h
    | some s1 =>
      rw [h1] at h
      obtain ⟨s2, h2, h3⟩ := ih s1 x.kind h
      refine ⟨s2, ?_, ?_⟩
      · rw [nestS, h1]; exact h2
      · rw [last_cons]; exact h3
theorem nest_lone (st : List Ev) (prev : Int) (k : Int) (t : List UInt8) (hk : 8 ≤ k) (hst : topK st = 0 ∨ topK st = 1 ∨ topK st = 6 ∨ topK st = 7 ∨ topK st = 5) (ht : k = 8 → t ≠ [] ∧ prev ≠ 8) : nest1 st prev ⟨k, false, 0, t⟩ = some st := by
  have hne : st ≠ [] := fun h => by rw [h] at hst; simp [topK] at hst
  unfold nest1
  rw [if_pos hk, if_neg]
  rintro (h | h | h | h | h)
  · exact hne h
  · cases h
  · exact h rfl
  · rcases h.2 with h2 | h2
    · exact (ht h.1).1 h2
    · exact (ht h.1).2 h2
  · omega
theorem nest_add (st : List Ev) (prev : Int) (acc : List Ev) (t : List UInt8) (hst : topK st = 0 ∨ topK st = 1 ∨ topK st = 6 ∨ topK st = 7 ∨ topK st = 5) (ht : t ≠ []) (hp : prev ≠ 8) (h : nestS st prev acc = some st) : nestS st prev (addS acc t) = some st := by
  rcases List.eq_nil_or_concat acc with rfl | ⟨pre, e, rfl⟩
  · rw [add_nil]
    exact nest_one _ _ _ _ (nest_lone st prev 8 t (by decide) hst (fun _ => ⟨ht, hp⟩))
  · rw [List.concat_eq_append] at h ⊢
    rw [add_last]
    by_cases hk : e.kind = 8
    · rw [if_pos hk]
      obtain ⟨s1, h1, h2⟩ := nest_snoc pre e st st prev h
      rw [nest_app _ _ _ _ _ h1]
      apply nest_one
      unfold nest1 at h2 ⊢
      have h8 : (8 : Int) ≤ e.kind := by omega
      rw [if_pos h8] at h2
      simp only
      rw [if_pos h8]
      by_cases hc : s1 = [] ∨ e.fin = true ∨ e.level ≠ 0 ∨ (e.kind = 8 ∧ (e.text = [] ∨ lastK prev pre = 8)) ∨ (2 ≤ topK s1 ∧ topK s1 ≤ 4)
      · rw [if_pos hc] at h2; cases h2
      · rw [if_neg hc] at h2
        rw [if_neg]
        · exact h2
        · rintro (g | g | g | g | g)
          · exact hc (Or.inl g)
          · exact hc (Or.inr (Or.inl g))
          · exact hc (Or.inr (Or.inr (Or.inl g)))
          · rcases g.2 with g2 | g2
            · exact ht (List.append_eq_nil_iff.1 g2).2
            · exact hc (Or.inr (Or.inr (Or.inr (Or.inl ⟨hk, Or.inr g2⟩))))
          · exact hc (Or.inr (Or.inr (Or.inr (Or.inr g))))
    · rw [if_neg hk, nest_app _ _ _ _ _ h, last_snoc']
      exact nest_one _ _ _ _ (nest_lone st e.kind 8 t (by decide) hst (fun _ => ⟨ht, hk⟩))
structure Fit (st : List Ev) (l : List UInt8) (ins : Bool) : Prop where
  top : topK st = 0 ∨ topK st = 1 ∨ topK st = 6 ∨ topK st = 7
  emp : ins = false → ∀ e ∈ st, e.kind ≠ 6
  lnk : (∃ e ∈ st, e.kind = 7) → (91 : UInt8) ∉ l
theorem mem_cut (l : List UInt8) (a b : Nat) (c : UInt8) (h : c ∈ cut l a b) : c ∈ l := List.mem_of_mem_drop (List.mem_of_mem_take h)
theorem cut_free (l : List UInt8) (c : UInt8) (a b : Nat) (h : ¬ nextAt l c a < b) : c ∉ cut l a b := by
  intro hm
  unfold nextAt at h
  unfold cut at hm
  have hle : b - a ≤ ((l.drop a).takeWhile fun x => !(x == c)).length := by omega
  have hp : (l.drop a).take (b - a) = (((l.drop a).takeWhile fun x => !(x == c))).take (b - a) := by
    have h1 : (l.drop a) = ((l.drop a).takeWhile fun x => !(x == c)) ++ ((l.drop a).dropWhile fun x => !(x == c)) := List.takeWhile_append_dropWhile.symm
    conv => lhs; rw [h1]
    rw [List.take_append_of_le_length hle]
  rw [hp] at hm
  have h2 := List.mem_of_mem_take hm
  have : ∀ (p : UInt8 → Bool) (m : List UInt8) (x : UInt8), x ∈ m.takeWhile p → p x = true := by
    intro p m x hx
    induction m with
    | nil => simp at hx
    | cons y m ih =>
      rw [List.takeWhile_cons] at hx
      split at hx
      · rcases List.mem_cons.1 hx with rfl | hx
        · assumption
        · exact ih hx
      · cases hx
  have h3 := this _ _ _ h2
  simp at h3
theorem link_free (l : List UInt8) (i : Nat) (x : Nat × Nat) (h : linkS l i = some x) : (91 : UInt8) ∉ cut l (i + 1) x.1 := by
  unfold linkS at h
  split at h
  · next hc =>
    cases h
    exact cut_free l 91 (i + 1) _ hc.2.1
  · cases h
theorem nest_five (st : List Ev) (l : List UInt8) (ins : Bool) (h : Fit st l ins) : topK st = 0 ∨ topK st = 1 ∨ topK st = 6 ∨ topK st = 7 ∨ topK st = 5 := by
  rcases h.top with h | h | h | h
  · exact Or.inl h
  · exact Or.inr (Or.inl h)
  · exact Or.inr (Or.inr (Or.inl h))
  · exact Or.inr (Or.inr (Or.inr (Or.inl h)))
theorem inside67 (st : List Ev) (l : List UInt8) (ins : Bool) (h : Fit st l ins) (k : Int) (hk : k = 6 ∨ k = 7) (hn : ∀ e ∈ st, e.kind ≠ k) : insideS st k = true := by
  unfold insideS
  rw [if_neg (fun hh => by obtain ⟨e, he, hek⟩ := hh.2; exact hn e he hek), if_neg (by omega), if_pos hk]
  simpa using h.top
theorem nest_step (inner : List UInt8 → Bool → List Ev) (hI : ∀ l ins st prev, Fit st l ins → prev ≠ 8 → nestS st prev (inner l ins) = some st) (st : List Ev) (prev : Int) (l : List UInt8) (ins : Bool) (i : Nat) (acc : List Ev) (hf : Fit st l ins) (hp : prev ≠ 8) (h : nestS st prev acc = some st) (hz : (oneS inner l i ins).2 ≠ 0) : nestS st prev (glue acc (oneS inner l i ins).1) = some st := by
  have h5 := nest_five st l ins hf
  have hlone : ∀ k t, 8 ≤ k → k ≠ 8 → nestS st prev (glue acc [⟨k, false, 0, t⟩]) = some st := by
    intro k t h8 hk
    have : glue acc [⟨k, false, 0, t⟩] = acc ++ [⟨k, false, 0, t⟩] := by simp [glue, hk]
    rw [this, nest_app _ _ _ _ _ h]
    exact nest_one _ _ _ _ (nest_lone st _ k t h8 h5 (fun hh => absurd hh hk))
  have hmany : ∀ m : List Ev, 2 ≤ m.length → nestS st (lastK prev acc) m = some st → nestS st prev (glue acc m) = some st := by
    intro m hm hn
    have : glue acc m = acc ++ m := by
      unfold glue
      split
      · simp at hm
      · rfl
    rw [this, nest_app _ _ _ _ _ h]
    exact hn
  unfold oneS at hz ⊢
  by_cases c1 : l[i]? = some 92
  · rw [if_pos c1] at hz ⊢
    by_cases d1 : l[i + 1]? = some 10
    · rw [if_pos d1]
      exact hlone 11 [] (by decide) (by decide)
    · rw [if_neg d1] at hz ⊢
      by_cases d2 : l[i + 1]?.map signS = some true
      · rw [if_pos d2]
        show nestS st prev (glue acc [⟨8, false, 0, cut l (i + 1) (i + 2)⟩]) = some st
        have hlt : i + 1 < l.length := by
          cases hh : l[i + 1]? with
          | none => rw [hh] at d2; cases d2
          | some c => exact (List.getElem?_eq_some_iff.1 hh).1
        have hne : cut l (i + 1) (i + 2) ≠ [] := fun h0 => by
          have := cut_len l (i + 1) (i + 2) (by omega)
          rw [h0] at this
          simp at this
        have hg : glue acc [⟨8, false, 0, cut l (i + 1) (i + 2)⟩] = addS acc (cut l (i + 1) (i + 2)) := by simp [glue]
        rw [hg]
        exact nest_add st prev acc _ h5 hne hp h
      · rw [if_neg d2] at hz
        exact absurd rfl hz
  rw [if_neg c1] at hz ⊢
  by_cases c2 : l[i]? = some 10
  · rw [if_pos c2]
    exact hlone 10 [] (by decide) (by decide)
  rw [if_neg c2] at hz ⊢
  by_cases c3 : l[i]? = some 96
  · rw [if_pos c3] at hz ⊢
    by_cases d1 : nextAt l 96 (i + 1) < l.length
    · rw [if_pos d1]
      exact hlone 9 _ (by decide) (by decide)
    · rw [if_neg d1] at hz
      exact absurd rfl hz
  rw [if_neg c3] at hz ⊢
  by_cases c4 : l[i]? = some 91
  · rw [if_pos c4] at hz ⊢
    have hno7 : ∀ e ∈ st, e.kind ≠ 7 := fun e he hk => hf.lnk ⟨e, he, hk⟩ (List.mem_of_getElem? c4)
    cases hl : linkS l i with
    | none => rw [hl] at hz; exact absurd rfl hz
    | some x =>
      simp only
      refine hmany _ (by simp) (nest_within st _ 7 0 _ _ (by decide) ⟨by decide, by decide, by decide⟩ (inside67 st l ins hf 7 (Or.inr rfl) hno7) ?_)
      refine hI _ ins _ 7 ⟨?_, ?_, ?_⟩ (by decide)
      · rw [top_snoc]; exact Or.inr (Or.inr (Or.inr rfl))
      · intro hi e he
        rcases List.mem_append.1 he with he | he
        · exact hf.emp hi e he
        · simp at he; subst he; show (7 : Int) ≠ 6; decide
      · intro _
        exact link_free l i x hl
  rw [if_neg c4] at hz ⊢
  by_cases c5 : l[i]? = some 42
  · rw [if_pos c5] at hz ⊢
    cases ins with
    | true => exact absurd rfl hz
    | false =>
      rw [if_neg (by simp)] at hz ⊢
      cases hpn : partnerS l i with
      | none => rw [hpn] at hz; exact absurd rfl hz
      | some j =>
        simp only
        refine hmany _ (by simp) (nest_within st _ 6 0 _ _ (by decide) ⟨by decide, by decide, by decide⟩ (inside67 st l false hf 6 (Or.inl rfl) (hf.emp rfl)) ?_)
        refine hI _ true _ 6 ⟨?_, ?_, ?_⟩ (by decide)
        · rw [top_snoc]; exact Or.inr (Or.inr (Or.inl rfl))
        · intro hi; cases hi
        · rintro ⟨e, he, hk⟩ hm
          rcases List.mem_append.1 he with he | he
          · exact hf.lnk ⟨e, he, hk⟩ (mem_cut l _ _ _ hm)
          · simp at he; subst he; exact absurd hk (by show (6 : Int) ≠ 7; decide)
  rw [if_neg c5] at hz
  exact absurd rfl hz
theorem nest_from (inner : List UInt8 → Bool → List Ev) (hI : ∀ l ins st prev, Fit st l ins → prev ≠ 8 → nestS st prev (inner l ins) = some st) (st : List Ev) (prev : Int) (l : List UInt8) (ins : Bool) (i : Nat) (acc : List Ev) (hf : Fit st l ins) (hp : prev ≠ 8) (h : nestS st prev acc = some st) : nestS st prev (inlFrom inner l ins i acc) = some st := by
  induction hm : l.length - i using Nat.strongRecOn generalizing i acc with
  | _ m ih =>
    rw [inlFrom]
    by_cases hi : i < l.length
    · rw [dif_pos hi]
      by_cases hz : (oneS inner l i ins).2 = 0
      · rw [if_pos hz]
        have hne : cut l i (i + 1) ≠ [] := fun h0 => by
          have := cut_len l i (i + 1) (by omega)
          rw [h0] at this
          simp at this
        exact ih _ (by omega) _ _ (nest_add st prev acc _ (nest_five st l ins hf) hne hp h) rfl
      · rw [if_neg hz]
        exact ih _ (by omega) _ _ (nest_step inner hI st prev l ins i acc hf hp h hz) rfl
    · rw [dif_neg hi]
      exact h
theorem nest_inl (f : Nat) : ∀ l ins st prev, Fit st l ins → prev ≠ 8 → nestS st prev (inlineF f l ins) = some st := by
  induction f with
  | zero => intro l ins st prev _ _; rfl
  | succ f ih => intro l ins st prev hf hp; exact nest_from (inlineF f) ih st prev l ins 0 [] hf hp rfl
def expS (p : Option Int) : List Ev → List Ev
  | [] => []
  | e :: r => (if e.kind = 8 ∧ p ≠ some 5 then inlineS e.text false else [e]) ++ expS (some e.kind) r
def lastO (p : Option Int) (l : List Ev) : Option Int := match l.getLast? with
  | some e => some e.kind
  | none => p
theorem lastO_cons (p : Option Int) (e : Ev) (l : List Ev) : lastO p (e :: l) = lastO (some e.kind) l := by
  unfold lastO
  cases l with
  | nil => rfl
  | cons a b =>
    rw [List.getLast?_cons_cons]
    cases h : (a :: b).getLast? with
    | none => simp at h
    | some x => rfl
theorem exp_app (p : Option Int) (a b : List Ev) : expS p (a ++ b) = expS p a ++ expS (lastO p a) b := by
  induction a generalizing p with
  | nil => rfl
  | cons e a ih => rw [List.cons_append, expS, expS, lastO_cons, ih, List.append_assoc]
theorem exp_ne (p : Option Int) (e : Ev) (r : List Ev) (h : e.kind ≠ 8) : expS p (e :: r) = e :: expS (some e.kind) r := by
  rw [expS, if_neg (fun x => h x.1)]
  rfl
theorem evAt_exp (a b : List Ev) (e : Ev) (h : a ≠ [] ∨ True) : evAt (a ++ e :: b) a.length = if e.kind = 8 ∧ lastO none a ≠ some 5 then inlineS e.text false else [e] := by
  have hat : (a ++ e :: b)[a.length]? = some e := by simp
  unfold evAt
  rw [hat]
  simp only
  rcases List.eq_nil_or_concat a with rfl | ⟨pre, x, rfl⟩
  · have h0 : lastO none ([] : List Ev) = none := rfl
    rw [h0]
    by_cases hk : e.kind = 8
    · rw [if_pos ⟨hk, by simp [hk]⟩, if_pos ⟨hk, by simp⟩]
    · rw [if_neg (fun hh => hk hh.1), if_neg (fun hh => hk hh.1)]
  · rw [List.concat_eq_append]
    have h1 : lastO none (pre ++ [x]) = some x.kind := by simp [lastO]
    have h2 : (pre ++ [x] ++ e :: b)[(pre ++ [x]).length - 1]? = some x := by simp
    rw [h1, h2]
    rfl
theorem range_exp (b a : List Ev) : (List.range' a.length b.length).flatMap (evAt (a ++ b)) = expS (lastO none a) b := by
  induction b generalizing a with
  | nil => rfl
  | cons e b ih =>
    rw [List.length_cons, List.range'_succ, List.flatMap_cons, evAt_exp a b e (Or.inr trivial), expS]
    have h1 := ih (a ++ [e])
    rw [List.length_append, List.length_singleton, List.append_assoc, List.singleton_append] at h1
    rw [h1]
    congr 2
    simp [lastO]
theorem events_exp (t : List UInt8) : eventsS t = expS none (blocksAt 3 (linesL [] t)) := by
  have h := range_exp (blocksAt 3 (linesL [] t)) []
  rw [List.nil_append, List.length_nil] at h
  unfold eventsS evUpto
  rw [List.range_eq_range']
  exact h
def Good (st : List Ev) (l : List Ev) : Prop := ∀ p prev, nestS st prev (expS p l) = some st
theorem good_nil (st : List Ev) : Good st [] := fun _ _ => rfl
theorem good_app {st a b : List Ev} (ha : Good st a) (hb : Good st b) : Good st (a ++ b) := fun p prev => by
  rw [exp_app, nest_app _ _ _ _ _ (ha p prev)]
  exact hb _ _
theorem good_within (st : List Ev) (k v : Int) (mid : List Ev) (hk : k < 8) (hv : ((k = 1) ↔ 0 < v) ∧ v ≤ 3 ∧ 0 ≤ v) (hi : insideS st k = true) (hm : Good (st ++ [⟨k, false, v, []⟩]) mid) : Good st ([⟨k, false, v, []⟩] ++ mid ++ [⟨k, true, v, []⟩]) := by
  intro p prev
  have hk8 : k ≠ 8 := by omega
  have e1 : expS p ([⟨k, false, v, []⟩] ++ mid ++ [⟨k, true, v, []⟩]) = [⟨k, false, v, []⟩] ++ expS (some k) mid ++ [⟨k, true, v, []⟩] := by
    rw [List.append_assoc, List.singleton_append, exp_ne _ _ _ hk8, exp_app, exp_ne _ _ _ hk8]
    rfl
  rw [e1]
  exact nest_within st prev k v [] _ hk hv hi (hm _ _)
theorem good_leaf (st : List Ev) (k v : Int) (t : List UInt8) (hk : k = 0 ∨ k = 1 ∨ k = 5) (hv : ((k = 1) ↔ 0 < v) ∧ v ≤ 3 ∧ 0 ≤ v) (hi : insideS st k = true) (hno : ∀ e ∈ st, e.kind ≠ 6 ∧ e.kind ≠ 7) : Good st (leafS k v t) := by
  intro p prev
  have hk8 : k ≠ 8 := by omega
  unfold leafS
  by_cases ht : t = []
  · rw [if_pos ht, List.append_nil]
    have e1 : expS p ([⟨k, false, v, []⟩] ++ [⟨k, true, v, []⟩]) = [⟨k, false, v, []⟩] ++ [] ++ [⟨k, true, v, []⟩] := by
      rw [List.singleton_append, exp_ne _ _ _ hk8, exp_ne _ _ _ hk8]
      rfl
    rw [e1]
    exact nest_within st prev k v [] [] (by omega) hv hi rfl
  · rw [if_neg ht]
    by_cases h5 : k = 5
    · have e1 : expS p ([⟨k, false, v, []⟩] ++ [⟨8, false, 0, t⟩] ++ [⟨k, true, v, []⟩]) = [⟨k, false, v, []⟩] ++ [⟨8, false, 0, t⟩] ++ [⟨k, true, v, []⟩] := by
        rw [List.append_assoc, List.singleton_append, exp_ne _ _ _ hk8, List.singleton_append, expS, if_neg (fun h => h.2 (by rw [h5])), exp_ne _ _ _ hk8]
        rfl
      rw [e1]
      refine nest_within st prev k v [] _ (by omega) hv hi (nest_one _ _ _ _ (nest_lone _ _ 8 t (by decide) ?_ (fun _ => ⟨ht, hk8⟩)))
      rw [top_snoc]
      exact Or.inr (Or.inr (Or.inr (Or.inr h5)))
    · have e1 : expS p ([⟨k, false, v, []⟩] ++ [⟨8, false, 0, t⟩] ++ [⟨k, true, v, []⟩]) = [⟨k, false, v, []⟩] ++ inlineS t false ++ [⟨k, true, v, []⟩] := by
        rw [List.append_assoc, List.singleton_append, exp_ne _ _ _ hk8, List.singleton_append, expS, if_pos ⟨rfl, fun h => h5 (Option.some.inj h)⟩, exp_ne _ _ _ hk8, List.append_assoc]
        rfl
      rw [e1]
      refine nest_within st prev k v [] _ (by omega) hv hi (nest_inl _ t false _ k ⟨?_, ?_, ?_⟩ hk8)
      · rw [top_snoc]
        rcases hk with h | h | h
        · exact Or.inl h
        · exact Or.inr (Or.inl h)
        · exact absurd h h5
      · intro _ e he
        rcases List.mem_append.1 he with he | he
        · exact (hno e he).1
        · simp at he; subst he; show k ≠ 6; omega
      · rintro ⟨e, he, hk7⟩
        rcases List.mem_append.1 he with he | he
        · exact absurd hk7 (hno e he).2
        · simp at he; subst he; exact absurd hk7 (by show k ≠ 7; omega)
structure Room (st : List Ev) (d : Nat) : Prop where
  top : topK st = -1 ∨ topK st = 2 ∨ topK st = 4
  deep : deepS st + d ≤ 3
  no : ∀ e ∈ st, e.kind ≠ 6 ∧ e.kind ≠ 7
theorem room_leaf (st : List Ev) (d : Nat) (h : Room st d) (k : Int) (hk : k = 0 ∨ k = 1 ∨ k = 5) : insideS st k = true := by
  unfold insideS
  rw [if_neg (fun x => by omega), if_neg (by omega), if_neg (by omega), if_neg (by omega)]
  simpa using h.top
theorem room_two (st : List Ev) (d : Nat) (h : Room st (d + 1)) (k : Int) (hk : k = 2 ∨ k = 3) : insideS st k = true := by
  unfold insideS
  rw [if_neg (fun x => by omega), if_neg (by omega), if_neg (by omega), if_pos hk]
  have := h.deep
  simp only [decide_eq_true_eq]
  exact ⟨h.top, by omega⟩
theorem good_items (inner : List (List UInt8) → List Ev) (st : List Ev) (d : Nat) (hr : Room st (d + 1)) (hI : ∀ s ls, Room s d → Good s (inner ls)) (ls : List (List UInt8)) (n : Nat) : Good (st ++ [⟨3, false, 0, []⟩]) (itemsAt inner ls n).1 := by
  induction hm : ls.length - n using Nat.strongRecOn generalizing n with
  | _ m ih =>
    have hdeep := hr.deep
    have hev : Good (st ++ [⟨3, false, 0, []⟩]) (itemEv inner ls n) := by
      have h3 : deepS (st ++ [⟨3, false, 0, []⟩]) = deepS st := by rw [deep_snoc]; simp
      refine good_within _ 4 0 _ (by decide) ⟨by decide, by decide, by decide⟩ ?_ (hI _ _ ⟨?_, ?_, ?_⟩)
      · unfold insideS
        rw [if_neg (fun x => by omega), if_pos rfl]
        simp only [decide_eq_true_eq]
        rw [top_snoc, h3]
        exact ⟨rfl, by omega⟩
      · rw [top_snoc]; exact Or.inr (Or.inr rfl)
      · rw [deep_snoc, h3]; simp; omega
      · intro e he
        rcases List.mem_append.1 he with he | he
        · rcases List.mem_append.1 he with he | he
          · exact hr.no e he
          · simp at he; subst he; exact ⟨by decide, by decide⟩
        · simp at he; subst he; exact ⟨by decide, by decide⟩
    have hge := behind_ge ls (moreAt ls (n + 1)).2
    have hmg := more_ge ls (n + 1)
    by_cases h : behindS ls (moreAt ls (n + 1)).2 < ls.length
    · cases h2 : itemL ls[behindS ls (moreAt ls (n + 1)).2] with
      | true =>
        rw [items_go inner ls n _ rfl h h2]
        exact good_app hev (ih _ (by omega) _ rfl)
      | false => rw [items_no inner ls n _ rfl h h2]; exact hev
    · rw [items_end inner ls n _ rfl h]; exact hev
theorem starts_deep (s : ByteArray) (depth : Int) (h : startsS s depth = 4 ∨ startsS s depth = 5) : depth < 3 := by
  unfold startsS at h
  by_cases c1 : beginsS s ⟨#[96, 96, 96]⟩ = true
  · rw [if_pos c1] at h; omega
  rw [if_neg c1] at h
  by_cases c2 : 0 < levelS s
  · rw [if_pos c2] at h; omega
  rw [if_neg c2] at h
  by_cases c3 : beginsS s ⟨#[62]⟩ = true ∧ depth < 3
  · exact c3.2
  rw [if_neg c3] at h
  by_cases c4 : itemS s = true ∧ depth < 3
  · exact c4.2
  rw [if_neg c4] at h
  omega
theorem starts_level (s : ByteArray) (depth : Int) (h : startsS s depth = 3) : 0 < levelS s := by
  unfold startsS at h
  by_cases c1 : beginsS s ⟨#[96, 96, 96]⟩ = true
  · rw [if_pos c1] at h; omega
  rw [if_neg c1] at h
  by_cases c2 : 0 < levelS s
  · exact c2
  rw [if_neg c2] at h
  by_cases c3 : beginsS s ⟨#[62]⟩ = true ∧ depth < 3
  · rw [if_pos c3] at h; omega
  rw [if_neg c3] at h
  by_cases c4 : itemS s = true ∧ depth < 3
  · rw [if_pos c4] at h; omega
  rw [if_neg c4] at h
  omega
theorem level_three (s : ByteArray) : levelS s ≤ 3 := by
  unfold levelS
  split <;> omega
theorem good_step (inner : List (List UInt8) → List Ev) (st : List Ev) (d : Nat) (depth : Int) (hd : depth + (d : Int) = 3) (hr : Room st d) (hI : ∀ d', d = d' + 1 → ∀ s ls, Room s d' → Good s (inner ls)) (l : List UInt8) (r : List (List UInt8)) : Good st (stepS inner depth l (l :: r)).1 := by
  have z0 : (((0 : Int) = 1) ↔ (0 : Int) < 0) ∧ (0 : Int) ≤ 3 ∧ (0 : Int) ≤ 0 := ⟨by decide, by decide, by decide⟩
  unfold stepS
  by_cases c2 : startsS ⟨l.toArray⟩ depth = 2
  · rw [if_pos c2]
    exact good_leaf st 5 0 _ (Or.inr (Or.inr rfl)) ⟨by decide, by decide, by decide⟩ (room_leaf st d hr 5 (Or.inr (Or.inr rfl))) hr.no
  rw [if_neg c2]
  by_cases c3 : startsS ⟨l.toArray⟩ depth = 3
  · rw [if_pos c3]
    have h1 := starts_level _ _ c3
    have h2 := level_three ⟨l.toArray⟩
    exact good_leaf st 1 (levelL l) _ (Or.inr (Or.inl rfl)) ⟨⟨fun _ => by unfold levelL; omega, fun _ => rfl⟩, by unfold levelL; omega, by omega⟩ (room_leaf st d hr 1 (Or.inr (Or.inl rfl))) hr.no
  rw [if_neg c3]
  by_cases c4 : startsS ⟨l.toArray⟩ depth = 4
  · rw [if_pos c4]
    have hlt := starts_deep _ _ (Or.inl c4)
    obtain ⟨d', rfl⟩ : ∃ d', d = d' + 1 := ⟨d - 1, by omega⟩
    have hdeep := hr.deep
    refine good_within st 2 0 _ (by decide) ⟨by decide, by decide, by decide⟩ (room_two st d' hr 2 (Or.inl rfl)) (hI d' rfl _ _ ⟨?_, ?_, ?_⟩)
    · rw [top_snoc]; exact Or.inr (Or.inl rfl)
    · rw [deep_snoc]; simp; omega
    · intro e he
      rcases List.mem_append.1 he with he | he
      · exact hr.no e he
      · simp at he; subst he; exact ⟨by decide, by decide⟩
  rw [if_neg c4]
  by_cases c5 : startsS ⟨l.toArray⟩ depth = 5
  · rw [if_pos c5]
    have hlt := starts_deep _ _ (Or.inr c5)
    obtain ⟨d', rfl⟩ : ∃ d', d = d' + 1 := ⟨d - 1, by omega⟩
    exact good_within st 3 0 _ (by decide) ⟨by decide, by decide, by decide⟩ (room_two st d' hr 3 (Or.inr rfl)) (good_items inner st d' hr (hI d' rfl) _ 0)
  rw [if_neg c5]
  exact good_leaf st 0 0 _ (Or.inl rfl) z0 (room_leaf st d hr 0 (Or.inl rfl)) hr.no
theorem good_blocks (inner : List (List UInt8) → List Ev) (st : List Ev) (d : Nat) (depth : Int) (hd : depth + (d : Int) = 3) (hr : Room st d) (hI : ∀ d', d = d' + 1 → ∀ s ls, Room s d' → Good s (inner ls)) (ls : List (List UInt8)) : Good st (blocksF inner depth ls) := by
  induction hm : ls.length using Nat.strongRecOn generalizing ls with
  | _ m ih =>
    cases ls with
    | nil => rw [blocksF]; exact good_nil st
    | cons l r =>
      rw [blocksF]
      rw [List.length_cons] at hm
      split
      · exact ih r.length (by omega) r rfl
      · have s1 := good_step inner st d depth hd hr hI l r
        generalize stepS inner depth l (l :: r) = X at s1
        have hdl : (r.drop (X.2 - 1)).length ≤ r.length := by rw [List.length_drop]; omega
        exact good_app s1 (ih (r.drop (X.2 - 1)).length (by omega) _ rfl)
theorem good_at (d : Nat) (hd : d ≤ 3) (st : List Ev) (ls : List (List UInt8)) (hr : Room st d) : Good st (blocksAt d ls) := by
  induction d generalizing st ls with
  | zero => exact good_blocks (fun _ => []) st 0 3 (by decide) hr (fun d' h => by omega) ls
  | succ d ih =>
    exact good_blocks (blocksAt d) st (d + 1) (2 - (d : Int)) (by omega) hr (fun d' h s ls hs => by
      have : d' = d := by omega
      subst this
      exact ih (by omega) s ls hs) ls
theorem nest_events (t : List UInt8) : nestS [] (-1) (eventsS t) = some [] := by
  rw [events_exp]
  exact good_at 3 (Nat.le_refl _) [] _ ⟨Or.inl rfl, by decide, fun e he => by cases he⟩ none (-1)
end Go.Proofs.YtljcljipppjnoaaGreatDoor

namespace Go.Proofs.YtljcljipppjnoaaGreatDoor
open Go.RowKit
theorem deep_next (l : List Ev) (k : Nat) (e : Ev) (h : l[k]? = some e) : deepS (l.take (k + 1)) = deepS (l.take k) + if e.kind = 2 ∨ e.kind = 4 then 1 else 0 := by
  rw [List.take_add_one, h]
  exact deep_snoc _ _
def EvLie (a : Option Addr) (st : List Ev) (W : World) : Prop := ∀ (j : Nat) u, (evCs st)[j]? = some u → ∃ g, a = some ⟨g, 0, none⟩ ∧ W.cell? ⟨g, j, none⟩ = some u
set_option maxRecDepth 100000 in
set_option maxHeartbeats 2000000 in
theorem inside_any (a : Option Addr) (cap : Nat) (st : List Ev) (k : Int) (W : World) (hlen : st.length ≤ 1048576) (hr : EvLie a st W) :
    Calls Tryz.prog 33 #[.slice a st.length cap, .int .i64 k] W fun e w' => e = .returned (.bool (insideS st k)) ∧ W = w' := by
  have HR : Hid _ := hr
  obtain ⟨L, hL⟩ : ∃ L, st.length = L := ⟨_, rfl⟩
  rw [hL] at hlen ⊢
  have HL0 : Hid (st.length = L) := hL
  clear hr hL
  go_enter Tryz.func33, Tryz.ntmps33
  go_upto_block 0 with fail
  by_cases hin : (k = 6 ∨ k = 7) ∧ ∃ e ∈ st, e.kind = k
  · have HI : Hid (insideS st k = false) := by show _ = _; unfold insideS; rw [if_pos hin]
    obtain ⟨hk, hex⟩ := hin
    have HE0 : Hid (∃ e ∈ st, e.kind = k) := hex
    clear hex
    rcases hk with rfl | rfl
    · go_wp2
      go_loop [6, 7] (fun d i => ∃ n : Nat, n ≤ L ∧ i = .int .i64 n ∧ ∃ x : Nat, d = .int .i64 x ∧ x ≤ n ∧ Hid (∀ j, j < n → ∀ e, st[j]? = some e → e.kind ≠ 6)) (fun _ i => L - (intOf i).toNat)
      case atStart => exact ⟨0, Nat.zero_le _, rfl, 0, rfl, Nat.le_refl _, fun j hj => by omega⟩
      case round =>
        obtain ⟨n, hn, rfl, x, rfl, hxn, HX⟩ := hrel
        by_cases hlt : n < L
        · obtain ⟨ev, hev⟩ : ∃ ev, st[n]? = some ev := ⟨st[n]'(by rw [HL0.out]; exact hlt), List.getElem?_eq_getElem (by rw [HL0.out]; exact hlt)⟩
          obtain ⟨q0, _, _, _⟩ := evCs_at st n ev hev
          obtain ⟨g, rfl, a0⟩ := HR.out _ _ q0
          have hlt' : (n : Int) < (L : Int) := by omega
          by_cases h6 : ev.kind = 6
          · rw [h6] at a0
            clear q0 hev HR HX HL0 HE0 h6
            go_wp2
            go_ret
            rw [HI.out]
            exact ⟨rfl, rfl⟩
          · have HY : Hid (∀ j, j < n + 1 → ∀ e, st[j]? = some e → e.kind ≠ 6) := fun j hj e he => by
              by_cases hjn : j = n
              · subst hjn
                rw [hev] at he
                injection he with he
                rw [← he]
                exact h6
              · exact HX.out j (by omega) e he
            obtain ⟨ek, ef, el, et⟩ := ev
            simp only at a0 h6
            have m6 : (ek == (6 : Int)) = false := by simpa using h6
            clear q0 hev HR HX HL0 HE0 h6 HI
            have m2 : (ek = 2) ∨ ((ek == (2 : Int)) = false ∧ ek = 4) ∨ ((ek == (2 : Int)) = false ∧ (ek == (4 : Int)) = false) := by
              by_cases h : ek = 2
              · exact Or.inl h
              · by_cases h4 : ek = 4
                · exact Or.inr (Or.inl ⟨by simpa using h, h4⟩)
                · exact Or.inr (Or.inr ⟨by simpa using h, by simpa using h4⟩)
            rcases m2 with rfl | ⟨n2, rfl⟩ | ⟨n2, n4⟩
            · go_wp2
              go_round
              case rel => exact ⟨n + 1, by omega, by go_num, x + 1, by go_num, by omega, HY.out⟩
              case measure => simp [intOf]; omega
            · go_wp2
              go_round
              case rel => exact ⟨n + 1, by omega, by go_num, x + 1, by go_num, by omega, HY.out⟩
              case measure => simp [intOf]; omega
            · go_wp2
              go_round
              case rel => exact ⟨n + 1, by omega, by go_num, x, by go_num, by omega, HY.out⟩
              case measure => simp [intOf]; omega
        · exfalso
          obtain ⟨e0, he0, hek⟩ := HE0.out
          obtain ⟨j, hj, he⟩ := List.getElem_of_mem he0
          exact HX.out j (by rw [HL0.out] at hj; omega) e0 (by rw [List.getElem?_eq_getElem hj, he]) hek
    · go_wp2
      go_loop [6, 7] (fun d i => ∃ n : Nat, n ≤ L ∧ i = .int .i64 n ∧ ∃ x : Nat, d = .int .i64 x ∧ x ≤ n ∧ Hid (∀ j, j < n → ∀ e, st[j]? = some e → e.kind ≠ 7)) (fun _ i => L - (intOf i).toNat)
      case atStart => exact ⟨0, Nat.zero_le _, rfl, 0, rfl, Nat.le_refl _, fun j hj => by omega⟩
      case round =>
        obtain ⟨n, hn, rfl, x, rfl, hxn, HX⟩ := hrel
        by_cases hlt : n < L
        · obtain ⟨ev, hev⟩ : ∃ ev, st[n]? = some ev := ⟨st[n]'(by rw [HL0.out]; exact hlt), List.getElem?_eq_getElem (by rw [HL0.out]; exact hlt)⟩
          obtain ⟨q0, _, _, _⟩ := evCs_at st n ev hev
          obtain ⟨g, rfl, a0⟩ := HR.out _ _ q0
          have hlt' : (n : Int) < (L : Int) := by omega
          by_cases h6 : ev.kind = 7
          · rw [h6] at a0
            clear q0 hev HR HX HL0 HE0 h6
            go_wp2
            go_ret
            rw [HI.out]
            exact ⟨rfl, rfl⟩
          · have HY : Hid (∀ j, j < n + 1 → ∀ e, st[j]? = some e → e.kind ≠ 7) := fun j hj e he => by
              by_cases hjn : j = n
              · subst hjn
                rw [hev] at he
                injection he with he
                rw [← he]
                exact h6
              · exact HX.out j (by omega) e he
            obtain ⟨ek, ef, el, et⟩ := ev
            simp only at a0 h6
            have m6 : (ek == (7 : Int)) = false := by simpa using h6
            clear q0 hev HR HX HL0 HE0 h6 HI
            have m2 : (ek = 2) ∨ ((ek == (2 : Int)) = false ∧ ek = 4) ∨ ((ek == (2 : Int)) = false ∧ (ek == (4 : Int)) = false) := by
              by_cases h : ek = 2
              · exact Or.inl h
              · by_cases h4 : ek = 4
                · exact Or.inr (Or.inl ⟨by simpa using h, h4⟩)
                · exact Or.inr (Or.inr ⟨by simpa using h, by simpa using h4⟩)
            rcases m2 with rfl | ⟨n2, rfl⟩ | ⟨n2, n4⟩
            · go_wp2
              go_round
              case rel => exact ⟨n + 1, by omega, by go_num, x + 1, by go_num, by omega, HY.out⟩
              case measure => simp [intOf]; omega
            · go_wp2
              go_round
              case rel => exact ⟨n + 1, by omega, by go_num, x + 1, by go_num, by omega, HY.out⟩
              case measure => simp [intOf]; omega
            · go_wp2
              go_round
              case rel => exact ⟨n + 1, by omega, by go_num, x, by go_num, by omega, HY.out⟩
              case measure => simp [intOf]; omega
        · exfalso
          obtain ⟨e0, he0, hek⟩ := HE0.out
          obtain ⟨j, hj, he⟩ := List.getElem_of_mem he0
          exact HX.out j (by rw [HL0.out] at hj; omega) e0 (by rw [List.getElem?_eq_getElem hj, he]) hek
  · go_cut [6] (fun v wx => v = .int .i64 (deepS st) ∧ W = wx)
    case first =>
      go_wp2
      go_loop [6, 7] (fun d i => ∃ n : Nat, n ≤ L ∧ i = .int .i64 n ∧ ∃ x : Nat, d = .int .i64 x ∧ x ≤ n ∧ Hid (deepS (st.take n) = x)) (fun _ i => L - (intOf i).toNat)
      case atStart => exact ⟨0, Nat.zero_le _, rfl, 0, rfl, Nat.le_refl _, (by show _ = _; simp [deepS])⟩
      case round =>
        obtain ⟨n, hn, rfl, x, rfl, hxn, HX⟩ := hrel
        by_cases hlt : n < L
        · obtain ⟨ev, hev⟩ : ∃ ev, st[n]? = some ev := ⟨st[n]'(by rw [HL0.out]; exact hlt), List.getElem?_eq_getElem (by rw [HL0.out]; exact hlt)⟩
          obtain ⟨q0, _, _, _⟩ := evCs_at st n ev hev
          obtain ⟨g, rfl, a0⟩ := HR.out _ _ q0
          have hno : ¬ ((k = 6 ∨ k = 7) ∧ ev.kind = k) := fun h => hin ⟨h.1, ev, List.mem_of_getElem? hev, h.2⟩
          obtain ⟨ek, ef, el, et⟩ := ev
          have hno : ¬ ((k = 6 ∨ k = 7) ∧ ek = k) := hno
          have HD := deep_next st n _ hev
          have HD : Hid (deepS (st.take (n + 1)) = deepS (st.take n) + if ek = 2 ∨ ek = 4 then 1 else 0) := HD
          have hlt' : (n : Int) < (L : Int) := by omega
          simp only at a0
          clear q0 hev HR
          have m1 : (ek == k) = false ∨ ((ek == k) = true ∧ (k == (6 : Int)) = false ∧ (k == (7 : Int)) = false) := by
            by_cases h : ek = k
            · right
              refine ⟨by simpa using h, ?_, ?_⟩ <;> (simp; intro h2; exact hno ⟨by omega, h⟩)
            · left
              simpa using h
          clear hno hin
          have m2 : (ek = 2) ∨ ((ek == (2 : Int)) = false ∧ ek = 4) ∨ ((ek == (2 : Int)) = false ∧ (ek == (4 : Int)) = false) := by
            by_cases h : ek = 2
            · exact Or.inl h
            · by_cases h4 : ek = 4
              · exact Or.inr (Or.inl ⟨by simpa using h, h4⟩)
              · exact Or.inr (Or.inr ⟨by simpa using h, by simpa using h4⟩)
          rcases m2 with rfl | ⟨n2, rfl⟩ | ⟨n2, n4⟩
          · rcases m1 with m1 | ⟨m1, m6, m7⟩
            all_goals
              go_wp2
              go_round
              case rel => exact ⟨n + 1, by omega, by go_num, x + 1, by go_num, by omega, by show _ = _; rw [HD.out, HX.out]; rfl⟩
              case measure => simp [intOf]; omega
          · rcases m1 with m1 | ⟨m1, m6, m7⟩
            all_goals
              go_wp2
              go_round
              case rel => exact ⟨n + 1, by omega, by go_num, x + 1, by go_num, by omega, by show _ = _; rw [HD.out, HX.out]; rfl⟩
              case measure => simp [intOf]; omega
          · have H0 : Hid (deepS (st.take (n + 1)) = x) := by
              show _ = _
              rw [HD.out, HX.out, if_neg (by simp at n2 n4; omega)]
              rfl
            rcases m1 with m1 | ⟨m1, m6, m7⟩
            all_goals
              go_wp2
              go_round
              case rel => exact ⟨n + 1, by omega, by go_num, x, by go_num, by omega, H0.out⟩
              case measure => simp [intOf]; omega
        · have hne : n = L := by omega
          have HE : Hid (x = deepS st) := by
            have := HX.out
            rw [hne, ← HL0.out, List.take_length] at this
            exact this.symm
          clear hne
          go_wp2
          go_meet
          case rel => exact ⟨by rw [HE.out], rfl⟩
    case rest =>
      obtain ⟨rfl, rfl⟩ := hcut
      have hlast : st = [] ∨ (st ≠ [] ∧ ∃ g, a = some ⟨g, 0, none⟩ ∧ W.cell? ⟨g, (st.length - 1) * 4, none⟩ = some (.int .i64 (topK st))) := by
        by_cases h : st = []
        · exact Or.inl h
        · refine Or.inr ⟨h, ?_⟩
          have hp := List.length_pos_iff.2 h
          obtain ⟨e, he⟩ : ∃ e, st[st.length - 1]? = some e := ⟨st[st.length - 1], List.getElem?_eq_getElem (by omega)⟩
          obtain ⟨g, hg, hc⟩ := HR.out _ _ (evCs_at st (st.length - 1) e he).1
          refine ⟨g, hg, ?_⟩
          rw [hc]
          unfold topK
          rw [List.getLast?_eq_getElem?, he]
      have HL : Hid _ := hlast
      clear hlast HR
      go_upto_if 48 with fail
      go_cut [8] (fun v wx => v = .int .i64 (topK st) ∧ W = wx)
      case first =>
        rcases HL.out with h | ⟨h, g, rfl, hc⟩
        · have h0 : L = 0 := by rw [← HL0.out, h]; rfl
          subst h0
          have ht : Hid (topK st = -1) := by show _ = _; rw [h]; rfl
          clear HL hin h HL0
          go_wp2
          go_meet
          case rel => exact ⟨by rw [ht.out], rfl⟩
        · have hp := List.length_pos_iff.2 h
          rw [HL0.out] at hp hc
          obtain ⟨n, hn⟩ : ∃ n : Nat, L = n + 1 := ⟨L - 1, by omega⟩
          subst hn
          simp only [Nat.add_sub_cancel] at hc
          clear HL h hin hp HL0
          go_wp2
          go_meet
          case rel => exact ⟨rfl, rfl⟩
      case rest =>
        obtain ⟨rfl, rfl⟩ := hcut
        clear HL
        have HIN : Hid (insideS st k = if k = 4 then decide (topK st = 3 ∧ deepS st < 3) else if k = 6 ∨ k = 7 then decide (topK st = 0 ∨ topK st = 1 ∨ topK st = 6 ∨ topK st = 7) else if k = 2 ∨ k = 3 then decide ((topK st = -1 ∨ topK st = 2 ∨ topK st = 4) ∧ deepS st < 3) else decide (topK st = -1 ∨ topK st = 2 ∨ topK st = 4)) := by
          show _ = _
          unfold insideS
          rw [if_neg hin]
        generalize topK st = T at HIN ⊢
        generalize deepS st = D at HIN ⊢
        clear hin HL0
        have hD : (D < 3 ∧ decide ((D : Int) < 3) = true) ∨ (¬ D < 3 ∧ decide ((D : Int) < 3) = false) := by
          by_cases h : D < 3
          · exact Or.inl ⟨h, by simp; omega⟩
          · exact Or.inr ⟨h, by simp; omega⟩
        by_cases k4 : k = 4
        · subst k4
          by_cases t3 : T = 3
          · subst t3
            rcases hD with ⟨hd, gd⟩ | ⟨hd, gd⟩
            · have HF : Hid (insideS st 4 = true) := by show _ = _; rw [HIN.out]; simp [hd]
              clear HIN
              go_wp2
              go_ret
              rw [HF.out]
              exact ⟨rfl, rfl⟩
            · have HF : Hid (insideS st 4 = false) := by show _ = _; rw [HIN.out]; simp [hd]
              clear HIN
              go_wp2
              go_ret
              rw [HF.out]
              exact ⟨rfl, rfl⟩
          have f3 : (T == (3 : Int)) = false := by simpa using t3
          have HF : Hid (insideS st 4 = false) := by show _ = _; rw [HIN.out]; simp [t3]
          clear HIN
          go_wp2
          go_ret
          rw [HF.out]
          exact ⟨rfl, rfl⟩
        by_cases k6 : k = 6
        · subst k6
          by_cases t0 : T = 0
          · subst t0
            have HF : Hid (insideS st 6 = true) := by show _ = _; rw [HIN.out]; simp
            clear HIN
            go_wp2
            go_ret
            rw [HF.out]
            exact ⟨rfl, rfl⟩
          by_cases t1 : T = 1
          · subst t1
            have HF : Hid (insideS st 6 = true) := by show _ = _; rw [HIN.out]; simp
            clear HIN
            go_wp2
            go_ret
            rw [HF.out]
            exact ⟨rfl, rfl⟩
          by_cases t6 : T = 6
          · subst t6
            have HF : Hid (insideS st 6 = true) := by show _ = _; rw [HIN.out]; simp
            clear HIN
            go_wp2
            go_ret
            rw [HF.out]
            exact ⟨rfl, rfl⟩
          by_cases t7 : T = 7
          · subst t7
            have HF : Hid (insideS st 6 = true) := by show _ = _; rw [HIN.out]; simp
            clear HIN
            go_wp2
            go_ret
            rw [HF.out]
            exact ⟨rfl, rfl⟩
          have f0 : (T == (0 : Int)) = false := by simpa using t0
          have f1 : (T == (1 : Int)) = false := by simpa using t1
          have f6 : (T == (6 : Int)) = false := by simpa using t6
          have f7 : (T == (7 : Int)) = false := by simpa using t7
          have HF : Hid (insideS st 6 = false) := by show _ = _; rw [HIN.out]; simp [t0, t1, t6, t7]
          clear HIN
          go_wp2
          go_ret
          rw [HF.out]
          exact ⟨rfl, rfl⟩
        by_cases k7 : k = 7
        · subst k7
          by_cases t0 : T = 0
          · subst t0
            have HF : Hid (insideS st 7 = true) := by show _ = _; rw [HIN.out]; simp
            clear HIN
            go_wp2
            go_ret
            rw [HF.out]
            exact ⟨rfl, rfl⟩
          by_cases t1 : T = 1
          · subst t1
            have HF : Hid (insideS st 7 = true) := by show _ = _; rw [HIN.out]; simp
            clear HIN
            go_wp2
            go_ret
            rw [HF.out]
            exact ⟨rfl, rfl⟩
          by_cases t6 : T = 6
          · subst t6
            have HF : Hid (insideS st 7 = true) := by show _ = _; rw [HIN.out]; simp
            clear HIN
            go_wp2
            go_ret
            rw [HF.out]
            exact ⟨rfl, rfl⟩
          by_cases t7 : T = 7
          · subst t7
            have HF : Hid (insideS st 7 = true) := by show _ = _; rw [HIN.out]; simp
            clear HIN
            go_wp2
            go_ret
            rw [HF.out]
            exact ⟨rfl, rfl⟩
          have f0 : (T == (0 : Int)) = false := by simpa using t0
          have f1 : (T == (1 : Int)) = false := by simpa using t1
          have f6 : (T == (6 : Int)) = false := by simpa using t6
          have f7 : (T == (7 : Int)) = false := by simpa using t7
          have HF : Hid (insideS st 7 = false) := by show _ = _; rw [HIN.out]; simp [t0, t1, t6, t7]
          clear HIN
          go_wp2
          go_ret
          rw [HF.out]
          exact ⟨rfl, rfl⟩
        by_cases k2 : k = 2
        · subst k2
          by_cases tm1 : T = -1
          · subst tm1
            rcases hD with ⟨hd, gd⟩ | ⟨hd, gd⟩
            · have HF : Hid (insideS st 2 = true) := by show _ = _; rw [HIN.out]; simp [hd]
              clear HIN
              go_wp2
              go_ret
              rw [HF.out]
              exact ⟨rfl, rfl⟩
            · have HF : Hid (insideS st 2 = false) := by show _ = _; rw [HIN.out]; simp [hd]
              clear HIN
              go_wp2
              go_ret
              rw [HF.out]
              exact ⟨rfl, rfl⟩
          by_cases t2 : T = 2
          · subst t2
            rcases hD with ⟨hd, gd⟩ | ⟨hd, gd⟩
            · have HF : Hid (insideS st 2 = true) := by show _ = _; rw [HIN.out]; simp [hd]
              clear HIN
              go_wp2
              go_ret
              rw [HF.out]
              exact ⟨rfl, rfl⟩
            · have HF : Hid (insideS st 2 = false) := by show _ = _; rw [HIN.out]; simp [hd]
              clear HIN
              go_wp2
              go_ret
              rw [HF.out]
              exact ⟨rfl, rfl⟩
          by_cases t4 : T = 4
          · subst t4
            rcases hD with ⟨hd, gd⟩ | ⟨hd, gd⟩
            · have HF : Hid (insideS st 2 = true) := by show _ = _; rw [HIN.out]; simp [hd]
              clear HIN
              go_wp2
              go_ret
              rw [HF.out]
              exact ⟨rfl, rfl⟩
            · have HF : Hid (insideS st 2 = false) := by show _ = _; rw [HIN.out]; simp [hd]
              clear HIN
              go_wp2
              go_ret
              rw [HF.out]
              exact ⟨rfl, rfl⟩
          have fm1 : (T == (-1 : Int)) = false := by simpa using tm1
          have f2 : (T == (2 : Int)) = false := by simpa using t2
          have f4 : (T == (4 : Int)) = false := by simpa using t4
          have HF : Hid (insideS st 2 = false) := by show _ = _; rw [HIN.out]; simp [tm1, t2, t4]
          clear HIN
          go_wp2
          go_ret
          rw [HF.out]
          exact ⟨rfl, rfl⟩
        by_cases k3 : k = 3
        · subst k3
          by_cases tm1 : T = -1
          · subst tm1
            rcases hD with ⟨hd, gd⟩ | ⟨hd, gd⟩
            · have HF : Hid (insideS st 3 = true) := by show _ = _; rw [HIN.out]; simp [hd]
              clear HIN
              go_wp2
              go_ret
              rw [HF.out]
              exact ⟨rfl, rfl⟩
            · have HF : Hid (insideS st 3 = false) := by show _ = _; rw [HIN.out]; simp [hd]
              clear HIN
              go_wp2
              go_ret
              rw [HF.out]
              exact ⟨rfl, rfl⟩
          by_cases t2 : T = 2
          · subst t2
            rcases hD with ⟨hd, gd⟩ | ⟨hd, gd⟩
            · have HF : Hid (insideS st 3 = true) := by show _ = _; rw [HIN.out]; simp [hd]
              clear HIN
              go_wp2
              go_ret
              rw [HF.out]
              exact ⟨rfl, rfl⟩
            · have HF : Hid (insideS st 3 = false) := by show _ = _; rw [HIN.out]; simp [hd]
              clear HIN
              go_wp2
              go_ret
              rw [HF.out]
              exact ⟨rfl, rfl⟩
          by_cases t4 : T = 4
          · subst t4
            rcases hD with ⟨hd, gd⟩ | ⟨hd, gd⟩
            · have HF : Hid (insideS st 3 = true) := by show _ = _; rw [HIN.out]; simp [hd]
              clear HIN
              go_wp2
              go_ret
              rw [HF.out]
              exact ⟨rfl, rfl⟩
            · have HF : Hid (insideS st 3 = false) := by show _ = _; rw [HIN.out]; simp [hd]
              clear HIN
              go_wp2
              go_ret
              rw [HF.out]
              exact ⟨rfl, rfl⟩
          have fm1 : (T == (-1 : Int)) = false := by simpa using tm1
          have f2 : (T == (2 : Int)) = false := by simpa using t2
          have f4 : (T == (4 : Int)) = false := by simpa using t4
          have HF : Hid (insideS st 3 = false) := by show _ = _; rw [HIN.out]; simp [tm1, t2, t4]
          clear HIN
          go_wp2
          go_ret
          rw [HF.out]
          exact ⟨rfl, rfl⟩
        have n4 : (k == (4 : Int)) = false := by simpa using k4
        have n6 : (k == (6 : Int)) = false := by simpa using k6
        have n7 : (k == (7 : Int)) = false := by simpa using k7
        have n2 : (k == (2 : Int)) = false := by simpa using k2
        have n3 : (k == (3 : Int)) = false := by simpa using k3
        have HIN : Hid (insideS st k = decide (T = -1 ∨ T = 2 ∨ T = 4)) := by show _ = _; rw [HIN.out, if_neg k4, if_neg (by omega), if_neg (by omega)]
        clear k4 k6 k7 k2 k3 hD
        by_cases tm1 : T = -1
        · subst tm1
          have HF : Hid (insideS st k = true) := by show _ = _; rw [HIN.out]; simp
          clear HIN
          go_wp2
          go_ret
          rw [HF.out]
          exact ⟨rfl, rfl⟩
        by_cases t2 : T = 2
        · subst t2
          have HF : Hid (insideS st k = true) := by show _ = _; rw [HIN.out]; simp
          clear HIN
          go_wp2
          go_ret
          rw [HF.out]
          exact ⟨rfl, rfl⟩
        by_cases t4 : T = 4
        · subst t4
          have HF : Hid (insideS st k = true) := by show _ = _; rw [HIN.out]; simp
          clear HIN
          go_wp2
          go_ret
          rw [HF.out]
          exact ⟨rfl, rfl⟩
        have fm1 : (T == (-1 : Int)) = false := by simpa using tm1
        have f2 : (T == (2 : Int)) = false := by simpa using t2
        have f4 : (T == (4 : Int)) = false := by simpa using t4
        have HF : Hid (insideS st k = false) := by show _ = _; rw [HIN.out]; simp [tm1, t2, t4]
        clear HIN
        go_wp2
        go_ret
        rw [HF.out]
        exact ⟨rfl, rfl⟩
end Go.Proofs.YtljcljipppjnoaaGreatDoor

namespace Go.Proofs.YtljcljipppjnoaaGreatDoor
open Go.RowKit
theorem nest_none (a b : List Ev) (st : List Ev) (prev : Int) (h : nestS st prev a = none) : nestS st prev (a ++ b) = none := by
  induction a generalizing st prev with
  | nil => simp [nestS] at h
  | cons e r ih =>
    rw [List.cons_append]
    unfold nestS at h ⊢
    cases h1 : nest1 st prev e with
    | none => rfl
    | some st' =>
      rw [h1] at h
      simp only at h ⊢
      exact ih st' e.kind h
theorem nest_step1 {l : List Ev} {n : Nat} {e : Ev} {st : List Ev} (hn : l[n]? = some e) (hall : nestS [] (-1) l = some []) (hs : nestS [] (-1) (l.take n) = some st) :
    ∃ st', nest1 st (lastK (-1) (l.take n)) e = some st' ∧ nestS [] (-1) (l.take (n + 1)) = some st' := by
  have h1 : nestS [] (-1) (l.take (n + 1)) = nestS st (lastK (-1) (l.take n)) [e] := by
    rw [List.take_add_one, hn]
    exact nest_app _ _ _ _ _ hs
  cases h2 : nest1 st (lastK (-1) (l.take n)) e with
  | some st' =>
    refine ⟨st', rfl, ?_⟩
    rw [h1]
    unfold nestS
    rw [h2]
    rfl
  | none =>
    exfalso
    have h3 : nestS [] (-1) (l.take (n + 1)) = none := by
      rw [h1]
      unfold nestS
      rw [h2]
    have := nest_none _ (l.drop (n + 1)) _ _ h3
    rw [List.take_append_drop, hall] at this
    cases this
end Go.Proofs.YtljcljipppjnoaaGreatDoor

namespace Go.Proofs.YtljcljipppjnoaaGreatDoor
open Go.RowKit
theorem own_cut {w : World} {base size n n' g cap : Nat} {e : TypeId} {xs : List Value} (h : w.ownsRow base e size (.slice (some ⟨g, 0, none⟩) n cap) n xs) (hn : n' ≤ n) : w.ownsRow base e size (.slice (some ⟨g, 0, none⟩) n' cap) n' (xs.take (n' * size)) := by
  have hm := Nat.mul_le_mul_right size hn
  refine ⟨by rw [List.length_take, h.1]; omega, ?_⟩
  rcases h.2 with ⟨h0, _⟩ | ⟨g', cap', cur, hv, hb, hg, hnc, hcm, hcs, ht⟩
  · cases h0
  · injection hv with hv1 hv2 hv3
    injection hv1 with hv1
    injection hv1 with hv1
    subst hv1
    subst hv3
    refine Or.inr ⟨g, cap, cur, rfl, hb, hg, by omega, hcm, hcs, ?_⟩
    rw [← ht, List.take_take]
    congr 1
    omega
theorem evCs_init (r : List Ev) (o : Ev) : (evCs (r ++ [o])).take (r.length * 4) = evCs r := by
  rw [evCs_append, ← evCs_length r]
  simp
theorem row_forms {w : World} {base : Nat} {v : Value} {l : List Ev} (h : w.ownsRow base 39 4 v l.length (evCs l)) : (v = .slice none 0 0 ∧ l = []) ∨ ∃ g cap, v = .slice (some ⟨g, 0, none⟩) l.length cap ∧ g < w.heap.size ∧ base ≤ g ∧ ∀ (j : Nat) u, (evCs l)[j]? = some u → w.cell? ⟨g, j, none⟩ = some u := by
  rcases h.2 with ⟨h0, h1⟩ | ⟨g, cap, cur, hv, hb, hg, _, _, _, _⟩
  · exact Or.inl ⟨h0, List.eq_nil_of_length_eq_zero h1⟩
  · refine Or.inr ⟨g, cap, hv, (Array.getElem?_eq_some_iff.1 hg).1, hb, fun j u hj => ?_⟩
    have := h.cells (g := g) (by rw [hv]; rfl) j u hj
    rw [Addr.add_lit] at this
    simpa using this
theorem row_last {w : World} {base : Nat} {v : Value} {r : List Ev} {o : Ev} (h : w.ownsRow base 39 4 v (r ++ [o]).length (evCs (r ++ [o]))) : ∃ g cap, v = .slice (some ⟨g, 0, none⟩) (r.length + 1) cap ∧ g < w.heap.size ∧ base ≤ g ∧ w.cell? ⟨g, r.length * 4, none⟩ = some (.int .i64 o.kind) ∧ w.cell? ⟨g, r.length * 4 + 2, none⟩ = some (.int .i64 o.level) := by
  rcases row_forms h with ⟨_, h0⟩ | ⟨g, cap, hv, hg, hb, hc⟩
  · simp at h0
  · obtain ⟨q0, _, q2, _⟩ := evCs_at (r ++ [o]) r.length o (by simp)
    refine ⟨g, cap, by rw [hv]; simp, hg, hb, hc _ _ q0, hc _ _ q2⟩
theorem list_last {α : Type} {l : List α} (h : l ≠ []) : ∃ r o, l = r ++ [o] := ⟨l.dropLast, l.getLast h, (List.dropLast_concat_getLast h).symm⟩
theorem nest1_kinds {st st' : List Ev} {prev : Int} {e : Ev} (h : nest1 st prev e = some st') :
    (8 ≤ e.kind ∧ st' = st ∧ (∃ r o, st = r ++ [o] ∧ ¬ (2 ≤ o.kind ∧ o.kind ≤ 4)) ∧ e.fin = false ∧ e.level = 0 ∧ (e.kind = 8 → e.text ≠ [] ∧ prev ≠ 8)) ∨
    (¬ 8 ≤ e.kind ∧ e.fin = true ∧ ∃ r o, st = r ++ [o] ∧ o.kind = e.kind ∧ o.level = e.level ∧ st' = r) ∨
    (¬ 8 ≤ e.kind ∧ e.fin = false ∧ (e.kind = 1 ↔ 0 < e.level) ∧ e.level ≤ 3 ∧ 0 ≤ e.level ∧ insideS st e.kind = true ∧ st' = st ++ [e]) := by
  unfold nest1 at h
  by_cases h8 : 8 ≤ e.kind
  · rw [if_pos h8] at h
    split at h
    · cases h
    · next hn =>
      injection h with h
      have hne : st ≠ [] := fun x => hn (Or.inl x)
      obtain ⟨r, o, hro⟩ := list_last hne
      have ht : topK st = o.kind := by rw [hro, top_snoc]
      rw [ht] at hn
      refine Or.inl ⟨h8, h.symm, ⟨r, o, hro, fun x => hn (Or.inr (Or.inr (Or.inr (Or.inr x))))⟩, ?_, ?_, fun hk => ⟨fun x => hn (Or.inr (Or.inr (Or.inr (Or.inl ⟨hk, Or.inl x⟩)))), fun x => hn (Or.inr (Or.inr (Or.inr (Or.inl ⟨hk, Or.inr x⟩))))⟩⟩
      · cases hf : e.fin with
        | false => rfl
        | true => exact absurd (Or.inr (Or.inl hf)) hn
      · exact Classical.byContradiction fun x => hn (Or.inr (Or.inr (Or.inl x)))
  · rw [if_neg h8] at h
    cases hf : e.fin with
    | true =>
      rw [hf, if_pos rfl] at h
      by_cases hne : st = []
      · subst hne
        simp at h
      · obtain ⟨r, o, hro⟩ := list_last hne
        subst hro
        simp at h
        exact Or.inr (Or.inl ⟨h8, rfl, r, o, rfl, h.1.1, h.1.2, h.2.symm⟩)
    | false =>
      rw [hf, if_neg (by simp)] at h
      split at h
      · next hc =>
        injection h with h
        exact Or.inr (Or.inr ⟨h8, rfl, hc.1, hc.2.1, hc.2.2.1, hc.2.2.2, h.symm⟩)
      · cases h
end Go.Proofs.YtljcljipppjnoaaGreatDoor

namespace Go.Proofs.YtljcljipppjnoaaGreatDoor
open Go.RowKit
def cost (l : List Ev) : Nat := (l.map fun e => 1 + 2 * e.text.length).sum
theorem cost_app (a b : List Ev) : cost (a ++ b) = cost a + cost b := by simp [cost]
theorem cost_cons (e : Ev) (r : List Ev) : cost (e :: r) = 1 + 2 * e.text.length + cost r := by simp [cost]
theorem cost_exp (p : Option Int) (l : List Ev) : (expS p l).length ≤ cost l := by
  induction l generalizing p with
  | nil => exact Nat.le_refl _
  | cons e r ih =>
    rw [expS, List.length_append, cost_cons]
    have h1 := ih (some e.kind)
    have h2 := (inlF_facts (e.text.length + 1)).1 e.text false
    have h3 : (if e.kind = 8 ∧ p ≠ some 5 then inlineS e.text false else [e]).length ≤ 1 + 2 * e.text.length := by
      split
      · unfold inlineS; omega
      · simp
    omega
theorem cost_leaf (k v : Int) (t : List UInt8) : cost (leafS k v t) ≤ 3 + 2 * t.length := by
  unfold leafS
  split <;> simp [cost] <;> omega
theorem tot_more2 (ls : List (List UInt8)) (n : Nat) (hn : n ≤ ls.length) : tot (moreAt ls n).1 + tot (ls.drop (moreAt ls n).2) ≤ tot (ls.drop n) := by
  induction hm : ls.length - n using Nat.strongRecOn generalizing n with
  | _ m ih =>
    have hge := behind_ge ls n
    by_cases h : behindS ls n < ls.length
    · cases h2 : two ls[behindS ls n] with
      | true =>
        have a := ih (ls.length - (behindS ls n + 1)) (by omega) (behindS ls n + 1) (by omega) rfl
        rw [more_go ls n _ rfl h h2, tot_append, tot_rep, tot_cons]
        generalize behindS ls n = k at h a hge ⊢
        have e1 : ls.drop n = (ls.drop n).take (k - n) ++ ls[k] :: ls.drop (k + 1) := by
          have := List.take_append_drop (k - n) (ls.drop n)
          rw [List.drop_drop, show n + (k - n) = k by omega, List.drop_eq_getElem_cons h] at this
          exact this.symm
        rw [e1, tot_append, tot_cons]
        have h3 := tot_len ((ls.drop n).take (k - n))
        rw [List.length_take, List.length_drop] at h3
        have h4 : (ls[k].drop 2).length ≤ ls[k].length := by rw [List.length_drop]; omega
        simp only
        omega
      | false =>
        rw [more_no ls n _ rfl h h2]
        simp [tot_nil]
    · rw [more_end ls n _ rfl h]
      simp [tot_nil]
theorem tot_drops (ls : List (List UInt8)) {j k : Nat} (h : j ≤ k) : tot (ls.drop k) ≤ tot (ls.drop j) := by
  have e : ls.drop k = (ls.drop j).drop (k - j) := by rw [List.drop_drop, show j + (k - j) = k by omega]
  rw [e]
  exact tot_drop _ _
theorem item_some {l : List UInt8} (h : itemL l = true) : 1 ≤ l.length := by
  cases l with
  | nil => exact absurd (show itemS ⟨#[]⟩ = true from h) (by decide +kernel)
  | cons c r => simp
theorem tot_item2 (ls : List (List UInt8)) (n : Nat) (hn : n < ls.length) (hi : itemL ls[n] = true) : tot (itemIn ls n) + 1 + tot (ls.drop (moreAt ls (n + 1)).2) ≤ tot (ls.drop n) := by
  have h1 := tot_more2 ls (n + 1) (by omega)
  have h2 := item_some hi
  rw [List.drop_eq_getElem_cons hn, tot_cons]
  rw [itemIn, tot_cons, List.getElem?_eq_getElem hn, Option.getD_some, List.length_drop]
  omega
theorem cost_items (inner : List (List UInt8) → List Ev) (hI : ∀ ls, cost (inner ls) ≤ 4 * tot ls) (ls : List (List UInt8)) (n : Nat) (hn : n < ls.length) (hi : itemL ls[n] = true) : cost (itemsAt inner ls n).1 + 2 + 4 * tot (ls.drop (itemsAt inner ls n).2) ≤ 4 * tot (ls.drop n) := by
  induction hm : ls.length - n using Nat.strongRecOn generalizing n with
  | _ m ih =>
    have hev : cost (itemEv inner ls n) ≤ 2 + 4 * tot (itemIn ls n) := by
      have := hI (itemIn ls n)
      rw [itemEv, cost_app, cost_app]
      simp [cost] at *
      omega
    have hti := tot_item2 ls n hn hi
    have hge := behind_ge ls (moreAt ls (n + 1)).2
    have hmg := more_ge ls (n + 1)
    by_cases h : behindS ls (moreAt ls (n + 1)).2 < ls.length
    · cases h2 : itemL ls[behindS ls (moreAt ls (n + 1)).2] with
      | true =>
        have a := ih _ (by omega) _ h h2 rfl
        have b := tot_drops ls hge
        rw [items_go inner ls n _ rfl h h2]
        simp only [cost_app]
        omega
      | false => rw [items_no inner ls n _ rfl h h2]; simp only; omega
    · rw [items_end inner ls n _ rfl h]; simp only; omega
theorem blank_some {l : List UInt8} (h : ¬ blankL l = true) : 1 ≤ l.length := by
  cases l with
  | nil => exact absurd rfl h
  | cons c r => simp
theorem q_some {l : List UInt8} (h : isQ l = true) : (unq l).length + 1 ≤ l.length := by
  cases l with
  | nil => exact absurd h (by decide)
  | cons c r =>
    show (unq1 r).length + 1 ≤ r.length + 1
    cases r with
    | nil => exact Nat.le_refl _
    | cons d s =>
      show (if d == 32 then s else d :: s).length + 1 ≤ _
      split <;> simp
theorem tot_unq (ls : List (List UInt8)) (h : ∀ l ∈ ls, isQ l = true) : tot (ls.map unq) + ls.length ≤ tot ls := by
  induction ls with
  | nil => exact Nat.le_refl _
  | cons l r ih =>
    rw [List.map_cons, tot_cons, tot_cons, List.length_cons]
    have h1 := q_some (h l (by simp))
    have h2 := ih (fun l hl => h l (by simp [hl]))
    omega
theorem tot_quote2 (ls : List (List UInt8)) : tot (quoteIn ls) + quoteN ls ≤ tot (ls.take (quoteN ls)) := by
  have hq : quoteN ls = (ls.takeWhile isQ).length := by simp [quoteN, scan]
  have ht : ls.take (quoteN ls) = ls.takeWhile isQ := by
    rw [hq]
    have h := List.takeWhile_append_dropWhile (p := isQ) (l := ls)
    generalize List.takeWhile isQ ls = a at h
    rw [← h, List.take_left' rfl]
  unfold quoteIn
  rw [ht, hq]
  exact tot_unq _ (fun l hl => by have := List.all_takeWhile (p := isQ) (l := ls); exact List.all_eq_true.1 this l hl)
theorem cost_step (inner : List (List UInt8) → List Ev) (hI : ∀ ls, cost (inner ls) ≤ 4 * tot ls) (depth : Int) (l : List UInt8) (r : List (List UInt8)) (hb : ¬ blankL l = true) : cost (stepS inner depth l (l :: r)).1 + 4 * tot ((l :: r).drop (stepS inner depth l (l :: r)).2) ≤ 4 * tot (l :: r) := by
  have hl := blank_some hb
  unfold stepS
  split
  · have h1 := cost_leaf 5 0 (fencedT (l :: r))
    have h0 : (fencedT (l :: r)).length = tot (((l :: r).take (shutAt (l :: r) 1)).drop 1) := by rw [fencedT, codeOf_len]
    rw [h0] at h1
    have h2 : tot (((l :: r).take (shutAt (l :: r) 1)).drop 1) + 1 ≤ tot ((l :: r).take (shutAt (l :: r) 1)) := by
      have : 1 ≤ shutAt (l :: r) 1 := by unfold shutAt; omega
      obtain ⟨k, hk⟩ : ∃ k, shutAt (l :: r) 1 = k + 1 := ⟨shutAt (l :: r) 1 - 1, by omega⟩
      rw [hk, List.take_succ_cons, List.drop_succ_cons, List.drop_zero, tot_cons]
      omega
    have h3 : tot ((l :: r).drop (fencedN (l :: r))) ≤ tot ((l :: r).drop (shutAt (l :: r) 1)) := by
      unfold fencedN
      split
      · exact tot_drops _ (by omega)
      · rw [List.drop_length]; exact Nat.zero_le _
    have h4 := tot_split (l :: r) (shutAt (l :: r) 1)
    simp only
    omega
  split
  · have h1 := cost_leaf 1 (levelL l) (trimL (l.drop (levelL l)))
    have h2 := trimL_le (l.drop (levelL l))
    rw [List.length_drop] at h2
    simp only [List.drop_succ_cons, List.drop_zero]
    rw [tot_cons]
    omega
  split
  · rename_i h4
    have h1 := hI (quoteIn (l :: r))
    have h2 := tot_quote2 (l :: r)
    have h3 := tot_split (l :: r) (quoteN (l :: r))
    have h5 : 1 ≤ quoteN (l :: r) := by
      have hq := begins_q l (starts4 _ _ h4).1
      simp [quoteN, scan, hq]
    have h6 : cost (quoteS inner (l :: r)) ≤ 2 + cost (inner (quoteIn (l :: r))) := by
      rw [quoteS, cost_app, cost_app]
      simp [cost]
      omega
    simp only
    omega
  split
  · rename_i h5
    have h1 := cost_items inner hI (l :: r) 0 (by simp) (by simpa [itemL] using (starts5 _ _ h5).1)
    have h6 : cost (listS inner (l :: r)) ≤ 2 + cost (itemsAt inner (l :: r) 0).1 := by
      rw [listS, cost_app, cost_app]
      simp [cost]
      omega
    rw [List.drop_zero] at h1
    simp only [listN]
    omega
  · have h1 := cost_leaf 0 0 (joinT ((l :: r).take (paraFrom (l :: r) depth 1)))
    have h2 := joinT_len ((l :: r).take (paraFrom (l :: r) depth 1))
    have h3 := tot_split (l :: r) (paraFrom (l :: r) depth 1)
    have h4 : 2 ≤ tot ((l :: r).take (paraFrom (l :: r) depth 1)) := by
      obtain ⟨k, hk⟩ : ∃ k, paraFrom (l :: r) depth 1 = k + 1 := ⟨paraFrom (l :: r) depth 1 - 1, by unfold paraFrom; omega⟩
      rw [hk, List.take_succ_cons, tot_cons]
      omega
    simp only
    omega
theorem cost_blocks (inner : List (List UInt8) → List Ev) (c : Nat) (hc : ∀ ls, (inner ls).length ≤ c * ls.length) (hI : ∀ ls, cost (inner ls) ≤ 4 * tot ls) (depth : Int) (ls : List (List UInt8)) : cost (blocksF inner depth ls) ≤ 4 * tot ls := by
  induction hm : ls.length using Nat.strongRecOn generalizing ls with
  | _ m ih =>
    cases ls with
    | nil => simp [blocksF, cost]
    | cons l r =>
      rw [blocksF]
      rw [List.length_cons] at hm
      split
      · have := ih r.length (by omega) r rfl
        rw [tot_cons]
        omega
      · rename_i hb
        have h1 := cost_step inner hI depth l r hb
        have h2 := (step_facts inner c depth hc l r).1
        generalize stepS inner depth l (l :: r) = X at h1 h2
        have hd : (r.drop (X.2 - 1)).length ≤ r.length := by rw [List.length_drop]; omega
        have h3 := ih (r.drop (X.2 - 1)).length (by omega) _ rfl
        have e : (l :: r).drop X.2 = r.drop (X.2 - 1) := by
          obtain ⟨k, hk⟩ : ∃ k, X.2 = k + 1 := ⟨X.2 - 1, by omega⟩
          rw [hk, List.drop_succ_cons]
          rfl
        rw [e] at h1
        rw [cost_app]
        omega
theorem cost_at (d : Nat) (ls : List (List UInt8)) : cost (blocksAt d ls) ≤ 4 * tot ls := by
  induction d generalizing ls with
  | zero => exact cost_blocks (fun _ => []) 0 (fun _ => by simp) (fun _ => by simp [cost]) 3 ls
  | succ d ih => exact cost_blocks (blocksAt d) _ (fun ls => blocksAt_le d ls) ih (2 - (d : Int)) ls
theorem events_len (t : List UInt8) : (eventsS t).length ≤ 4 * (t.length + 1) := by
  rw [events_exp]
  have h1 := cost_exp none (blocksAt 3 (linesL [] t))
  have h2 := cost_at 3 (linesL [] t)
  have h3 := tot_lines t
  omega
end Go.Proofs.YtljcljipppjnoaaGreatDoor

namespace Go.Proofs.YtljcljipppjnoaaGreatDoor
open Go.RowKit
def letterB (c : UInt8) : Bool := decide (97 ≤ c.toNat) && decide (c.toNat ≤ 122)
structure Word (w : List UInt8) : Prop where
  ne : w ≠ []
  all : ∀ c ∈ w, letterB c = true
def letterFacts (c : UInt8) : Bool := !isBl c && !isMark c && !endsL c && !bl3 c && c != 10 && c != 35 && c != 62 && c != 45 && c != 96 && c != 42 && c != 92 && c != 93 && c != 91 && c != 13 && c != 0
theorem letter_all : ∀ n : Fin 256, letterB (UInt8.ofNat n.val) = true → letterFacts (UInt8.ofNat n.val) = true := by decide +kernel
theorem letter_facts (c : UInt8) (h : letterB c = true) : letterFacts c = true := by
  have e : UInt8.ofNat c.toNat = c := by simp
  have := letter_all ⟨c.toNat, UInt8.toNat_lt c⟩
  simp only [e] at this
  exact this h
theorem Word.facts {w : List UInt8} (h : Word w) {c : UInt8} (hc : c ∈ w) : isBl c = false ∧ isMark c = false ∧ endsL c = false ∧ bl3 c = false ∧ c ≠ 10 ∧ c ≠ 35 ∧ c ≠ 62 ∧ c ≠ 45 ∧ c ≠ 96 ∧ c ≠ 42 ∧ c ≠ 92 ∧ c ≠ 93 ∧ c ≠ 91 ∧ c ≠ 13 ∧ c ≠ 0 := by
  have := letter_facts c (h.all c hc)
  simpa [letterFacts, and_assoc] using this
theorem Word.cons {w : List UInt8} (h : Word w) : ∃ c r, w = c :: r := by
  cases w with
  | nil => exact absurd rfl h.ne
  | cons c r => exact ⟨c, r, rfl⟩
theorem Word.pos {w : List UInt8} (h : Word w) : 1 ≤ w.length := by
  obtain ⟨c, r, rfl⟩ := h.cons
  simp
theorem lines_run (cur l : List UInt8) (h : ∀ c ∈ l, c ≠ 10) : linesL cur l = if cur ++ l = [] then [] else [cur ++ l] := by
  induction l generalizing cur with
  | nil => simp [linesL]
  | cons c r ih =>
    rw [linesL, if_neg (h c (by simp)), ih (cur ++ [c]) (fun x hx => h x (by simp [hx]))]
    simp
theorem trim_same (l : List UInt8) (h1 : ∀ c, l.head? = some c → isBl c = false) (h2 : ∀ c, l.getLast? = some c → isBl c = false) : trimL l = l := by
  unfold trimL
  have e1 : l.dropWhile isBl = l := by
    cases l with
    | nil => rfl
    | cons c r => rw [List.dropWhile_cons, if_neg (by simp [h1 c rfl])]
  rw [e1]
  have e2 : l.reverse.dropWhile isBl = l.reverse := by
    cases hr : l.reverse with
    | nil => rfl
    | cons c r =>
      have : l.getLast? = some c := by rw [List.getLast?_eq_head?_reverse, hr]; rfl
      rw [List.dropWhile_cons, if_neg (by simp [h2 c this])]
  rw [e2, List.reverse_reverse]
theorem starts_plain (c : UInt8) (r : List UInt8) (d : Int) (h : c ≠ 96 ∧ c ≠ 35 ∧ c ≠ 62 ∧ c ≠ 45) : startsS ⟨(c :: r).toArray⟩ d = 0 := by
  obtain ⟨h1, h2, h3, h4⟩ := h
  have b1 : beginsS ⟨(c :: r).toArray⟩ ⟨#[96, 96, 96]⟩ = false := by simp [beginsS, List.isPrefixOf]; intro h; exact absurd h.symm h1
  have b2 : levelS ⟨(c :: r).toArray⟩ = 0 := by
    unfold levelS
    have : hashes (c :: r) = 0 := by simp [hashes, h2]
    rw [if_pos (Or.inl (by simp [this]))]
  have b3 : beginsS ⟨(c :: r).toArray⟩ ⟨#[62]⟩ = false := by simp [beginsS, List.isPrefixOf]; exact fun h => h3 h.symm
  have b4 : itemS ⟨(c :: r).toArray⟩ = false := by
    have e : (⟨(c :: r).toArray⟩ : ByteArray).toList = c :: r := by rw [list_of]
    simp [itemS, beginsS, List.isPrefixOf, e]
    exact ⟨⟨fun h => absurd h h4, fun h => absurd h.symm h4⟩, fun h => absurd h.symm h4⟩
  unfold startsS
  rw [if_neg (by simp [b1]), if_neg (by omega), if_neg (by simp [b3]), if_neg (by simp [b4])]
theorem para_one (inner : List (List UInt8) → List Ev) (d : Int) (l : List UInt8) (hb : blankL l = false) (hs : startsS ⟨l.toArray⟩ d = 0) : blocksF inner d [l] = leafS 0 0 (trimL l) := by
  have e : stepS inner d l [l] = (leafS 0 0 (trimL l), 1) := by
    unfold stepS
    rw [if_neg (by omega), if_neg (by omega), if_neg (by omega), if_neg (by omega)]
    have : paraFrom [l] d 1 = 1 := by simp [paraFrom]
    rw [this]
    simp [joinT]
  rw [blocksF, if_neg (by simp [hb]), e]
  simp [blocksF]
theorem blank_no (c : UInt8) (r : List UInt8) (h : isBl c = false) : blankL (c :: r) = false := by simp [blankL, h]
theorem para_at' (inner : List (List UInt8) → List Ev) (d : Int) (c : UInt8) (r : List UInt8) (hb : isBl c = false) (h : c ≠ 96 ∧ c ≠ 35 ∧ c ≠ 62 ∧ c ≠ 45) (hl : ∀ x, (c :: r).getLast? = some x → isBl x = false) : blocksF inner d [c :: r] = leafS 0 0 (c :: r) := by
  rw [para_one inner d (c :: r) (blank_no c r hb) (starts_plain c r d h), trim_same (c :: r) (fun x hx => by simp at hx; rw [← hx]; exact hb) hl]
theorem last_in {w : List UInt8} {x : UInt8} (hx : w.getLast? = some x) : x ∈ w := List.mem_of_getLast? hx
theorem inl_word (inner : List UInt8 → Bool → List Ev) (w : List UInt8) (h : Word w) (ins : Bool) : inlFrom inner w ins 0 [] = [⟨8, false, 0, w⟩] := by
  obtain ⟨c, r, rfl⟩ := h.cons
  have f := h.facts (c := c) (by simp)
  rw [inl_step inner (c :: r) (by simp) ins [], one_plain inner c r ins f.2.1]
  simp only [if_true, List.drop_succ_cons, List.drop_zero, List.take_succ_cons, List.take_zero]
  have := text_run inner ins [] r [] [c] (fun x hx => (h.facts (by simp [hx])).2.1)
  rw [List.append_nil] at this
  rw [this, inl_end]
  rfl
theorem inlS_word (w : List UInt8) (h : Word w) (f : Nat) (ins : Bool) : inlineF (f + 1) w ins = [⟨8, false, 0, w⟩] := inl_word _ w h ins
theorem exp_leaf (k v : Int) (t : List UInt8) (p : Option Int) (ht : t ≠ []) (hk : k ≠ 8) (h5 : k ≠ 5) : expS p (leafS k v t) = [⟨k, false, v, []⟩] ++ inlineS t false ++ [⟨k, true, v, []⟩] := by
  unfold leafS
  rw [if_neg ht, List.append_assoc, List.singleton_append, exp_ne _ _ _ hk, List.singleton_append, expS, if_pos ⟨rfl, by simp [h5]⟩, exp_ne _ _ _ hk]
  simp [expS]
theorem pfrom_word (l : List UInt8) (w r : List UInt8) (h : ∀ c ∈ w, c ≠ 96 ∧ c ≠ 92 ∧ c ≠ 42) (k : Nat) (hd : l.drop k = w ++ 42 :: r) : pfrom l k = k + w.length := by
  induction w generalizing k with
  | nil =>
    have h0 : l[k]? = some 42 := by have := List.getElem?_drop (xs := l) (i := k) (j := 0); rw [hd] at this; simpa using this.symm
    rw [pfrom_at l k (fun hh => hh.2 h0)]
    rfl
  | cons c w ih =>
    obtain ⟨h1, h2, h3⟩ := h c (by simp)
    have h0 : l[k]? = some c := by have := List.getElem?_drop (xs := l) (i := k) (j := 0); rw [hd] at this; simpa using this.symm
    have hk : k < l.length := (List.getElem?_eq_some_iff.1 h0).1
    have hp : pnext l k = k + 1 := by
      unfold pnext
      rw [if_neg (by rw [h0]; simp [h1]), if_neg (by rw [h0]; simp [h2])]
    rw [pfrom_go l k hk (by rw [h0]; simpa using h3), hp, ih (fun x hx => h x (by simp [hx])) (k + 1) (by rw [← List.drop_drop, hd]; rfl)]
    simp
    omega
theorem inl_em (w : List UInt8) (h : Word w) (f : Nat) : inlineF (f + 2) (42 :: (w ++ [42])) false = [⟨6, false, 0, []⟩, ⟨8, false, 0, w⟩, ⟨6, true, 0, []⟩] := by
  have hp : pfrom (42 :: (w ++ [42])) 1 = 1 + w.length := pfrom_word _ w [] (fun c hc => by have := h.facts hc; exact ⟨this.2.2.2.2.2.2.2.2.1, this.2.2.2.2.2.2.2.2.2.2.1, this.2.2.2.2.2.2.2.2.2.1⟩) 1 (by simp)
  have hpos := h.pos
  have hps : partnerS (42 :: (w ++ [42])) 0 = some (1 + w.length) := by
    unfold partnerS
    rw [Nat.zero_add, hp]
    obtain ⟨c, r, rfl⟩ := h.cons
    have f1 := h.facts (c := c) (by simp)
    have e2 : (42 :: (c :: r ++ [42]) : List UInt8)[1 + (c :: r).length - 1]?.map bl3 = some false := by
      have e : 1 + (c :: r).length - 1 = (c :: r).length := by omega
      rw [e]
      have : (42 :: (c :: r ++ [42]) : List UInt8)[(c :: r).length]? = (c :: r).getLast? := by
        rw [List.getLast?_eq_getElem?, List.length_cons, List.getElem?_cons_succ, List.getElem?_append_left (by simp)]
        rfl
      rw [this]
      cases hx : (c :: r).getLast? with
      | none => simp at hx
      | some x => simp [(h.facts (last_in hx)).2.2.2.1]
    rw [if_pos ⟨by simp; omega, by simp, by simp [f1.2.2.2.1], e2⟩]
  have ho : oneS (inlineF (f + 1)) (42 :: (w ++ [42])) 0 false = ([⟨6, false, 0, []⟩] ++ [⟨8, false, 0, w⟩] ++ [⟨6, true, 0, []⟩], w.length + 2) := by
    unfold oneS
    have e0 : (42 :: (w ++ [42]) : List UInt8)[0]? = some 42 := rfl
    rw [e0, if_neg (by decide), if_neg (by decide), if_neg (by decide), if_neg (by decide), if_pos rfl, if_neg (by decide), hps]
    have ec : cut (42 :: (w ++ [42])) (0 + 1) (1 + w.length) = w := by simp [cut]
    simp only [ec]
    rw [inlS_word w h]
    simp
    omega
  show inlFrom (inlineF (f + 1)) (42 :: (w ++ [42])) false 0 [] = _
  rw [inl_step _ _ (by simp), ho]
  rw [if_neg (show ¬ w.length + 2 = 0 by omega)]
  have ed : (42 :: (w ++ [42]) : List UInt8).drop (w.length + 2) = [] := by simp
  simp only [ed]
  rw [inl_end]
  rfl
theorem ev_em (w : List UInt8) (h : Word w) : eventsS (42 :: (w ++ [42])) = [⟨0, false, 0, []⟩, ⟨6, false, 0, []⟩, ⟨8, false, 0, w⟩, ⟨6, true, 0, []⟩, ⟨0, true, 0, []⟩] := by
  have hl : ∀ c ∈ (42 :: (w ++ [42]) : List UInt8), c ≠ 10 := by
    intro c hc
    simp at hc
    rcases hc with rfl | hc | rfl
    · decide
    · exact (h.facts hc).2.2.2.2.1
    · decide
  rw [events_exp, lines_run [] _ hl, List.nil_append, if_neg (by simp)]
  show expS none (blocksF (blocksAt 2) (2 - ((2 : Nat) : Int)) [42 :: (w ++ [42])]) = _
  rw [para_at' _ _ 42 (w ++ [42]) (by decide) (by decide) (fun x hx => by
    have : (42 :: (w ++ [42]) : List UInt8).getLast? = some 42 := by rw [← List.cons_append, List.getLast?_append]; rfl
    rw [this] at hx
    injection hx with hx
    rw [← hx]
    decide), exp_leaf 0 0 _ none (by simp) (by decide) (by decide)]
  unfold inlineS
  have e : (42 :: (w ++ [42]) : List UInt8).length + 1 = (w.length + 1) + 2 := by simp
  rw [e, inl_em w h]
  rfl
end Go.Proofs.YtljcljipppjnoaaGreatDoor

namespace Go.Proofs.YtljcljipppjnoaaGreatDoor
open Go.RowKit
def linkL (w : List UInt8) : List UInt8 := 91 :: (w ++ 93 :: 40 :: (w ++ [41]))
end Go.Proofs.YtljcljipppjnoaaGreatDoor
