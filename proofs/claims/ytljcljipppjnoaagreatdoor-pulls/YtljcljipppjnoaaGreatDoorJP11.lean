import Derived.Test.YtljcljipppjnoaaGreatDoorJP07
import Derived.Lib.Join
namespace Go.Proofs.YtljcljipppjnoaaGreatDoor
open Go.RowKit

/-- How much some lines hold, their line feeds too. -/
def tot (ls : List (List UInt8)) : Nat := (ls.map fun l => l.length + 1).sum
theorem tot_nil : tot [] = 0 := rfl
theorem tot_cons (l : List UInt8) (r : List (List UInt8)) : tot (l :: r) = l.length + 1 + tot r := by simp [tot]
theorem tot_append (a b : List (List UInt8)) : tot (a ++ b) = tot a + tot b := by simp [tot]
theorem tot_split (ls : List (List UInt8)) (n : Nat) : tot (ls.take n) + tot (ls.drop n) = tot ls := by
  rw [← tot_append, List.take_append_drop]
theorem tot_drop (ls : List (List UInt8)) (n : Nat) : tot (ls.drop n) ≤ tot ls := by have := tot_split ls n; omega
theorem tot_take (ls : List (List UInt8)) (n : Nat) : tot (ls.take n) ≤ tot ls := by have := tot_split ls n; omega
theorem tot_len (ls : List (List UInt8)) : ls.length ≤ tot ls := by
  induction ls with
  | nil => exact Nat.le_refl _
  | cons l r ih => rw [tot_cons, List.length_cons]; omega
theorem tot_mem {ls : List (List UInt8)} {l : List UInt8} (h : l ∈ ls) : l.length ≤ tot ls := by
  induction ls with
  | nil => cases h
  | cons a r ih =>
    rw [tot_cons]
    rcases List.mem_cons.1 h with rfl | h
    · omega
    · have := ih h; omega
theorem tot_small {ls : List (List UInt8)} {M : Nat} (h : tot ls ≤ M) : Small M ls := ⟨Nat.le_trans (tot_len ls) h, fun _ hl => Nat.le_trans (tot_mem hl) h⟩
theorem tot_map (f : List UInt8 → List UInt8) (hf : ∀ l, (f l).length ≤ l.length) (ls : List (List UInt8)) : tot (ls.map f) ≤ tot ls := by
  induction ls with
  | nil => exact Nat.le_refl _
  | cons l r ih => rw [List.map_cons, tot_cons, tot_cons]; have := hf l; omega
theorem tot_quote (ls : List (List UInt8)) : tot (quoteIn ls) ≤ tot ls := Nat.le_trans (tot_map unq unq_le _) (tot_take ls _)
theorem tot_rep (n : Nat) : tot (List.replicate n []) = n := by
  induction n with
  | zero => rfl
  | succ n ih => rw [List.replicate_succ, tot_cons, ih]; simp; omega
theorem tot_more (ls : List (List UInt8)) (n : Nat) (hn : n ≤ ls.length) : tot (moreAt ls n).1 ≤ tot (ls.drop n) := by
  induction hm : ls.length - n using Nat.strongRecOn generalizing n with
  | _ m ih =>
    have hge := behind_ge ls n
    by_cases h : behindS ls n < ls.length
    · cases h2 : two ls[behindS ls n] with
      | true =>
        have a := ih (ls.length - (behindS ls n + 1)) (by omega) (behindS ls n + 1) (by omega) rfl
        rw [more_go ls n _ rfl h h2, tot_append, tot_rep, tot_cons]
        generalize behindS ls n = k at h a hge ⊢
        have e1 : ls.drop n = (ls.drop n).take (k - n) ++ ls[k] :: ls.drop (k + 1) := by
          have := List.take_append_drop (k - n) (ls.drop n)
          rw [List.drop_drop, show n + (k - n) = k by omega, List.drop_eq_getElem_cons h] at this
          exact this.symm
        rw [e1, tot_append, tot_cons]
        have h3 := tot_len ((ls.drop n).take (k - n))
        rw [List.length_take, List.length_drop] at h3
        have h4 : (ls[k].drop 2).length ≤ ls[k].length := by rw [List.length_drop]; omega
        omega
      | false =>
        rw [more_no ls n _ rfl h h2]
        exact Nat.zero_le _
    · rw [more_end ls n _ rfl h]
      exact Nat.zero_le _
theorem tot_item (ls : List (List UInt8)) (n : Nat) (hn : n < ls.length) : tot (itemIn ls n) ≤ tot ls := by
  have h1 := tot_more ls (n + 1) (by omega)
  have h2 := tot_split ls n
  rw [List.drop_eq_getElem_cons hn, tot_cons] at h2
  rw [itemIn, tot_cons, List.getElem?_eq_getElem hn, Option.getD_some, List.length_drop]
  omega
theorem codeOf_len (ls : List (List UInt8)) : (codeOf ls).length = tot ls := by
  induction ls with
  | nil => rfl
  | cons l r ih =>
    have : codeOf (l :: r) = (l ++ [10]) ++ codeOf r := by simp [codeOf]
    rw [this, tot_cons, List.length_append, ih]
    simp
theorem joinT_join (ls : List (List UInt8)) : joinT ls = Lib.join (ls.map trimL) [10] := by
  induction ls with
  | nil => rfl
  | cons l r ih =>
    cases r with
    | nil => simp [joinT, Lib.join, List.intercalate]
    | cons a b =>
      simp only [joinT, Lib.join, List.intercalate] at ih ⊢
      simpa using ih
theorem joinT_len (ls : List (List UInt8)) : (joinT ls).length ≤ tot ls := by
  cases ls with
  | nil => exact Nat.zero_le _
  | cons l r =>
    have h : ∀ r : List (List UInt8), (r.flatMap fun x => 10 :: trimL x).length ≤ tot r := by
      intro r
      induction r with
      | nil => exact Nat.le_refl _
      | cons x t ih =>
        rw [List.flatMap_cons, List.length_append, List.length_cons, tot_cons]
        have := trimL_le x
        omega
    have h1 := h r
    have h2 := trimL_le l
    rw [joinT, List.length_append, tot_cons]
    omega

/-- The pieces between the line feeds. -/
def linesAll : List UInt8 → List UInt8 → List (List UInt8)
  | cur, [] => [cur]
  | cur, c :: r => if c = 10 then cur :: linesAll [] r else linesAll (cur ++ [c]) r
theorem la_ne (cur l : List UInt8) : linesAll cur l ≠ [] := by
  induction l generalizing cur with
  | nil => simp [linesAll]
  | cons c r ih =>
    rw [linesAll]
    split
    · simp
    · exact ih _
theorem lines_all (cur l : List UInt8) : linesL cur l = if (linesAll cur l).getLast? = some [] then (linesAll cur l).dropLast else linesAll cur l := by
  induction l generalizing cur with
  | nil =>
    by_cases h : cur = [] <;> simp [linesL, linesAll, h]
  | cons c r ih =>
    rw [linesL, linesAll]
    by_cases hc : c = 10
    · rw [if_pos hc, if_pos hc, ih]
      have hne := la_ne [] r
      generalize linesAll [] r = t at hne
      cases t with
      | nil => exact absurd rfl hne
      | cons a b =>
        rw [List.getLast?_cons_cons, List.dropLast_cons_cons]
        split <;> rfl
    · rw [if_neg hc, if_neg hc, ih]
theorem tot_all (cur l : List UInt8) : tot (linesAll cur l) = cur.length + l.length + 1 := by
  induction l generalizing cur with
  | nil => simp [linesAll, tot]
  | cons c r ih =>
    rw [linesAll]
    split
    · rw [tot_cons, ih]; simp; omega
    · rw [ih]; simp; omega
theorem tot_lines (l : List UInt8) : tot (linesL [] l) ≤ l.length + 1 := by
  rw [lines_all]
  have h := tot_all [] l
  simp only [List.length_nil, Nat.zero_add] at h
  split
  · rw [List.dropLast_eq_take]
    exact Nat.le_trans (tot_take _ _) (by omega)
  · omega

end Go.Proofs.YtljcljipppjnoaaGreatDoor
