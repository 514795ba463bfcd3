import Derived.Test.YtljcljipppjnoaaDoorRefPara
namespace Go.Proofs.YtljcljipppjnoaaDoor
open Go.RowKit

def joinT : List (List UInt8) → List UInt8
  | [] => []
  | l :: r => trimL l ++ r.flatMap fun x => 10 :: trimL x
theorem joinT_snoc (ls : List (List UInt8)) (x : List UInt8) (h : ls ≠ []) : joinT (ls ++ [x]) = joinT ls ++ 10 :: trimL x := by
  cases ls with
  | nil => exact absurd rfl h
  | cons l r => simp [joinT]

def stays (depth : Int) (l : List UInt8) : Bool := !blankL l && decide (startsS ⟨l.toArray⟩ depth = 0)
def paraFrom (ls : List (List UInt8)) (depth : Int) (k : Nat) : Nat := k + ((ls.drop k).takeWhile (stays depth)).length

theorem para_lt (ls : List (List UInt8)) (d : Int) (n : Nat) (h : n < ls.length) (hb : stays d ls[n] = true) : paraFrom ls d n = paraFrom ls d (n + 1) := by
  unfold paraFrom
  rw [List.drop_eq_getElem_cons h, List.takeWhile_cons, if_pos hb]
  simp
  omega
theorem para_at (ls : List (List UInt8)) (d : Int) (n : Nat) (h : n < ls.length) (hb : stays d ls[n] = false) : paraFrom ls d n = n := by
  unfold paraFrom
  rw [List.drop_eq_getElem_cons h, List.takeWhile_cons, if_neg (by simp [hb])]
  rfl
theorem para_end (ls : List (List UInt8)) (d : Int) (n : Nat) (h : n = ls.length) : paraFrom ls d n = n := by
  unfold paraFrom
  rw [List.drop_eq_nil_iff.2 (by omega)]
  rfl

theorem trimL_le (l : List UInt8) : (trimL l).length ≤ l.length := by
  unfold trimL
  rw [List.length_reverse]
  have h1 := (List.dropWhile_sublist (l := (l.dropWhile isBl).reverse) isBl).length_le
  have h2 := (List.dropWhile_sublist (l := l) isBl).length_le
  rw [List.length_reverse] at h1
  omega

theorem starts_nat (s : ByteArray) (d : Int) : 0 ≤ startsS s d ∧ startsS s d ≤ 5 := by
  unfold startsS
  split
  · omega
  split
  · omega
  split
  · omega
  split <;> omega

theorem ba_app (a b : List UInt8) : (⟨a.toArray⟩ : ByteArray) ++ ⟨b.toArray⟩ = ⟨(a ++ b).toArray⟩ := by
  apply ByteArray.ext
  rw [ByteArray.data_append]
  simp
theorem ba3 (a b c : List UInt8) : (⟨a.toArray⟩ : ByteArray) ++ ⟨b.toArray⟩ ++ ⟨c.toArray⟩ = ⟨(a ++ (b ++ c)).toArray⟩ := by
  rw [ba_app, ba_app, List.append_assoc]

theorem snoc_take (ls : List (List UInt8)) (k : Nat) (h : k < ls.length) : ls.take (k + 1) = ls.take k ++ [ls[k]] := List.take_succ_eq_append_getElem h


end Go.Proofs.YtljcljipppjnoaaDoor
