import Derived.Test.YtljcljipppjnoaaDoorRefPara2
namespace Go.Proofs.YtljcljipppjnoaaDoor
open Go.RowKit

/-- Three backticks. -/
def ticks : ByteArray := ⟨#[96, 96, 96]⟩
def shuts (l : List UInt8) : Bool := beginsS ⟨l.toArray⟩ ⟨#[96, 96, 96]⟩ && blankL (l.drop 3)
def shutAt (ls : List (List UInt8)) (k : Nat) : Nat := k + ((ls.drop k).takeWhile (fun l => !shuts l)).length
def codeOf (ls : List (List UInt8)) : List UInt8 := ls.flatMap fun l => l ++ [10]
def fencedN (ls : List (List UInt8)) : Nat := if shutAt ls 1 < ls.length then shutAt ls 1 + 1 else ls.length
def fencedT (ls : List (List UInt8)) : List UInt8 := codeOf ((ls.take (shutAt ls 1)).drop 1)

theorem shut_lt (ls : List (List UInt8)) (n : Nat) (h : n < ls.length) (hb : shuts ls[n] = false) : shutAt ls n = shutAt ls (n + 1) := by
  unfold shutAt
  rw [List.drop_eq_getElem_cons h, List.takeWhile_cons, if_pos (by simp [hb])]
  simp
  omega
theorem shut_at (ls : List (List UInt8)) (n : Nat) (h : n < ls.length) (hb : shuts ls[n] = true) : shutAt ls n = n := by
  unfold shutAt
  rw [List.drop_eq_getElem_cons h, List.takeWhile_cons, if_neg (by simp [hb])]
  rfl
theorem shut_end (ls : List (List UInt8)) (n : Nat) (h : n = ls.length) : shutAt ls n = n := by
  unfold shutAt
  rw [List.drop_eq_nil_iff.2 (by omega)]
  rfl
theorem codeOf_snoc (ls : List (List UInt8)) (x : List UInt8) : codeOf (ls ++ [x]) = codeOf ls ++ (x ++ [10]) := by
  simp [codeOf]
theorem take_drop_snoc (ls : List (List UInt8)) (k : Nat) (h1 : 1 ≤ k) (h : k < ls.length) : (ls.take (k + 1)).drop 1 = (ls.take k).drop 1 ++ [ls[k]] := by
  rw [snoc_take ls k h, List.drop_append_of_le_length]
  rw [List.length_take]
  omega
theorem ext3 (l : List UInt8) (h : beginsS ⟨l.toArray⟩ ⟨#[96, 96, 96]⟩ = true) : 3 ≤ l.length := by
  by_cases h3 : 3 ≤ l.length
  · exact h3
  · have := begins_short ⟨l.toArray⟩ ⟨#[96, 96, 96]⟩ (by rw [size_of]; exact h3)
    rw [h] at this
    exact absurd this (by decide)
theorem ba_ext (l : List UInt8) (a b : Nat) (hb : b = l.length) : (⟨l.toArray⟩ : ByteArray).extract a b = ⟨(l.drop a).toArray⟩ := by
  apply ByteArray.ext
  apply Array.ext'
  rw [Lib.extract_data, List.take_of_length_le (by simp [hb])]


end Go.Proofs.YtljcljipppjnoaaDoor
