import Derived.Test.YtljcljipppjnoaaDoorRefTxt
namespace Go.Proofs.YtljcljipppjnoaaDoor
open Go.RowKit

def hashes (l : List UInt8) : Nat := (l.takeWhile (· == 35)).length
/-- The level of a heading; 0: it is none. -/
def levelS (s : ByteArray) : Nat :=
  if hashes s.data.toList < 1 ∨ 3 < hashes s.data.toList ∨ (s.data.toList[hashes s.data.toList]?).map isBl = some false then 0 else hashes s.data.toList

theorem hashes_at (s : ByteArray) (k : Nat) (hk : k ≤ s.size) (ha : (s.data.toList.take k).all (· == 35) = true) (hn : ∀ h : k < s.size, (s[k] == 35) = false) : hashes s.data.toList = k := by
  unfold hashes
  have hl : s.data.toList.length = s.size := by rw [Array.length_toList]; rfl
  rw [← List.take_append_drop k s.data.toList, List.takeWhile_append_of_pos (by simpa using ha)]
  by_cases h : k < s.size
  · rw [drop_cons s k h, List.takeWhile_cons, if_neg (by simpa using hn h)]
    simp
    omega
  · rw [List.drop_eq_nil_iff.2 (by omega)]
    simp
    omega

theorem at_some (s : ByteArray) (k : Nat) (h : k < s.size) : s.data.toList[k]? = some s[k] := by
  rw [List.getElem?_eq_getElem (by rw [Array.length_toList]; exact h)]
  rfl
theorem at_none (s : ByteArray) (k : Nat) (h : ¬ k < s.size) : s.data.toList[k]? = none := by
  rw [List.getElem?_eq_none_iff, Array.length_toList]
  show s.size ≤ k
  omega


/-- What begins with a line, at a depth: 2 to 5; 0: nothing. -/
def startsS (s : ByteArray) (depth : Int) : Int :=
  if beginsS s ⟨#[96, 96, 96]⟩ = true then 2
  else if 0 < levelS s then 3
  else if beginsS s ⟨#[62]⟩ = true ∧ depth < 3 then 4
  else if itemS s = true ∧ depth < 3 then 5
  else 0


end Go.Proofs.YtljcljipppjnoaaDoor
