import Derived.Test.YtljcljipppjnoaaDoorRows
import Derived.WalkKit
import Derived.WalkSpells
import Derived.WalkLawsBesides
import Derived.Handy
import Derived.Lib.Strings
import Derived.Deep.RegionWith
import Derived.Deep.LoopGhost
namespace Go.Proofs.YtljcljipppjnoaaDoor
open Go.RowKit

/-! Lines, in plain words. -/
def isBl (c : UInt8) : Bool := c == 32 || c == 9
def blankS (s : ByteArray) : Bool := s.data.toList.all isBl
def beginsS (s w : ByteArray) : Bool := w.data.toList.isPrefixOf s.data.toList

theorem take_snoc (s : ByteArray) (k : Nat) (h : k < s.size) : s.data.toList.take (k + 1) = s.data.toList.take k ++ [s[k]] := by
  rw [List.take_succ_eq_append_getElem (by simpa using h)]; rfl
theorem drop_cons (s : ByteArray) (k : Nat) (h : k < s.size) : s.data.toList.drop k = s[k] :: s.data.toList.drop (k + 1) := by
  rw [List.drop_eq_getElem_cons (by simpa using h)]; rfl

theorem u8_eq (c d : UInt8) : ((c.toNat : Int) == (d.toNat : Int)) = (c == d) := by
  rw [Bool.eq_iff_iff, beq_iff_eq, beq_iff_eq]
  constructor
  · intro h
    exact UInt8.toNat_inj.1 (by omega)
  · intro h
    rw [h]



theorem list_of (s : ByteArray) : s.toList = s.data.toList := by
  have h := Lib.extract_toList s 0 s.size
  have e : s.extract 0 s.size = s := by
    apply ByteArray.ext
    rw [ByteArray.data_extract]
    exact Array.extract_size
  rw [e] at h
  rw [h, List.drop_zero, Nat.sub_zero, List.take_of_length_le]
  rw [Array.length_toList]
  exact Nat.le_refl _

theorem begins_eq (s p : ByteArray) : ((s.extract 0 p.size).toList == p.toList) = beginsS s p := by
  rw [Lib.extract_toList, list_of, List.drop_zero, Nat.sub_zero, Bool.eq_iff_iff, beq_iff_eq]
  unfold beginsS
  rw [List.isPrefixOf_iff_prefix, List.prefix_iff_eq_take]
  have hl : p.data.toList.length = p.size := by rw [Array.length_toList]; rfl
  rw [hl]
  exact ⟨Eq.symm, Eq.symm⟩

theorem begins_short (s p : ByteArray) (h : ¬ p.size ≤ s.size) : beginsS s p = false := by
  rw [Bool.eq_false_iff]
  intro h1
  unfold beginsS at h1
  rw [List.isPrefixOf_iff_prefix] at h1
  have := h1.length_le
  rw [Array.length_toList, Array.length_toList] at this
  exact h this


def itemS (s : ByteArray) : Bool := (s.toList == [45]) || beginsS s ⟨#[45, 32]⟩ || beginsS s ⟨#[45, 9]⟩


/-- A line without blanks at either end. -/
def trimL (l : List UInt8) : List UInt8 := ((l.dropWhile isBl).reverse.dropWhile isBl).reverse
def trimS (s : ByteArray) : ByteArray := ⟨(trimL s.data.toList).toArray⟩

theorem ext_tail (s : ByteArray) (h : 0 < s.size) : s.data.toList = s[0] :: (s.extract 1 s.size).data.toList := by
  have := drop_cons s 0 h
  rw [List.drop_zero] at this
  rw [this, Lib.extract_data, List.take_of_length_le]
  rw [List.length_drop, Array.length_toList]
  exact Nat.le_refl _
theorem ext_init (s : ByteArray) (h : 0 < s.size) : s.data.toList = (s.extract 0 (s.size - 1)).data.toList ++ [s[s.size - 1]] := by
  have := take_snoc s (s.size - 1) (by omega)
  rw [show s.size - 1 + 1 = s.size by omega, List.take_of_length_le (by rw [Array.length_toList]; exact Nat.le_refl _)] at this
  rw [this, Lib.extract_data]
  simp

theorem u8_bl (c : UInt8) : isBl c = (((c.toNat : Int) == 32) || ((c.toNat : Int) == 9)) := by
  have h1 := u8_eq c 32
  have h2 := u8_eq c 9
  unfold isBl
  rw [← h1, ← h2]
  rfl


end Go.Proofs.YtljcljipppjnoaaDoor
