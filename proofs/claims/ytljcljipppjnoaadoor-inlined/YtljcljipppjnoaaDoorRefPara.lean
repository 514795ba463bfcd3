import Derived.Test.YtljcljipppjnoaaDoorRefLeaf
namespace Go.Proofs.YtljcljipppjnoaaDoor
open Go.RowKit

/-- Lines in memory. -/
structure Strs (g o cap : Nat) (ls : List (List UInt8)) (w : World) : Prop where
  fits : ls.length ≤ cap
  max : cap ≤ 9223372036854775807
  lt : g < w.heap.size
  cell : ∀ (j : Nat) (l : List UInt8), ls[j]? = some l → w.cell? ⟨g, o + j, none⟩ = some (.string ⟨l.toArray⟩)

theorem Strs.below {g o cap B : Nat} {ls : List (List UInt8)} {w w' : World} (h : Strs g o cap ls w) (hb : Below B w w') (hg : g < B) : Strs g o cap ls w' :=
  ⟨h.fits, h.max, by have := hb.size; have := h.lt; omega, fun j l hj => (hb.cell (p := ⟨g, o + j, none⟩) hg).trans (h.cell j l hj)⟩

def blankL (l : List UInt8) : Bool := l.all isBl
def behindS (ls : List (List UInt8)) (n : Nat) : Nat := n + ((ls.drop n).takeWhile blankL).length

/-- No line is longer than this, and there are no more of them. -/
def Small (M : Nat) (ls : List (List UInt8)) : Prop := ls.length ≤ M ∧ ∀ l ∈ ls, l.length ≤ M

theorem behind_lt (ls : List (List UInt8)) (n : Nat) (h : n < ls.length) (hb : blankL ls[n] = true) : behindS ls n = behindS ls (n + 1) := by
  unfold behindS
  rw [List.drop_eq_getElem_cons h, List.takeWhile_cons, if_pos hb]
  simp
  omega
theorem behind_at (ls : List (List UInt8)) (n : Nat) (h : n < ls.length) (hb : blankL ls[n] = false) : behindS ls n = n := by
  unfold behindS
  rw [List.drop_eq_getElem_cons h, List.takeWhile_cons, if_neg (by simp [hb])]
  rfl
theorem behind_end (ls : List (List UInt8)) (n : Nat) (h : n = ls.length) : behindS ls n = n := by
  unfold behindS
  rw [List.drop_eq_nil_iff.2 (by omega)]
  rfl

theorem size_of (l : List UInt8) : (⟨l.toArray⟩ : ByteArray).size = l.length := by
  show l.toArray.size = _
  simp


end Go.Proofs.YtljcljipppjnoaaDoor
