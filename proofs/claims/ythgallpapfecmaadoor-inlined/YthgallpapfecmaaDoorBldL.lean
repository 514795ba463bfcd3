import Derived.Test.YthgallpapfecmaaDoorShelf
import Derived.Test.YthgallpapfecmaaDoorRefPara
namespace Go.Proofs.YthgallpapfecmaaDoor
open Go.RowKit Go.Shelf

/-- A builder that holds a text. -/
def HasL (B b : Nat) (acc : List UInt8) (w : World) : Prop := Lib.IsBuilderF 87 5 B b (Lib.byteCells acc) w
theorem HasL.below {B b : Nat} {acc : List UInt8} {w w' : World} (h : HasL B b acc w) (hk : Below w.heap.size w w') : HasL B b acc w' := by
  have key : ∀ p, Lib.BuilderAtF 87 5 B b p (Lib.byteCells acc) w → Lib.BuilderAtF 87 5 B b p (Lib.byteCells acc) w' := by
    intro p h
    obtain ⟨hB, v, hb, hown, hne⟩ := h
    have hbl : b < w.heap.size := (Array.getElem?_eq_some_iff.1 hb).1
    refine ⟨hB, v, (hk.block b hbl).trans hb, ⟨hown.1, ?_⟩, hne⟩
    rcases hown.2 with hn | ⟨g, cap, cur, fz, hv, hbg, hg, rest⟩
    · exact .inl hn
    · have hgl : g < w.heap.size := (Array.getElem?_eq_some_iff.1 hg).1
      exact .inr ⟨g, cap, cur, fz, hv, hbg, (hk.block g hgl).trans hg, rest⟩
  exact h.elim (fun x => .inl (key _ x)) (fun x => .inr (key _ x))
theorem hasL_string (B b : Nat) (acc l : List UInt8) (w : World) (h : HasL B b acc w) (hlen : acc.length + l.length ≤ 140737488355328) (hBw : B ≤ w.heap.size) :
    Calls Tryd.prog 36 #[.pointer (some ⟨b, 0, none⟩), .string ⟨l.toArray⟩] w fun e w' => e = .returned (.tuple #[.int .i64 l.length, .nilIface]) ∧ HasL B b (acc ++ l) w' ∧ Below B w w' := by
  refine (bld_string B b _ ⟨l.toArray⟩ w h (by rw [Lib.byteCells_length, size_of]; exact hlen) hBw).mono ?_
  rintro e w' ⟨rfl, h1, b1, _⟩
  refine ⟨by rw [size_of], ?_, b1⟩
  unfold HasL
  rw [Lib.byteCells_append]
  exact Or.inr h1
theorem hasL_byte (B b : Nat) (acc : List UInt8) (w : World) (h : HasL B b acc w) (hlen : acc.length + 1 ≤ 140737488355328) (hBw : B ≤ w.heap.size) :
    Calls Tryd.prog 39 #[.pointer (some ⟨b, 0, none⟩), .int .u8 10] w fun e w' => e = .returned .nilIface ∧ HasL B b (acc ++ [10]) w' ∧ Below B w w' := by
  refine (bld_byte B b _ 10 w h (by rw [Lib.byteCells_length]; exact hlen) hBw).mono ?_
  rintro e w' ⟨rfl, h1, b1, _⟩
  refine ⟨rfl, ?_, b1⟩
  unfold HasL
  rw [Lib.byteCells_append]
  exact Or.inr h1
theorem hasL_all (B b : Nat) (acc : List UInt8) (w : World) (h : HasL B b acc w) (hBw : B ≤ w.heap.size) :
    Calls Tryd.prog 37 #[.pointer (some ⟨b, 0, none⟩)] w fun e w' => e = .returned (.string ⟨acc.toArray⟩) ∧ Below B w w' := by
  refine (bld_all B b acc w h hBw).mono ?_
  rintro e w' ⟨rfl, _, b1, _⟩
  exact ⟨rfl, b1⟩

end Go.Proofs.YthgallpapfecmaaDoor
