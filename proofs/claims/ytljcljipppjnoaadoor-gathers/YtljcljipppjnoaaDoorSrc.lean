import Derived.Test.YtljcljipppjnoaaDoorRows
import Derived.WalkKit
import Derived.WalkSpells
import Derived.WalkLawsBesides
import Derived.Lib.SmallJoins
import Derived.Lib.Builder
import Derived.Deep.QuietTactic
import Derived.BigQuiet
import Derived.Handy
namespace Go.Proofs.YtljcljipppjnoaaDoor
open Go.RowKit

/-- All that lay is kept, but for one block. -/
structure Kept (b : Nat) (w w' : World) : Prop where
  os : w'.os = w.os
  tape : w'.tape = w.tape
  output : w'.output = w.output
  size : w.heap.size ≤ w'.heap.size
  block : ∀ k, k < w.heap.size → k ≠ b → w'.heap[k]? = w.heap[k]?

theorem Kept.refl (b : Nat) (w : World) : Kept b w w := ⟨rfl, rfl, rfl, Nat.le_refl _, fun _ _ _ => rfl⟩
theorem Kept.trans {b : Nat} {u v w : World} (h : Kept b u v) (k : Kept b v w) : Kept b u w :=
  ⟨k.os.trans h.os, k.tape.trans h.tape, k.output.trans h.output, Nat.le_trans h.size k.size, fun i hi hb => (k.block i (Nat.lt_of_lt_of_le hi h.size) hb).trans (h.block i hi hb)⟩
theorem Kept.alloc {b : Nat} {u v : World} (h : Kept b u v) (o : Obj) : Kept b u (v.alloc o) :=
  ⟨h.os, h.tape, h.output, by have := h.size; simp; omega, fun i hi hb => (Below.heap_alloc v o i (Nat.lt_of_lt_of_le hi h.size)).trans (h.block i hi hb)⟩
theorem Kept.drew {b : Nat} {u v : World} (h : Kept b u v) : Kept b u v.drew := ⟨h.os, h.tape, h.output, h.size, h.block⟩
theorem Kept.drewN {b : Nat} {u v : World} (h : Kept b u v) (n : Nat) : Kept b u (v.drewN n) := ⟨h.os, h.tape, h.output, h.size, h.block⟩
theorem Kept.setCell {b : Nat} {u v : World} (h : Kept b u v) (i : Nat) (x : Value) : Kept b u (v.setCell ⟨b, i, none⟩ x) :=
  ⟨h.os, h.tape, h.output, by have := h.size; simp; omega, fun k hk hb => (Below.heap_setCell v ⟨b, i, none⟩ x k hb).trans (h.block k hk hb)⟩
theorem Kept.setNew {b : Nat} {u v : World} (h : Kept b u v) {p : Addr} (hp : u.heap.size ≤ p.block) (x : Value) : Kept b u (v.setCell p x) :=
  ⟨h.os, h.tape, h.output, by have := h.size; simp; omega, fun k hk hb => (Below.heap_setCell v p x k (by omega)).trans (h.block k hk hb)⟩
theorem Kept.below {b B : Nat} {u v : World} (h : Kept b u v) (hB : B ≤ b) (hu : B ≤ u.heap.size) : Below B u v :=
  ⟨h.os, h.tape, h.output, h.size, fun k hk => h.block k (by omega) (by omega)⟩
theorem Kept.of_below {b : Nat} {u v : World} (h : Below u.heap.size u v) : Kept b u v := ⟨h.os, h.tape, h.output, h.size, fun k hk _ => h.block k hk⟩

theorem heap_new (v : World) (o : Obj) {n : Nat} (h : n = v.heap.size) : (v.alloc o).heap[n]? = some o := by
  subst h
  show (v.heap.push o)[v.heap.size]? = _
  simp

theorem empty_iff (s : ByteArray) : s.toList.isEmpty = decide (s.size = 0) := by
  rw [← decide_eq_emptyBytes]
  rw [Bool.eq_iff_iff, decide_eq_true_iff, decide_eq_true_iff]
  constructor
  · intro h
    rw [h]
    rfl
  · intro h
    apply ByteArray.ext
    exact Array.eq_empty_of_size_eq_zero h

/-- A source in memory. -/
def SrcAt (b : Nat) (tx : ByteArray) (cv : Value) (fa : Int) (wt : Bool) (rd : Int) (ov : Bool) (w : World) : Prop :=
  w.heap[b]? = some (.cells #[.string tx, cv, .int .i64 fa, .bool wt, .int .i64 rd, .bool ov] 50 (0, 0))

theorem SrcAt.cells {b : Nat} {tx : ByteArray} {cv : Value} {fa : Int} {wt : Bool} {rd : Int} {ov : Bool} {w : World} (h : SrcAt b tx cv fa wt rd ov w) :
    w.cell? ⟨b, 0, none⟩ = some (.string tx) ∧ w.cell? ⟨b, 1, none⟩ = some cv ∧ w.cell? ⟨b, 2, none⟩ = some (.int .i64 fa) ∧ w.cell? ⟨b, 3, none⟩ = some (.bool wt) ∧ w.cell? ⟨b, 4, none⟩ = some (.int .i64 rd) ∧ w.cell? ⟨b, 5, none⟩ = some (.bool ov) := by
  unfold SrcAt at h
  refine ⟨?_, ?_, ?_, ?_, ?_, ?_⟩ <;> (rw [Lib.cell_of_heap h]; rfl)
theorem SrcAt.frozen {b : Nat} {tx : ByteArray} {cv : Value} {fa : Int} {wt : Bool} {rd : Int} {ov : Bool} {w : World} (h : SrcAt b tx cv fa wt rd ov w) (j : Nat) : w.frozen? ⟨b, j, none⟩ = false :=
  Lib.frozen_of_heap h j
theorem SrcAt.lt {b : Nat} {tx : ByteArray} {cv : Value} {fa : Int} {wt : Bool} {rd : Int} {ov : Bool} {w : World} (h : SrcAt b tx cv fa wt rd ov w) : b < w.heap.size :=
  (Array.getElem?_eq_some_iff.1 h).1

theorem SrcAt.alloc {b : Nat} {tx : ByteArray} {cv : Value} {fa : Int} {wt : Bool} {rd : Int} {ov : Bool} {w : World} (h : SrcAt b tx cv fa wt rd ov w) (o : Obj) : SrcAt b tx cv fa wt rd ov (w.alloc o) :=
  (Below.heap_alloc w o b h.lt).trans h
theorem SrcAt.drewN {b : Nat} {tx : ByteArray} {cv : Value} {fa : Int} {wt : Bool} {rd : Int} {ov : Bool} {w : World} (h : SrcAt b tx cv fa wt rd ov w) (n : Nat) : SrcAt b tx cv fa wt rd ov (w.drewN n) := h
theorem SrcAt.put0 {b : Nat} {tx : ByteArray} {cv : Value} {fa : Int} {wt : Bool} {rd : Int} {ov : Bool} {w : World} (h : SrcAt b tx cv fa wt rd ov w) (tx' : ByteArray) : SrcAt b tx' cv fa wt rd ov (w.setCell ⟨b, 0, none⟩ (.string tx')) := by
  have := Joins.block_setCell (i := 0) h (.string tx')
  simpa [SrcAt] using this
theorem SrcAt.put1 {b : Nat} {tx : ByteArray} {cv : Value} {fa : Int} {wt : Bool} {rd : Int} {ov : Bool} {w : World} (h : SrcAt b tx cv fa wt rd ov w) (cv' : Value) : SrcAt b tx cv' fa wt rd ov (w.setCell ⟨b, 1, none⟩ cv') := by
  have := Joins.block_setCell (i := 1) h cv'
  simpa [SrcAt] using this
theorem SrcAt.put4 {b : Nat} {tx : ByteArray} {cv : Value} {fa : Int} {wt : Bool} {rd : Int} {ov : Bool} {w : World} (h : SrcAt b tx cv fa wt rd ov w) (rd' : Int) : SrcAt b tx cv fa wt rd' ov (w.setCell ⟨b, 4, none⟩ (.int .i64 rd')) := by
  have := Joins.block_setCell (i := 4) h (.int .i64 rd')
  simpa [SrcAt] using this
theorem SrcAt.put5 {b : Nat} {tx : ByteArray} {cv : Value} {fa : Int} {wt : Bool} {rd : Int} {ov : Bool} {w : World} (h : SrcAt b tx cv fa wt rd ov w) (ov' : Bool) : SrcAt b tx cv fa wt rd ov' (w.setCell ⟨b, 5, none⟩ (.bool ov')) := by
  have := Joins.block_setCell (i := 5) h (.bool ov')
  simpa [SrcAt] using this
theorem SrcAt.kept {b k : Nat} {tx : ByteArray} {cv : Value} {fa : Int} {wt : Bool} {rd : Int} {ov : Bool} {w w' : World} (h : SrcAt b tx cv fa wt rd ov w) (hk : Kept k w w') (hb : b ≠ k) : SrcAt b tx cv fa wt rd ov w' :=
  (hk.block b h.lt hb).trans h

set_option maxHeartbeats 1000000 in
theorem read_fail (b : Nat) (tx : ByteArray) (cv : Value) (fa : Int) (wt : Bool) (rd : Int) (ov : Bool) (w : World) (h : SrcAt b tx cv fa wt rd ov w) (h0 : 0 ≤ rd) (h1 : rd < 4611686018427387904) (hf : rd + 1 = fa) :
    Calls Tryd.prog 121 #[.pointer (some ⟨b, 0, none⟩)] w fun e w' => e = .returned (.tuple #[.string ⟨#[108, 111, 115, 116]⟩, .bool wt, .iface 62 (.pointer (some ⟨w.heap.size, 0, none⟩))]) ∧
      SrcAt b tx cv fa wt (rd + 1) ov w' ∧ w'.heap[w.heap.size]? = some (.cells #[.int .i64 (rd + 1)] 181 (0, 0)) ∧ Kept b w w' := by
  obtain ⟨c0, c1, c2, c3, c4, c5⟩ := h.cells
  have hz := h.frozen
  have hlt := h.lt
  have z4 := hz 4
  subst hf
  clear hz
  have H : Hid (SrcAt b tx cv (rd + 1) wt rd ov w) := h
  clear h
  go_enter Tryd.func121, Tryd.ntmps121
  go_wp2
  go_quiet (fail)
  go_wp2
  go_region
  go_wp2
  go_ret3
  refine ⟨rfl, ?_, ?_, ?_⟩
  · exact ((H.out.put4 _).drewN _).alloc _
  · exact heap_new _ _ (by simp)
  · exact (((Kept.refl b w).setCell 4 _).drewN _).alloc _

/-- How many bytes a cut takes. -/
def cutN (tx : ByteArray) (c : Int) : Nat := if c < 0 ∨ (tx.size : Int) < c then 0 else c.toNat

end Go.Proofs.YtljcljipppjnoaaDoor
