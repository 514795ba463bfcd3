import Derived.Test.YtljcljipppjnoaaDoorSourceWalk
namespace Go.Proofs.YtljcljipppjnoaaDoor
open Go.RowKit

theorem in_cells {w : World} {n : Nat} {tx : ByteArray} {cv : Value} {fa : Int} {wt : Bool} {t : TypeId} (h : w.heap[n]? = some (.cells #[.string tx, cv, .int .i64 fa, .bool wt] t (0, 0))) :
    w.cell? ⟨n, 0, none⟩ = some (.string tx) ∧ w.cell? ⟨n, 1, none⟩ = some cv ∧ w.cell? ⟨n, 2, none⟩ = some (.int .i64 fa) ∧ w.cell? ⟨n, 3, none⟩ = some (.bool wt) := by
  refine ⟨?_, ?_, ?_, ?_⟩ <;> (rw [Lib.cell_of_heap h]; rfl)

set_option maxHeartbeats 1000000 in
theorem fit_any (tx : ByteArray) (ca : Option Addr) (len cap : Nat) (fa : Int) (wt : Bool) (w : World) :
    Calls Tryd.prog 7 #[.agg #[.string tx, .slice ca len cap, .int .i64 fa, .bool wt]] w fun e w' => e = .returned (.bool (decide (tx.size ≤ 1048576) && decide (len ≤ 1048576))) ∧ Below w.heap.size w w' := by
  by_cases h1 : tx.size ≤ 1048576
  · by_cases h2 : len ≤ 1048576
    · have k1 : decide ((tx.size : Int) ≤ 1048576) = true := by simp; omega
      have k2 : decide ((len : Int) ≤ 1048576) = true := by simp; omega
      have K : Hid ((decide (tx.size ≤ 1048576) && decide (len ≤ 1048576)) = true) := by show _ = _; simp [h1, h2]
      clear h1 h2
      go_enter Tryd.func7, Tryd.ntmps7
      go_wp2
      go_ret
      rw [K.out]
      exact ⟨rfl, (Below.refl _ _).alloc (Nat.le_refl _) _⟩
    · have k1 : decide ((tx.size : Int) ≤ 1048576) = true := by simp; omega
      have k2 : decide ((len : Int) ≤ 1048576) = false := by simp; omega
      have K : Hid ((decide (tx.size ≤ 1048576) && decide (len ≤ 1048576)) = false) := by show _ = _; simp [h2]
      clear h1 h2
      go_enter Tryd.func7, Tryd.ntmps7
      go_wp2
      go_ret
      rw [K.out]
      exact ⟨rfl, (Below.refl _ _).alloc (Nat.le_refl _) _⟩
  · have k1 : decide ((tx.size : Int) ≤ 1048576) = false := by simp; omega
    have K : Hid ((decide (tx.size ≤ 1048576) && decide (len ≤ 1048576)) = false) := by show _ = _; simp [h1]
    clear h1
    go_enter Tryd.func7, Tryd.ntmps7
    go_wp2
    go_ret
    rw [K.out]
    exact ⟨rfl, (Below.refl _ _).alloc (Nat.le_refl _) _⟩

theorem NumsAt.below {cv : Value} {cs : List Int} {w W : World} (h : NumsAt cv cs w) (hb : Below w.heap.size w W) : NumsAt cv cs W := by
  rcases h with h | ⟨g, o, cap, h1, h2, h3⟩
  · exact Or.inl h
  · refine Or.inr ⟨g, o, cap, h1, by have := hb.size; omega, fun j c hj => ?_⟩
    rw [← h3 j c hj]
    exact World.cell?_of_block (hb.block g h2)

end Go.Proofs.YtljcljipppjnoaaDoor
