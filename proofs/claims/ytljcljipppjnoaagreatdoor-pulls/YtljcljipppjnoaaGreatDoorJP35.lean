import Derived.Test.YtljcljipppjnoaaGreatDoorJP33
import Derived.Test.YtljcljipppjnoaaGreatDoorJP34
import Derived.Deep.RegionWith
namespace Go.Proofs.YtljcljipppjnoaaGreatDoor
open Go.RowKit Go.Extern.Stop Go.Stop Go.Extern

theorem lt_cell {w : World} {b i : Nat} {v : Value} (h : w.cell? ⟨b, i, none⟩ = some v) : b < w.heap.size := by
  rcases Nat.lt_or_ge b w.heap.size with h' | h'
  · exact h'
  · simp [World.cell?, Array.getElem?_eq_none h'] at h

theorem Tryz.asR (v : Value) (w : World) : (Instr.typeAssert (.iface 134 v) 98 134 true).run Tryz.prog w = .ok (.tuple #[v, .bool true]) w := by kernel_rfl
theorem Tryz.asER (v : Value) (w : World) : (Instr.typeAssert (.iface 292 v) 98 134 true).run Tryz.prog w = .ok (.tuple #[.pointer none, .bool false]) w := by kernel_rfl
theorem Tryz.asEW (v : Value) (w : World) : (Instr.typeAssert (.iface 292 v) 98 141 true).run Tryz.prog w = .ok (.tuple #[.pointer none, .bool false]) w := by kernel_rfl
theorem sent_same (a : Addr) (w : World) : (binOp .eql 98 (.iface 292 (.pointer (some a))) (.iface 292 (.pointer (some a)))).run Tryz.prog w = .ok (.bool true) w := by
  obtain ⟨i, hi, hcmp⟩ := Option.map_eq_some_iff.1 Tryz.compErr
  obtain ⟨j, hj, hjs⟩ := Option.map_eq_some_iff.1 Tryz.sizeErr
  exact run_eql_iface_ptr_same (P := Tryz.prog) w a Tryz.underlying98 Tryz.underlying292 hi hcmp hj
theorem Tryz.compOwn : (Tryz.prog.info? 133).map (·.comparable) = some true := by kernel_rfl
theorem Tryz.sizeOwn : (Tryz.prog.info? 306).map (fun j => decide (j.size ≠ 0)) = some true := by kernel_rfl
theorem own_same (a : Addr) (w : World) : (binOp .eql 98 (.iface 133 (.pointer (some a))) (.iface 133 (.pointer (some a)))).run Tryz.prog w = .ok (.bool true) w := by
  obtain ⟨i, hi, hcmp⟩ := Option.map_eq_some_iff.1 Tryz.compOwn
  obtain ⟨j, hj, hjs⟩ := Option.map_eq_some_iff.1 Tryz.sizeOwn
  exact run_eql_iface_ptr_same (P := Tryz.prog) w a Tryz.underlying98 Tryz.underlying133 hi hcmp hj

theorem tell_cell {w : World} {g : Nat} {v : Value} (h : w.cell? ⟨g, 0, none⟩ = some v) : ((w.alloc (.cells #[.int .i64 0, .int .i64 0] 43)).alloc (.cells #[.pointer none] 133)).cell? ⟨g, 0, none⟩ = some v := by
  have l := lt_cell h
  have e : ((w.alloc (.cells #[.int .i64 0, .int .i64 0] 43)).alloc (.cells #[.pointer none] 133)).heap[g]? = w.heap[g]? := by rw [Below.heap_alloc _ _ g (by simp; omega), Below.heap_alloc _ _ g l]
  rw [← h]
  exact World.cell?_of_block e

set_option maxHeartbeats 1000000 in
theorem of_nil (w : World) :
    Calls Tryz.prog 49 #[.nilIface] w fun e w' => e = .returned (.agg #[.int .i64 0, .int .i64 0]) ∧ Below w.heap.size w w' := by
  go_enter Tryz.func49, Tryz.ntmps49
  go_wp2
  go_returns
  exact ⟨rfl, ((Below.refl _ _).alloc (Nat.le_refl _) _).alloc (by simp) _⟩

set_option maxHeartbeats 1000000 in
theorem of_long (aL : Addr) (w : World) (hL : w.cell? ⟨1, 0, none⟩ = some (.iface 292 (.pointer (some aL)))) :
    Calls Tryz.prog 49 #[.iface 292 (.pointer (some aL))] w fun e w' => e = .returned (.agg #[.int .i64 1, .int .i64 0]) ∧ Below w.heap.size w w' := by
  have a1 := Tryz.asER
  have a2 := Tryz.asEW
  have eq := sent_same aL
  have hL2 := tell_cell hL
  clear hL
  go_enter Tryz.func49, Tryz.ntmps49
  go_wp2
  go_returns
  exact ⟨rfl, ((Below.refl _ _).alloc (Nat.le_refl _) _).alloc (by simp) _⟩

set_option maxHeartbeats 1000000 in
theorem of_idle (aL aI : Addr) (w : World) (hL : w.cell? ⟨1, 0, none⟩ = some (.iface 292 (.pointer (some aL)))) (hI : w.cell? ⟨2, 0, none⟩ = some (.iface 292 (.pointer (some aI))))
    (q : ∀ W : World, (∀ b : Nat, b < w.heap.size → W.heap[b]? = w.heap[b]?) → (binOp .eql 98 (.iface 292 (.pointer (some aI))) (.iface 292 (.pointer (some aL)))).run Tryz.prog W = .ok (.bool false) W) :
    Calls Tryz.prog 49 #[.iface 292 (.pointer (some aI))] w fun e w' => e = .returned (.agg #[.int .i64 2, .int .i64 0]) ∧ Below w.heap.size w w' := by
  have a1 := Tryz.asER
  have a2 := Tryz.asEW
  have eq := sent_same aI
  have hL2 := tell_cell hL
  have hI2 := tell_cell hI
  have q2 := q ((w.alloc (.cells #[.int .i64 0, .int .i64 0] 43)).alloc (.cells #[.pointer none] 133)) (fun b hb => by rw [Below.heap_alloc _ _ b (by simp; omega), Below.heap_alloc _ _ b hb])
  clear q hL hI
  go_enter Tryz.func49, Tryz.ntmps49
  go_wp2
  go_returns
  exact ⟨rfl, ((Below.refl _ _).alloc (Nat.le_refl _) _).alloc (by simp) _⟩

/-- The two blocks that a telling lays. -/
def telling (w : World) : World := (w.alloc (.cells #[.int .i64 0, .int .i64 0] 43)).alloc (.cells #[.pointer none] 133)
theorem telling_size (w : World) : (telling w).heap.size = w.heap.size + 2 := by simp [telling]
theorem telling_old (w : World) (k : Nat) (h : k < w.heap.size) : (telling w).heap[k]? = w.heap[k]? := by
  unfold telling
  rw [Below.heap_alloc _ _ k (by simp; omega), Below.heap_alloc _ _ k h]
theorem telling0 (w : World) : (telling w).heap[w.heap.size]? = some (.cells #[.int .i64 0, .int .i64 0] 43 (0, 0)) := by
  unfold telling
  rw [Below.heap_alloc _ _ _ (by simp)]
  exact heap_new _ _ rfl
theorem telling1 (w : World) : (telling w).heap[w.heap.size + 1]? = some (.cells #[.pointer none] 133 (0, 0)) := by
  unfold telling
  exact heap_new _ _ (by simp)

theorem as_told (gE : Nat) (k : Int) (gO : Addr) (w : World) (hg : w.cell? ⟨3, 0, none⟩ = some (.iface 200 (.agg #[.pointer (some ⟨12, 98, none⟩)])))
    (h0 : w.cell? ⟨gE, 0, none⟩ = some (.int .i64 k)) (h1 : w.cell? ⟨gE, 1, none⟩ = some (.iface 133 (.pointer (some gO)))) :
    Calls Tryz.prog 69 #[.iface 134 (.pointer (some ⟨gE, 0, none⟩)), .iface 136 (.pointer (some ⟨w.heap.size + 1, 0, none⟩))] (telling w).drew fun e w' => e = .returned (.bool true) ∧
      w'.cell? ⟨gE, 0, none⟩ = some (.int .i64 k) ∧ w'.cell? ⟨gE, 1, none⟩ = some (.iface 133 (.pointer (some gO))) ∧ w'.cell? ⟨w.heap.size + 1, 0, none⟩ = some (.pointer (some gO)) ∧
      w'.cell? ⟨w.heap.size, 0, none⟩ = some (.int .i64 0) ∧ w'.cell? ⟨w.heap.size, 1, none⟩ = some (.int .i64 0) ∧ w'.frozen? ⟨w.heap.size, 0, none⟩ = false ∧ w'.frozen? ⟨w.heap.size, 1, none⟩ = false ∧
      Hid (w'.heap[w.heap.size]? = some (.cells #[.int .i64 0, .int .i64 0] 43 (0, 0))) ∧ Below w.heap.size w w' := by
  have lE := lt_cell h0
  have lG := lt_cell hg
  have hs := telling_size w
  have o1 : (telling w).drew.cell? ⟨w.heap.size + 1, 0, none⟩ = some (.pointer none) := by
    show (telling w).cell? _ = _
    rw [Lib.cell_of_heap (telling1 w)]; rfl
  have o2 : (telling w).drew.frozen? ⟨w.heap.size + 1, 0, none⟩ = false := Lib.frozen_of_heap (telling1 w) 0
  refine (as_deep gE gO ⟨w.heap.size + 1, 0, none⟩ (.pointer none) (telling w).drew ((World.cell?_of_block (telling_old w _ lG)).trans hg) ((World.cell?_of_block (telling_old w _ lE)).trans h1) o1 o2).mono ?_
  rintro e w' ⟨rfl, rfl⟩
  have kp : Kept (w.heap.size + 1) (telling w).drew (((asking ⟨w.heap.size + 1, 0, none⟩ (telling w).drew).alloc (.cells #[.pointer (some gO)] 133)).setCell ⟨w.heap.size + 1, 0, none⟩ (.pointer (some gO))) :=
    ((((((Kept.refl _ _).alloc _).alloc _).alloc _).alloc _).setCell 0 _)
  have old : ∀ j, j < w.heap.size → (((asking ⟨w.heap.size + 1, 0, none⟩ (telling w).drew).alloc (.cells #[.pointer (some gO)] 133)).setCell ⟨w.heap.size + 1, 0, none⟩ (.pointer (some gO))).heap[j]? = w.heap[j]? := fun j hj =>
    (kp.block j (by show j < (telling w).heap.size; omega) (by omega)).trans (telling_old w j hj)
  have own := (kp.block w.heap.size (by show _ < (telling w).heap.size; omega) (by omega)).trans (telling0 w)
  have b1 : (((asking ⟨w.heap.size + 1, 0, none⟩ (telling w).drew).alloc (.cells #[.pointer (some gO)] 133)).heap[w.heap.size + 1]?) = some (.cells #[.pointer none] 133 (0, 0)) := by
    have kq : Kept (w.heap.size + 2) (telling w).drew ((asking ⟨w.heap.size + 1, 0, none⟩ (telling w).drew).alloc (.cells #[.pointer (some gO)] 133)) :=
      (((((Kept.refl _ _).alloc _).alloc _).alloc _).alloc _)
    exact (kq.block _ (by show _ < (telling w).heap.size; omega) (by omega)).trans (telling1 w)
  have own1 := Joins.block_setCell (i := 0) b1 (.pointer (some gO))
  refine ⟨rfl, (World.cell?_of_block (old gE lE)).trans h0, (World.cell?_of_block (old gE lE)).trans h1, ?_, ?_, ?_, Lib.frozen_of_heap own 0, Lib.frozen_of_heap own 1, own, ⟨kp.os, kp.tape, kp.output, by have := kp.size; have e1 : (telling w).drew.heap.size = (telling w).heap.size := rfl; omega, old⟩⟩
  · rw [Lib.cell_of_heap own1]; rfl
  · rw [Lib.cell_of_heap own]; rfl
  · rw [Lib.cell_of_heap own]; rfl

set_option maxHeartbeats 1000000 in
theorem of_read (gE : Nat) (k : Int) (gO : Addr) (w : World) (hg : w.cell? ⟨3, 0, none⟩ = some (.iface 200 (.agg #[.pointer (some ⟨12, 98, none⟩)])))
    (h0 : w.cell? ⟨gE, 0, none⟩ = some (.int .i64 k)) (h1 : w.cell? ⟨gE, 1, none⟩ = some (.iface 133 (.pointer (some gO)))) :
    Calls Tryz.prog 49 #[.iface 134 (.pointer (some ⟨gE, 0, none⟩))] w fun e w' => e = .returned (.agg #[.int .i64 4, .int .i64 k]) ∧ Below w.heap.size w w' := by
  have a1 := Tryz.asR
  have eq := own_same gO
  have hc := as_told gE k gO w hg h0 h1
  unfold telling at hc
  clear hg h0 h1
  go_enter Tryz.func49, Tryz.ntmps49
  go_wp2
  go_region_with (go_at_call 69; refine hc.mono ?_; rintro e w1 ⟨rfl, d0, d1, d2, d3, d4, z0, z1, own, hb⟩)
  all_goals
    go_wp2
    have own2 := Joins.block_setCell (i := 0) own.out (.int .i64 4)
    have own3 := Joins.block_setCell (i := 1) own2 (.int .i64 k)
    have e0 : (w1.setCell ⟨w.heap.size, 0, none⟩ (.int .i64 4)).cell? ⟨w.heap.size, 0, none⟩ = some (.int .i64 4) := by rw [Lib.cell_of_heap own2]; rfl
    have e1 : ((w1.setCell ⟨w.heap.size, 0, none⟩ (.int .i64 4)).setCell ⟨w.heap.size, 1, none⟩ (.int .i64 k)).cell? ⟨w.heap.size, 1, none⟩ = some (.int .i64 k) := by rw [Lib.cell_of_heap own3]; rfl
    exact bodyPost_ret (v := .agg #[.int .i64 4, .int .i64 k]) (by simp [results, Tryz.results49, go_sem, e0, e1]) rfl ⟨rfl, (hb.setCell (p := ⟨w.heap.size, 0, none⟩) (Nat.le_refl _) _).setCell (p := ⟨w.heap.size, 1, none⟩) (Nat.le_refl _) _⟩

end Go.Proofs.YtljcljipppjnoaaGreatDoor
