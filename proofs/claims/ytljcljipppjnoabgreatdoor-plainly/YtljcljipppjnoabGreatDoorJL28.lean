import Derived.Test.YtljcljipppjnoabGreatDoorJL26
import Derived.Test.YtljcljipppjnoabGreatDoorJL27
import Derived.Deep.RegionWith
import Derived.Deep.RegionLaw
namespace Go.Proofs.YtljcljipppjnoabGreatDoor
open Go.RowKit Go.Extern.Stop Go.Stop Go.Extern
theorem lt_cell {w : World} {b i : Nat} {v : Value} (h : w.cell? ⟨b, i, none⟩ = some v) : b < w.heap.size := by
  rcases Nat.lt_or_ge b w.heap.size with h' | h'
  · exact h'
  · simp [World.cell?, Array.getElem?_eq_none h'] at h
theorem Tryz.asR (v : Value) (w : World) : (Instr.typeAssert (.iface 62 v) 41 62 true).run Tryz.prog w = .ok (.tuple #[v, .bool true]) w := by kernel_rfl
theorem Tryz.asER (v : Value) (w : World) : (Instr.typeAssert (.iface 233 v) 41 62 true).run Tryz.prog w = .ok (.tuple #[.pointer none, .bool false]) w := by kernel_rfl
theorem Tryz.asEW (v : Value) (w : World) : (Instr.typeAssert (.iface 233 v) 41 69 true).run Tryz.prog w = .ok (.tuple #[.pointer none, .bool false]) w := by kernel_rfl
theorem sent_same (a : Addr) (w : World) : (binOp .eql 41 (.iface 233 (.pointer (some a))) (.iface 233 (.pointer (some a)))).run Tryz.prog w = .ok (.bool true) w := by
  obtain ⟨i, hi, hcmp⟩ := Option.map_eq_some_iff.1 Tryz.compErr
  obtain ⟨j, hj, hjs⟩ := Option.map_eq_some_iff.1 Tryz.sizeErr
  exact run_eql_iface_ptr_same (P := Tryz.prog) w a Tryz.underlying41 Tryz.underlying233 hi hcmp hj
theorem Tryz.compOwn : (Tryz.prog.info? 61).map (·.comparable) = some true := by kernel_rfl
theorem Tryz.sizeOwn : (Tryz.prog.info? 247).map (fun j => decide (j.size ≠ 0)) = some true := by kernel_rfl
theorem own_same (a : Addr) (w : World) : (binOp .eql 41 (.iface 61 (.pointer (some a))) (.iface 61 (.pointer (some a)))).run Tryz.prog w = .ok (.bool true) w := by
  obtain ⟨i, hi, hcmp⟩ := Option.map_eq_some_iff.1 Tryz.compOwn
  obtain ⟨j, hj, hjs⟩ := Option.map_eq_some_iff.1 Tryz.sizeOwn
  exact run_eql_iface_ptr_same (P := Tryz.prog) w a Tryz.underlying41 Tryz.underlying61 hi hcmp hj
theorem tell_cell {w : World} {g : Nat} {v : Value} (h : w.cell? ⟨g, 0, none⟩ = some v) : ((w.alloc (.cells #[.int .i64 0, .int .i64 0] 23)).alloc (.cells #[.pointer none] 61)).cell? ⟨g, 0, none⟩ = some v := by
  have l := lt_cell h
  have e : ((w.alloc (.cells #[.int .i64 0, .int .i64 0] 23)).alloc (.cells #[.pointer none] 61)).heap[g]? = w.heap[g]? := by rw [Below.heap_alloc _ _ g (by simp; omega), Below.heap_alloc _ _ g l]
  rw [← h]
  exact World.cell?_of_block e
set_option maxHeartbeats 1000000 in
theorem of_nil (w : World) :
    Calls Tryz.prog 8 #[.nilIface] w fun e w' => e = .returned (.agg #[.int .i64 0, .int .i64 0]) ∧ Below w.heap.size w w' := by
  go_enter Tryz.func8, Tryz.ntmps8
  go_wp2
  go_returns
  exact ⟨rfl, ((Below.refl _ _).alloc (Nat.le_refl _) _).alloc (by simp) _⟩
set_option maxHeartbeats 1000000 in
theorem of_long (aL : Addr) (w : World) (hL : w.cell? ⟨1, 0, none⟩ = some (.iface 233 (.pointer (some aL)))) :
    Calls Tryz.prog 8 #[.iface 233 (.pointer (some aL))] w fun e w' => e = .returned (.agg #[.int .i64 1, .int .i64 0]) ∧ Below w.heap.size w w' := by
  have a1 := Tryz.asER
  have a2 := Tryz.asEW
  have eq := sent_same aL
  have hL2 := tell_cell hL
  clear hL
  go_enter Tryz.func8, Tryz.ntmps8
  go_wp2
  go_returns
  exact ⟨rfl, ((Below.refl _ _).alloc (Nat.le_refl _) _).alloc (by simp) _⟩
set_option maxHeartbeats 1000000 in
theorem of_idle (aL aI : Addr) (w : World) (hL : w.cell? ⟨1, 0, none⟩ = some (.iface 233 (.pointer (some aL)))) (hI : w.cell? ⟨2, 0, none⟩ = some (.iface 233 (.pointer (some aI))))
    (q : ∀ W : World, (∀ b : Nat, b < w.heap.size → W.heap[b]? = w.heap[b]?) → (binOp .eql 41 (.iface 233 (.pointer (some aI))) (.iface 233 (.pointer (some aL)))).run Tryz.prog W = .ok (.bool false) W) :
    Calls Tryz.prog 8 #[.iface 233 (.pointer (some aI))] w fun e w' => e = .returned (.agg #[.int .i64 2, .int .i64 0]) ∧ Below w.heap.size w w' := by
  have a1 := Tryz.asER
  have a2 := Tryz.asEW
  have eq := sent_same aI
  have hL2 := tell_cell hL
  have hI2 := tell_cell hI
  have q2 := q ((w.alloc (.cells #[.int .i64 0, .int .i64 0] 23)).alloc (.cells #[.pointer none] 61)) (fun b hb => by rw [Below.heap_alloc _ _ b (by simp; omega), Below.heap_alloc _ _ b hb])
  clear q hL hI
  go_enter Tryz.func8, Tryz.ntmps8
  go_wp2
  go_returns
  exact ⟨rfl, ((Below.refl _ _).alloc (Nat.le_refl _) _).alloc (by simp) _⟩
def telling (w : World) : World := (w.alloc (.cells #[.int .i64 0, .int .i64 0] 23)).alloc (.cells #[.pointer none] 61)
theorem telling_size (w : World) : (telling w).heap.size = w.heap.size + 2 := by simp [telling]
theorem telling_old (w : World) (k : Nat) (h : k < w.heap.size) : (telling w).heap[k]? = w.heap[k]? := by
  unfold telling
  rw [Below.heap_alloc _ _ k (by simp; omega), Below.heap_alloc _ _ k h]
theorem telling0 (w : World) : (telling w).heap[w.heap.size]? = some (.cells #[.int .i64 0, .int .i64 0] 23 (0, 0)) := by
  unfold telling
  rw [Below.heap_alloc _ _ _ (by simp)]
  exact heap_new _ _ rfl
theorem telling1 (w : World) : (telling w).heap[w.heap.size + 1]? = some (.cells #[.pointer none] 61 (0, 0)) := by
  unfold telling
  exact heap_new _ _ (by simp)
theorem as_told (gE : Nat) (k : Int) (gO : Addr) (w : World) (hg : w.cell? ⟨3, 0, none⟩ = some (.iface 111 (.agg #[.pointer (some ⟨12, 41, none⟩)])))
    (h0 : w.cell? ⟨gE, 0, none⟩ = some (.int .i64 k)) (h1 : w.cell? ⟨gE, 1, none⟩ = some (.iface 61 (.pointer (some gO)))) :
    Calls Tryz.prog 14 #[.iface 62 (.pointer (some ⟨gE, 0, none⟩)), .iface 64 (.pointer (some ⟨w.heap.size + 1, 0, none⟩))] (telling w).drew fun e w' => e = .returned (.bool true) ∧
      w'.cell? ⟨gE, 0, none⟩ = some (.int .i64 k) ∧ w'.cell? ⟨gE, 1, none⟩ = some (.iface 61 (.pointer (some gO))) ∧ w'.cell? ⟨w.heap.size + 1, 0, none⟩ = some (.pointer (some gO)) ∧
      w'.cell? ⟨w.heap.size, 0, none⟩ = some (.int .i64 0) ∧ w'.cell? ⟨w.heap.size, 1, none⟩ = some (.int .i64 0) ∧ w'.frozen? ⟨w.heap.size, 0, none⟩ = false ∧ w'.frozen? ⟨w.heap.size, 1, none⟩ = false ∧
      Hid (w'.heap[w.heap.size]? = some (.cells #[.int .i64 0, .int .i64 0] 23 (0, 0))) ∧ Below w.heap.size w w' := by
  have lE := lt_cell h0
  have lG := lt_cell hg
  have hs := telling_size w
  have o1 : (telling w).drew.cell? ⟨w.heap.size + 1, 0, none⟩ = some (.pointer none) := by
    show (telling w).cell? _ = _
    rw [Lib.cell_of_heap (telling1 w)]; rfl
  have o2 : (telling w).drew.frozen? ⟨w.heap.size + 1, 0, none⟩ = false := Lib.frozen_of_heap (telling1 w) 0
  refine (as_deep gE gO ⟨w.heap.size + 1, 0, none⟩ (.pointer none) (telling w).drew ((World.cell?_of_block (telling_old w _ lG)).trans hg) ((World.cell?_of_block (telling_old w _ lE)).trans h1) o1 o2).mono ?_
  rintro e w' ⟨rfl, rfl⟩
  have kp : Kept (w.heap.size + 1) (telling w).drew (((asking ⟨w.heap.size + 1, 0, none⟩ (telling w).drew).alloc (.cells #[.pointer (some gO)] 61)).setCell ⟨w.heap.size + 1, 0, none⟩ (.pointer (some gO))) :=
    ((((((Kept.refl _ _).alloc _).alloc _).alloc _).alloc _).setCell 0 _)
  have old : ∀ j, j < w.heap.size → (((asking ⟨w.heap.size + 1, 0, none⟩ (telling w).drew).alloc (.cells #[.pointer (some gO)] 61)).setCell ⟨w.heap.size + 1, 0, none⟩ (.pointer (some gO))).heap[j]? = w.heap[j]? := fun j hj =>
    (kp.block j (by show j < (telling w).heap.size; omega) (by omega)).trans (telling_old w j hj)
  have own := (kp.block w.heap.size (by show _ < (telling w).heap.size; omega) (by omega)).trans (telling0 w)
  have b1 : (((asking ⟨w.heap.size + 1, 0, none⟩ (telling w).drew).alloc (.cells #[.pointer (some gO)] 61)).heap[w.heap.size + 1]?) = some (.cells #[.pointer none] 61 (0, 0)) := by
    have kq : Kept (w.heap.size + 2) (telling w).drew ((asking ⟨w.heap.size + 1, 0, none⟩ (telling w).drew).alloc (.cells #[.pointer (some gO)] 61)) :=
      (((((Kept.refl _ _).alloc _).alloc _).alloc _).alloc _)
    exact (kq.block _ (by show _ < (telling w).heap.size; omega) (by omega)).trans (telling1 w)
  have own1 := Joins.block_setCell (i := 0) b1 (.pointer (some gO))
  refine ⟨rfl, (World.cell?_of_block (old gE lE)).trans h0, (World.cell?_of_block (old gE lE)).trans h1, ?_, ?_, ?_, Lib.frozen_of_heap own 0, Lib.frozen_of_heap own 1, own, ⟨kp.os, kp.tape, kp.output, by have := kp.size; have e1 : (telling w).drew.heap.size = (telling w).heap.size := rfl; omega, old⟩⟩
  · rw [Lib.cell_of_heap own1]; rfl
  · rw [Lib.cell_of_heap own]; rfl
  · rw [Lib.cell_of_heap own]; rfl
set_option maxHeartbeats 1000000 in
theorem of_read (gE : Nat) (k : Int) (gO : Addr) (w : World) (hg : w.cell? ⟨3, 0, none⟩ = some (.iface 111 (.agg #[.pointer (some ⟨12, 41, none⟩)])))
    (h0 : w.cell? ⟨gE, 0, none⟩ = some (.int .i64 k)) (h1 : w.cell? ⟨gE, 1, none⟩ = some (.iface 61 (.pointer (some gO)))) :
    Calls Tryz.prog 8 #[.iface 62 (.pointer (some ⟨gE, 0, none⟩))] w fun e w' => e = .returned (.agg #[.int .i64 4, .int .i64 k]) ∧ Below w.heap.size w w' := by
  have a1 := Tryz.asR
  have eq := own_same gO
  have hc := as_told gE k gO w hg h0 h1
  unfold telling at hc
  clear hg h0 h1
  go_enter Tryz.func8, Tryz.ntmps8
  go_wp2
  go_region_with (go_at_call 14; refine hc.mono ?_; rintro e w1 ⟨rfl, d0, d1, d2, d3, d4, z0, z1, own, hb⟩)
  all_goals
    go_wp2
    have own2 := Joins.block_setCell (i := 0) own.out (.int .i64 4)
    have own3 := Joins.block_setCell (i := 1) own2 (.int .i64 k)
    have e0 : (w1.setCell ⟨w.heap.size, 0, none⟩ (.int .i64 4)).cell? ⟨w.heap.size, 0, none⟩ = some (.int .i64 4) := by rw [Lib.cell_of_heap own2]; rfl
    have e1 : ((w1.setCell ⟨w.heap.size, 0, none⟩ (.int .i64 4)).setCell ⟨w.heap.size, 1, none⟩ (.int .i64 k)).cell? ⟨w.heap.size, 1, none⟩ = some (.int .i64 k) := by rw [Lib.cell_of_heap own3]; rfl
    exact bodyPost_ret (v := .agg #[.int .i64 4, .int .i64 k]) (by simp [results, Tryz.results8, go_sem, e0, e1]) rfl ⟨rfl, (hb.setCell (p := ⟨w.heap.size, 0, none⟩) (Nat.le_refl _) _).setCell (p := ⟨w.heap.size, 1, none⟩) (Nat.le_refl _) _⟩
end Go.Proofs.YtljcljipppjnoabGreatDoor

namespace Go.Proofs.YtljcljipppjnoabGreatDoor
open Go.RowKit Go.Extern.Stop Go.Stop Go.Extern
theorem Tryz.typeOfW (v : Value) (w : World) : (ReflectliteType.typeOf #[.iface 69 v]).run Tryz.prog w = .ok (.iface 111 (.agg #[.pointer (some ⟨12, 69, none⟩)])) w := by kernel_rfl
theorem Tryz.assignableW (w : World) : (ReflectliteType.relation "AssignableTo" ReflectliteType.assignableTo #[.agg #[.pointer (some ⟨12, 69, none⟩)], .iface 111 (.agg #[.pointer (some ⟨12, 61, none⟩)])]).run Tryz.prog w = .ok (.bool false) w := by kernel_rfl
theorem Tryz.noAsW (v : Value) (xT : TypeId) (w : World) : (Instr.typeAssert (.iface 69 v) xT 115 true).run Tryz.prog w = .ok (.tuple #[.nilIface, .bool false]) w := run_typeAssert_lacksB Tryz.underlying115 (by kernel_rfl) (by kernel_rfl) v xT w
theorem Tryz.hasUnW (v : Value) (xT : TypeId) (w : World) : (Instr.typeAssert (.iface 69 v) xT 118 true).run Tryz.prog w = .ok (.tuple #[.iface 69 v, .bool true]) w := run_typeAssert_hasB Tryz.underlying118 (by kernel_rfl) v xT w
set_option maxHeartbeats 4000000 in
theorem as_deepW (gE : Nat) (e t : Addr) (old : Value) (w : World) (hg : w.cell? ⟨3, 0, none⟩ = some (.iface 111 (.agg #[.pointer (some ⟨12, 41, none⟩)]))) (he : w.cell? ⟨gE, 1, none⟩ = some (.iface 61 (.pointer (some e)))) (ht0 : w.cell? t = some old) (hf0 : w.frozen? t = false) :
    Calls Tryz.prog 14 #[.iface 69 (.pointer (some ⟨gE, 0, none⟩)), .iface 64 (.pointer (some t))] w fun ev w' => ev = .returned (.bool true) ∧ w' = ((asking t w).alloc (.cells #[.pointer (some e)] 61)).setCell t (.pointer (some e)) := by
  unfold asking
  have hlt : 3 < w.heap.size := by
    rcases Nat.lt_or_ge 3 w.heap.size with h' | h'
    · exact h'
    · simp [World.cell?, Array.getElem?_eq_none h'] at hg
  have hle : gE < w.heap.size := by
    rcases Nat.lt_or_ge gE w.heap.size with h' | h'
    · exact h'
    · simp [World.cell?, Array.getElem?_eq_none h'] at he
  have htl : t.block < w.heap.size := by
    rcases Nat.lt_or_ge t.block w.heap.size with h | h
    · exact h
    · simp [World.cell?, Array.getElem?_eq_none h] at ht0
  have h6 := @run_callFunc_extern Tryz.prog 22 _ (fun args => ReflectliteValue.unpack (args.getD 0 (.tuple #[]))) Tryz.func22 (by kernel_rfl) (by kernel_rfl) (by kernel_rfl) (by kernel_rfl)
  have h7 := @run_callFunc_extern Tryz.prog 23 _ (ReflectliteValue.methodAny (ReflectliteValue.valueError "reflectlite.Value.Type" 0) (fun t _ _ _ => ReflectliteType.toType t)) Tryz.func23 (by kernel_rfl) (by kernel_rfl) (by kernel_rfl) (by kernel_rfl)
  have h8 := @run_callFunc_extern Tryz.prog 24 _ (ReflectliteValue.method (ReflectliteValue.valueError "reflectlite.Value.IsNil" 0) ReflectliteValue.isNil) Tryz.func24 (by kernel_rfl) (by kernel_rfl) (by kernel_rfl) (by kernel_rfl)
  have h27 := @run_callFunc_extern Tryz.prog 191 _ (ReflectliteType.abiMethod fun t => do pure (.int .u8 (← Rtype.kind t))) Tryz.func191 (by kernel_rfl) (by kernel_rfl) (by kernel_rfl) (by kernel_rfl)
  have h37 := @run_callFunc_extern Tryz.prog 207 _ (ReflectliteType.method ReflectliteType.elem) Tryz.func207 (by kernel_rfl) (by kernel_rfl) (by kernel_rfl) (by kernel_rfl)
  have h38 := @run_callFunc_extern Tryz.prog 208 _ (ReflectliteType.relation "Implements" ReflectliteType.implements_) Tryz.func208 (by kernel_rfl) (by kernel_rfl) (by kernel_rfl) (by kernel_rfl)
  have h10 := @run_callFunc_extern Tryz.prog 26 _ ReflectliteType.typeOf Tryz.func26 (by kernel_rfl) (by kernel_rfl) (by kernel_rfl) (by kernel_rfl)
  have h35 := @run_callFunc_extern Tryz.prog 205 _ (ReflectliteType.relation "AssignableTo" ReflectliteType.assignableTo) Tryz.func205 (by kernel_rfl) (by kernel_rfl) (by kernel_rfl) (by kernel_rfl)
  have h11 := @run_callFunc_extern Tryz.prog 34 _ (ReflectliteValue.method (ReflectliteValue.valueError "reflectlite.Value.Elem" 0) ReflectliteValue.elem) Tryz.func34 (by kernel_rfl) (by kernel_rfl) (by kernel_rfl) (by kernel_rfl)
  have h12 := @run_callFunc_extern Tryz.prog 35 _ ReflectliteValue.set Tryz.func35 (by kernel_rfl) (by kernel_rfl) (by kernel_rfl) (by kernel_rfl)
  have tO := Tryz.typeOfT
  have tR := Tryz.typeOfW
  have aT := Tryz.assignableT
  have aR := Tryz.assignableW
  have vT := Tryz.valueOfT
  have f6 := Tryz.valueOfTT
  have f7 := Tryz.typeTT
  have k27 := Tryz.kindTT
  have k25 := Tryz.kindT
  have e27 := Tryz.elemTT
  have i25 := Tryz.implementsT
  have nR := Tryz.noAsW
  have uR := Tryz.hasUnW
  have n8 := Tryz.isNilTT ⟨w.heap.size, 0, none⟩ t ((w.alloc (.cells #[.pointer (some t)] 64)).alloc (.cells #[.pointer (some ⟨12, 64, none⟩), .pointer (some ⟨w.heap.size, 0, none⟩), .int .u64 150] 91)) (by simp)
  have hg2 : ((w.alloc (.cells #[.pointer (some t)] 64)).alloc (.cells #[.pointer (some ⟨12, 64, none⟩), .pointer (some ⟨w.heap.size, 0, none⟩), .int .u64 150] 91)).cell? ⟨3, 0, none⟩ = some (.iface 111 (.agg #[.pointer (some ⟨12, 41, none⟩)])) := by
    rw [World.cell?_alloc_lt _ _ ⟨3, 0, none⟩ (by simp; omega), World.cell?_alloc_lt _ _ ⟨3, 0, none⟩ hlt]; exact hg
  have he2 : (((w.alloc (.cells #[.pointer (some t)] 64)).alloc (.cells #[.pointer (some ⟨12, 64, none⟩), .pointer (some ⟨w.heap.size, 0, none⟩), .int .u64 150] 91)).alloc (.cells #[.pointer (some ⟨12, 64, none⟩), .pointer (some ⟨w.heap.size, 0, none⟩), .int .u64 150] 91)).cell? ⟨gE, 1, none⟩ = some (.iface 61 (.pointer (some e))) := by
    rw [World.cell?_alloc_lt _ _ ⟨gE, 1, none⟩ (by simp; omega), World.cell?_alloc_lt _ _ ⟨gE, 1, none⟩ (by simp; omega), World.cell?_alloc_lt _ _ ⟨gE, 1, none⟩ hle]; exact he
  have el := Tryz.elemVTT ⟨w.heap.size, 0, none⟩ t (((w.alloc (.cells #[.pointer (some t)] 64)).alloc (.cells #[.pointer (some ⟨12, 64, none⟩), .pointer (some ⟨w.heap.size, 0, none⟩), .int .u64 150] 91)).alloc (.cells #[.pointer (some ⟨12, 64, none⟩), .pointer (some ⟨w.heap.size, 0, none⟩), .int .u64 150] 91)) (by rw [World.cell?_alloc_lt _ _ ⟨w.heap.size, 0, none⟩ (by simp; omega)]; simp)
  have st := Tryz.setT t ⟨w.heap.size + 1 + 1 + 1, 0, none⟩ e old ((((w.alloc (.cells #[.pointer (some t)] 64)).alloc (.cells #[.pointer (some ⟨12, 64, none⟩), .pointer (some ⟨w.heap.size, 0, none⟩), .int .u64 150] 91)).alloc (.cells #[.pointer (some ⟨12, 64, none⟩), .pointer (some ⟨w.heap.size, 0, none⟩), .int .u64 150] 91)).alloc (.cells #[.pointer (some e)] 61))
    (by rw [World.cell?_alloc_at _ _ _ _ (by simp)]; rfl)
    (by rw [World.cell?_alloc_lt _ _ t (by simp; omega), World.cell?_alloc_lt _ _ t (by simp; omega), World.cell?_alloc_lt _ _ t (by simp; omega), World.cell?_alloc_lt _ _ t htl]; exact ht0)
    (by rw [World.frozen?_alloc_old _ _ t (by simp; omega), World.frozen?_alloc_old _ _ t (by simp; omega), World.frozen?_alloc_old _ _ t (by simp; omega), World.frozen?_alloc_old _ _ t (Nat.ne_of_lt htl)]; exact hf0)
  clear hg ht0 hf0 he
  go_enter Tryz.func14, Tryz.ntmps14
  go_wp2
  refine wp_loop_rounds 2 ?_
  rw [rounds_succ]
  go_wp2
  rw [rounds_succ]
  go_wp2
  go_ret
  exact ⟨rfl, rfl⟩
theorem as_toldW (gE : Nat) (k : Int) (gO : Addr) (w : World) (hg : w.cell? ⟨3, 0, none⟩ = some (.iface 111 (.agg #[.pointer (some ⟨12, 41, none⟩)])))
    (h0 : w.cell? ⟨gE, 0, none⟩ = some (.int .i64 k)) (h1 : w.cell? ⟨gE, 1, none⟩ = some (.iface 61 (.pointer (some gO)))) :
    Calls Tryz.prog 14 #[.iface 69 (.pointer (some ⟨gE, 0, none⟩)), .iface 64 (.pointer (some ⟨w.heap.size + 1, 0, none⟩))] (telling w).drew fun e w' => e = .returned (.bool true) ∧
      w'.cell? ⟨gE, 0, none⟩ = some (.int .i64 k) ∧ w'.cell? ⟨gE, 1, none⟩ = some (.iface 61 (.pointer (some gO))) ∧ w'.cell? ⟨w.heap.size + 1, 0, none⟩ = some (.pointer (some gO)) ∧
      w'.cell? ⟨w.heap.size, 0, none⟩ = some (.int .i64 0) ∧ w'.cell? ⟨w.heap.size, 1, none⟩ = some (.int .i64 0) ∧ w'.frozen? ⟨w.heap.size, 0, none⟩ = false ∧ w'.frozen? ⟨w.heap.size, 1, none⟩ = false ∧
      Hid (w'.heap[w.heap.size]? = some (.cells #[.int .i64 0, .int .i64 0] 23 (0, 0))) ∧ Below w.heap.size w w' := by
  have lE := lt_cell h0
  have lG := lt_cell hg
  have hs := telling_size w
  have o1 : (telling w).drew.cell? ⟨w.heap.size + 1, 0, none⟩ = some (.pointer none) := by
    show (telling w).cell? _ = _
    rw [Lib.cell_of_heap (telling1 w)]; rfl
  have o2 : (telling w).drew.frozen? ⟨w.heap.size + 1, 0, none⟩ = false := Lib.frozen_of_heap (telling1 w) 0
  refine (as_deepW gE gO ⟨w.heap.size + 1, 0, none⟩ (.pointer none) (telling w).drew ((World.cell?_of_block (telling_old w _ lG)).trans hg) ((World.cell?_of_block (telling_old w _ lE)).trans h1) o1 o2).mono ?_
  rintro e w' ⟨rfl, rfl⟩
  have kp : Kept (w.heap.size + 1) (telling w).drew (((asking ⟨w.heap.size + 1, 0, none⟩ (telling w).drew).alloc (.cells #[.pointer (some gO)] 61)).setCell ⟨w.heap.size + 1, 0, none⟩ (.pointer (some gO))) :=
    ((((((Kept.refl _ _).alloc _).alloc _).alloc _).alloc _).setCell 0 _)
  have old : ∀ j, j < w.heap.size → (((asking ⟨w.heap.size + 1, 0, none⟩ (telling w).drew).alloc (.cells #[.pointer (some gO)] 61)).setCell ⟨w.heap.size + 1, 0, none⟩ (.pointer (some gO))).heap[j]? = w.heap[j]? := fun j hj =>
    (kp.block j (by show j < (telling w).heap.size; omega) (by omega)).trans (telling_old w j hj)
  have own := (kp.block w.heap.size (by show _ < (telling w).heap.size; omega) (by omega)).trans (telling0 w)
  have b1 : (((asking ⟨w.heap.size + 1, 0, none⟩ (telling w).drew).alloc (.cells #[.pointer (some gO)] 61)).heap[w.heap.size + 1]?) = some (.cells #[.pointer none] 61 (0, 0)) := by
    have kq : Kept (w.heap.size + 2) (telling w).drew ((asking ⟨w.heap.size + 1, 0, none⟩ (telling w).drew).alloc (.cells #[.pointer (some gO)] 61)) :=
      (((((Kept.refl _ _).alloc _).alloc _).alloc _).alloc _)
    exact (kq.block _ (by show _ < (telling w).heap.size; omega) (by omega)).trans (telling1 w)
  have own1 := Joins.block_setCell (i := 0) b1 (.pointer (some gO))
  refine ⟨rfl, (World.cell?_of_block (old gE lE)).trans h0, (World.cell?_of_block (old gE lE)).trans h1, ?_, ?_, ?_, Lib.frozen_of_heap own 0, Lib.frozen_of_heap own 1, own, ⟨kp.os, kp.tape, kp.output, by have := kp.size; have e1 : (telling w).drew.heap.size = (telling w).heap.size := rfl; omega, old⟩⟩
  · rw [Lib.cell_of_heap own1]; rfl
  · rw [Lib.cell_of_heap own]; rfl
  · rw [Lib.cell_of_heap own]; rfl
theorem Tryz.asW (v : Value) (w : World) : (Instr.typeAssert (.iface 69 v) 41 69 true).run Tryz.prog w = .ok (.tuple #[v, .bool true]) w := by kernel_rfl
theorem Tryz.asWR (v : Value) (w : World) : (Instr.typeAssert (.iface 69 v) 41 62 true).run Tryz.prog w = .ok (.tuple #[.pointer none, .bool false]) w := by kernel_rfl
set_option maxHeartbeats 1000000 in
theorem of_write (gE : Nat) (k : Int) (gO : Addr) (w : World) (hg : w.cell? ⟨3, 0, none⟩ = some (.iface 111 (.agg #[.pointer (some ⟨12, 41, none⟩)])))
    (h0 : w.cell? ⟨gE, 0, none⟩ = some (.int .i64 k)) (h1 : w.cell? ⟨gE, 1, none⟩ = some (.iface 61 (.pointer (some gO)))) :
    Calls Tryz.prog 8 #[.iface 69 (.pointer (some ⟨gE, 0, none⟩))] w fun e w' => e = .returned (.agg #[.int .i64 5, .int .i64 k]) ∧ Below w.heap.size w w' := by
  have a1 := Tryz.asWR
  have a2 := Tryz.asW
  have eq := own_same gO
  have hc := as_toldW gE k gO w hg h0 h1
  unfold telling at hc
  clear hg h0 h1
  go_enter Tryz.func8, Tryz.ntmps8
  go_wp2
  go_region_with (go_at_call 14; refine hc.mono ?_; rintro e w1 ⟨rfl, d0, d1, d2, d3, d4, z0, z1, own, hb⟩)
  all_goals
    go_wp2
    have own2 := Joins.block_setCell (i := 0) own.out (.int .i64 5)
    have own3 := Joins.block_setCell (i := 1) own2 (.int .i64 k)
    have e0 : (w1.setCell ⟨w.heap.size, 0, none⟩ (.int .i64 5)).cell? ⟨w.heap.size, 0, none⟩ = some (.int .i64 5) := by rw [Lib.cell_of_heap own2]; rfl
    have e1 : ((w1.setCell ⟨w.heap.size, 0, none⟩ (.int .i64 5)).setCell ⟨w.heap.size, 1, none⟩ (.int .i64 k)).cell? ⟨w.heap.size, 1, none⟩ = some (.int .i64 k) := by rw [Lib.cell_of_heap own3]; rfl
    exact bodyPost_ret (v := .agg #[.int .i64 5, .int .i64 k]) (by simp [results, Tryz.results8, go_sem, e0, e1]) rfl ⟨rfl, (hb.setCell (p := ⟨w.heap.size, 0, none⟩) (Nat.le_refl _) _).setCell (p := ⟨w.heap.size, 1, none⟩) (Nat.le_refl _) _⟩
end Go.Proofs.YtljcljipppjnoabGreatDoor

namespace Go.Proofs.YtljcljipppjnoabGreatDoor
open Go.RowKit Go.Extern.Stop Go.Stop Go.Extern
theorem Tryz.typeOfE (v : Value) (w : World) : (ReflectliteType.typeOf #[.iface 233 v]).run Tryz.prog w = .ok (.iface 111 (.agg #[.pointer (some ⟨12, 233, none⟩)])) w := by kernel_rfl
theorem Tryz.assignableE (w : World) : (ReflectliteType.relation "AssignableTo" ReflectliteType.assignableTo #[.agg #[.pointer (some ⟨12, 233, none⟩)], .iface 111 (.agg #[.pointer (some ⟨12, 61, none⟩)])]).run Tryz.prog w = .ok (.bool false) w := by kernel_rfl
theorem Tryz.noAsE (v : Value) (xT : TypeId) (w : World) : (Instr.typeAssert (.iface 233 v) xT 115 true).run Tryz.prog w = .ok (.tuple #[.nilIface, .bool false]) w := run_typeAssert_lacksB Tryz.underlying115 (by kernel_rfl) (by kernel_rfl) v xT w
theorem Tryz.noUnE (v : Value) (xT : TypeId) (w : World) : (Instr.typeAssert (.iface 233 v) xT 118 true).run Tryz.prog w = .ok (.tuple #[.nilIface, .bool false]) w := run_typeAssert_lacksB Tryz.underlying118 (by kernel_rfl) (by kernel_rfl) v xT w
theorem Tryz.noUnsE (v : Value) (xT : TypeId) (w : World) : (Instr.typeAssert (.iface 233 v) xT 119 true).run Tryz.prog w = .ok (.tuple #[.nilIface, .bool false]) w := run_typeAssert_lacksB Tryz.underlying119 (by kernel_rfl) (by kernel_rfl) v xT w
theorem Tryz.noIsE (v : Value) (xT : TypeId) (w : World) : (Instr.typeAssert (.iface 233 v) xT 122 true).run Tryz.prog w = .ok (.tuple #[.nilIface, .bool false]) w := run_typeAssert_lacksB Tryz.underlying122 (by kernel_rfl) (by kernel_rfl) v xT w
theorem Tryz.noIsW (v : Value) (xT : TypeId) (w : World) : (Instr.typeAssert (.iface 69 v) xT 122 true).run Tryz.prog w = .ok (.tuple #[.nilIface, .bool false]) w := run_typeAssert_lacksB Tryz.underlying122 (by kernel_rfl) (by kernel_rfl) v xT w
theorem Tryz.compE (w : World) : ((ReflectliteType.method fun t => do Rtype.noPackHeld "Comparable" t; (fun a => Value.bool a.comparable) <$> typeInfo t) #[.agg #[.pointer (some ⟨12, 233, none⟩)]]).run Tryz.prog w = .ok (.bool true) w := by kernel_rfl
set_option maxHeartbeats 4000000 in
theorem as_none (gE : Nat) (e t : Addr) (w : World) (hg : w.cell? ⟨3, 0, none⟩ = some (.iface 111 (.agg #[.pointer (some ⟨12, 41, none⟩)]))) (he : w.cell? ⟨gE, 1, none⟩ = some (.iface 233 (.pointer (some e)))) :
    Calls Tryz.prog 14 #[.iface 69 (.pointer (some ⟨gE, 0, none⟩)), .iface 64 (.pointer (some t))] w fun ev w' => ev = .returned (.bool false) ∧ w' = asking t w := by
  unfold asking
  have hlt : 3 < w.heap.size := by
    rcases Nat.lt_or_ge 3 w.heap.size with h' | h'
    · exact h'
    · simp [World.cell?, Array.getElem?_eq_none h'] at hg
  have hle : gE < w.heap.size := by
    rcases Nat.lt_or_ge gE w.heap.size with h' | h'
    · exact h'
    · simp [World.cell?, Array.getElem?_eq_none h'] at he
  have h6 := @run_callFunc_extern Tryz.prog 22 _ (fun args => ReflectliteValue.unpack (args.getD 0 (.tuple #[]))) Tryz.func22 (by kernel_rfl) (by kernel_rfl) (by kernel_rfl) (by kernel_rfl)
  have h7 := @run_callFunc_extern Tryz.prog 23 _ (ReflectliteValue.methodAny (ReflectliteValue.valueError "reflectlite.Value.Type" 0) (fun t _ _ _ => ReflectliteType.toType t)) Tryz.func23 (by kernel_rfl) (by kernel_rfl) (by kernel_rfl) (by kernel_rfl)
  have h8 := @run_callFunc_extern Tryz.prog 24 _ (ReflectliteValue.method (ReflectliteValue.valueError "reflectlite.Value.IsNil" 0) ReflectliteValue.isNil) Tryz.func24 (by kernel_rfl) (by kernel_rfl) (by kernel_rfl) (by kernel_rfl)
  have h27 := @run_callFunc_extern Tryz.prog 191 _ (ReflectliteType.abiMethod fun t => do pure (.int .u8 (← Rtype.kind t))) Tryz.func191 (by kernel_rfl) (by kernel_rfl) (by kernel_rfl) (by kernel_rfl)
  have h37 := @run_callFunc_extern Tryz.prog 207 _ (ReflectliteType.method ReflectliteType.elem) Tryz.func207 (by kernel_rfl) (by kernel_rfl) (by kernel_rfl) (by kernel_rfl)
  have h38 := @run_callFunc_extern Tryz.prog 208 _ (ReflectliteType.relation "Implements" ReflectliteType.implements_) Tryz.func208 (by kernel_rfl) (by kernel_rfl) (by kernel_rfl) (by kernel_rfl)
  have h10 := @run_callFunc_extern Tryz.prog 26 _ ReflectliteType.typeOf Tryz.func26 (by kernel_rfl) (by kernel_rfl) (by kernel_rfl) (by kernel_rfl)
  have h35 := @run_callFunc_extern Tryz.prog 205 _ (ReflectliteType.relation "AssignableTo" ReflectliteType.assignableTo) Tryz.func205 (by kernel_rfl) (by kernel_rfl) (by kernel_rfl) (by kernel_rfl)
  have tR := Tryz.typeOfW
  have aR := Tryz.assignableW
  have f6 := Tryz.valueOfTT
  have f7 := Tryz.typeTT
  have k27 := Tryz.kindTT
  have k25 := Tryz.kindT
  have e27 := Tryz.elemTT
  have i25 := Tryz.implementsT
  have tE := Tryz.typeOfE
  have aE := Tryz.assignableE
  have nE := Tryz.noAsE
  have uE := Tryz.noUnE
  have sE := Tryz.noUnsE
  have nR := Tryz.noAsW
  have uR := Tryz.hasUnW
  have n8 := Tryz.isNilTT ⟨w.heap.size, 0, none⟩ t ((w.alloc (.cells #[.pointer (some t)] 64)).alloc (.cells #[.pointer (some ⟨12, 64, none⟩), .pointer (some ⟨w.heap.size, 0, none⟩), .int .u64 150] 91)) (by simp)
  have hg2 : ((w.alloc (.cells #[.pointer (some t)] 64)).alloc (.cells #[.pointer (some ⟨12, 64, none⟩), .pointer (some ⟨w.heap.size, 0, none⟩), .int .u64 150] 91)).cell? ⟨3, 0, none⟩ = some (.iface 111 (.agg #[.pointer (some ⟨12, 41, none⟩)])) := by
    rw [World.cell?_alloc_lt _ _ ⟨3, 0, none⟩ (by simp; omega), World.cell?_alloc_lt _ _ ⟨3, 0, none⟩ hlt]; exact hg
  have he2 : (((w.alloc (.cells #[.pointer (some t)] 64)).alloc (.cells #[.pointer (some ⟨12, 64, none⟩), .pointer (some ⟨w.heap.size, 0, none⟩), .int .u64 150] 91)).alloc (.cells #[.pointer (some ⟨12, 64, none⟩), .pointer (some ⟨w.heap.size, 0, none⟩), .int .u64 150] 91)).cell? ⟨gE, 1, none⟩ = some (.iface 233 (.pointer (some e))) := by
    rw [World.cell?_alloc_lt _ _ ⟨gE, 1, none⟩ (by simp; omega), World.cell?_alloc_lt _ _ ⟨gE, 1, none⟩ (by simp; omega), World.cell?_alloc_lt _ _ ⟨gE, 1, none⟩ hle]; exact he
  clear hg he
  go_enter Tryz.func14, Tryz.ntmps14
  go_wp2
  refine wp_loop_rounds 2 ?_
  rw [rounds_succ]
  go_wp2
  rw [rounds_succ]
  go_wp2
  go_ret
  exact ⟨rfl, rfl⟩
set_option maxHeartbeats 2000000 in
theorem is_sink (gE : Nat) (b : Addr) (w : World) (h1 : w.cell? ⟨gE, 1, none⟩ = some (.iface 233 (.pointer (some b)))) :
    Calls Tryz.prog 15 #[.iface 69 (.pointer (some ⟨gE, 0, none⟩)), .iface 233 (.pointer (some b))] w fun e w' => e = .returned (.bool true) ∧ w' = w := by
  have h8 := @run_callFunc_extern Tryz.prog 26 _ ReflectliteType.typeOf Tryz.func26 (by kernel_rfl) (by kernel_rfl) (by kernel_rfl) (by kernel_rfl)
  have h32 := @run_callFunc_extern Tryz.prog 206 _ (ReflectliteType.method fun t => do Rtype.noPackHeld "Comparable" t; pure (.bool (← typeInfo t).comparable)) Tryz.func206 (by kernel_rfl) (by kernel_rfl) (by kernel_rfl) (by kernel_rfl)
  have tT := Tryz.typeOfE
  have cT := Tryz.compE
  have nE := Tryz.noIsE
  have nW := Tryz.noIsW
  have uW := Tryz.hasUnW
  have heq := sent_same b
  have hty := run_eql_iface_types (P := Tryz.prog) 69 233 (.pointer (some ⟨gE, 0, none⟩)) (.pointer (some b)) Tryz.underlying41 (by decide) w
  go_enter Tryz.func15, Tryz.ntmps15
  go_wp2
  refine wp_loop_rounds 2 ?_
  rw [rounds_succ]
  go_wp2
  rw [rounds_succ]
  go_wp2
  go_ret
  exact ⟨rfl, rfl⟩
end Go.Proofs.YtljcljipppjnoabGreatDoor

namespace Go.Proofs.YtljcljipppjnoabGreatDoor
open Go.RowKit Go.Extern.Stop Go.Stop Go.Extern
theorem as_toldN (gE : Nat) (k : Int) (aS : Addr) (w : World) (hg : w.cell? ⟨3, 0, none⟩ = some (.iface 111 (.agg #[.pointer (some ⟨12, 41, none⟩)])))
    (hS : w.cell? ⟨0, 0, none⟩ = some (.iface 233 (.pointer (some aS))))
    (h0 : w.cell? ⟨gE, 0, none⟩ = some (.int .i64 k)) (h1 : w.cell? ⟨gE, 1, none⟩ = some (.iface 233 (.pointer (some aS)))) :
    Calls Tryz.prog 14 #[.iface 69 (.pointer (some ⟨gE, 0, none⟩)), .iface 64 (.pointer (some ⟨w.heap.size + 1, 0, none⟩))] (telling w).drew fun e w' => e = .returned (.bool false) ∧
      w'.cell? ⟨gE, 0, none⟩ = some (.int .i64 k) ∧ w'.cell? ⟨gE, 1, none⟩ = some (.iface 233 (.pointer (some aS))) ∧ w'.cell? ⟨0, 0, none⟩ = some (.iface 233 (.pointer (some aS))) ∧
      w'.cell? ⟨w.heap.size, 0, none⟩ = some (.int .i64 0) ∧ w'.cell? ⟨w.heap.size, 1, none⟩ = some (.int .i64 0) ∧ w'.frozen? ⟨w.heap.size, 0, none⟩ = false ∧ w'.frozen? ⟨w.heap.size, 1, none⟩ = false ∧
      Hid (w'.heap[w.heap.size]? = some (.cells #[.int .i64 0, .int .i64 0] 23 (0, 0))) ∧ Below w.heap.size w w' := by
  have lE := lt_cell h0
  have lG := lt_cell hg
  have lS := lt_cell hS
  have hs := telling_size w
  refine (as_none gE aS ⟨w.heap.size + 1, 0, none⟩ (telling w).drew ((World.cell?_of_block (telling_old w _ lG)).trans hg) ((World.cell?_of_block (telling_old w _ lE)).trans h1)).mono ?_
  rintro e w' ⟨rfl, rfl⟩
  have kp : Kept (w.heap.size + 2) (telling w).drew (asking ⟨w.heap.size + 1, 0, none⟩ (telling w).drew) := (((Kept.refl _ _).alloc _).alloc _).alloc _
  have old : ∀ j, j < w.heap.size → (asking ⟨w.heap.size + 1, 0, none⟩ (telling w).drew).heap[j]? = w.heap[j]? := fun j hj =>
    (kp.block j (by show j < (telling w).heap.size; omega) (by omega)).trans (telling_old w j hj)
  have own := (kp.block w.heap.size (by show _ < (telling w).heap.size; omega) (by omega)).trans (telling0 w)
  refine ⟨rfl, (World.cell?_of_block (old gE lE)).trans h0, (World.cell?_of_block (old gE lE)).trans h1, (World.cell?_of_block (old _ lS)).trans hS, ?_, ?_, Lib.frozen_of_heap own 0, Lib.frozen_of_heap own 1, own, ⟨kp.os, kp.tape, kp.output, by have := kp.size; have e1 : (telling w).drew.heap.size = (telling w).heap.size := rfl; omega, old⟩⟩
  · rw [Lib.cell_of_heap own]; rfl
  · rw [Lib.cell_of_heap own]; rfl
end Go.Proofs.YtljcljipppjnoabGreatDoor

namespace Go.Proofs.YtljcljipppjnoabGreatDoor
open Go.RowKit Go.Extern.Stop Go.Stop Go.Extern
set_option maxHeartbeats 1000000 in
theorem of_sink (gE : Nat) (k : Int) (aS : Addr) (w : World) (hg : w.cell? ⟨3, 0, none⟩ = some (.iface 111 (.agg #[.pointer (some ⟨12, 41, none⟩)])))
    (hS : w.cell? ⟨0, 0, none⟩ = some (.iface 233 (.pointer (some aS))))
    (h0 : w.cell? ⟨gE, 0, none⟩ = some (.int .i64 k)) (h1 : w.cell? ⟨gE, 1, none⟩ = some (.iface 233 (.pointer (some aS)))) :
    Calls Tryz.prog 8 #[.iface 69 (.pointer (some ⟨gE, 0, none⟩))] w fun e w' => e = .returned (.agg #[.int .i64 3, .int .i64 k]) ∧ Below w.heap.size w w' := by
  have a1 := Tryz.asWR
  have eq := sent_same aS
  have a2 := Tryz.asW
  have hc := as_toldN gE k aS w hg hS h0 h1
  unfold telling at hc
  have hI : ∀ w1 : World, w1.cell? ⟨gE, 1, none⟩ = some (.iface 233 (.pointer (some aS))) → Calls Tryz.prog 15 #[.iface 69 (.pointer (some ⟨gE, 0, none⟩)), .iface 233 (.pointer (some aS))] w1.drew fun e w' => e = .returned (.bool true) ∧ w' = w1.drew := fun w1 h => is_sink gE aS w1.drew h
  clear hg h0 h1 hS
  go_enter Tryz.func8, Tryz.ntmps8
  go_wp2
  refine wp_region_any (by kernel_rfl) ?_
  change wpAny _ _ _ _ _ _ _ (World.drew _)
  refine wpAny_take (i := 0) (v := .iface 69 (.pointer (some ⟨gE, 0, none⟩))) rfl (by kernel_rfl) (by kernel_rfl) (by kernel_rfl) (fun _ _ _ h => h) (Or.inl ⟨rfl, fun w => by go_simp⟩) ?_
  refine wpAny_take (i := 1) (v := .iface 64 (.pointer (some ⟨w.heap.size + 1, 0, none⟩))) rfl (by kernel_rfl) (by kernel_rfl) (by kernel_rfl) (fun _ _ _ h => h) (Or.inl ⟨rfl, fun w => by go_simp⟩) ?_
  refine wpAny_ready (rs := [2]) (by kernel_rfl) (by simp) ?_
  refine AllReady.cons (o := { dst := some 46, op := Op.call { callee := Callee.value (Operand.func 14), args := #[Operand.tmp 44, Operand.tmp 45], argTypes := #[41, 20] }, type := 4, pos := "plain.go:41", after := #[{ on := 0, ground := Ground.data }, { on := 1, ground := Ground.data }], guard := none }) rfl (fun K hK => ?_) AllReady.nil
  go_simp
  refine hc.mono ?_
  rintro e w1 ⟨rfl, d0, d1, d2, d3, d4, z0, z1, own, hb⟩
  simp only []
  refine hK _ _ ?_
  clear hK K
  refine wpAny_take (i := 3) (v := .bool false) rfl (by kernel_rfl) (by kernel_rfl) (by kernel_rfl) (fun _ _ _ h => h) (Or.inl ⟨by rfl, fun w => by go_simp⟩) ?_
  refine wpAny_take (i := 4) (v := undef) rfl (by kernel_rfl) (by kernel_rfl) (by kernel_rfl) (fun _ _ _ h => h) (Or.inr ⟨by rfl, rfl⟩) ?_
  refine wpAny_take (i := 5) (v := undef) rfl (by kernel_rfl) (by kernel_rfl) (by kernel_rfl) (fun _ _ _ h => h) (Or.inr ⟨by rfl, rfl⟩) ?_
  refine wpAny_take (i := 6) (v := undef) rfl (by kernel_rfl) (by kernel_rfl) (by kernel_rfl) (fun _ _ _ h => h) (Or.inr ⟨by rfl, rfl⟩) ?_
  refine wpAny_ready (rs := [7, 8]) (by kernel_rfl) (by simp) ?_
  refine AllReady.cons (o := { dst := some 51, op := Op.load 41 (Operand.tmp 50), type := 41, pos := "plain.go:41", after := #[{ on := 6, ground := Ground.data }, { on := 3, ground := Ground.guard }], guard := some (3, true) }) rfl (fun K hK => ?_) ?_
  · go_simp
    refine hK _ _ ?_
    clear hK K
    refine wpAny_ready (rs := [8]) (by kernel_rfl) (by simp) ?_
    refine AllReady.cons (o := { dst := some 52, op := Op.load 61 (Operand.tmp 3), type := 61, pos := "plain.go:41", after := #[{ on := 3, ground := Ground.guard }], guard := some (3, true) }) rfl (fun K hK => ?_) AllReady.nil
    go_simp
    refine hK _ _ ?_
    clear hK K
    refine wpAny_take (i := 9) (v := undef) rfl (by kernel_rfl) (by kernel_rfl) (by kernel_rfl) (fun _ _ _ h => h) (Or.inr ⟨by rfl, rfl⟩) ?_
    refine wpAny_ready (rs := [10]) (by kernel_rfl) (by simp) ?_
    refine AllReady.cons (o := { dst := some 54, op := Op.binOp BinOp.eql 41 (Operand.tmp 51) (Operand.tmp 53) 41, type := 4, pos := "plain.go:41", after := #[{ on := 7, ground := Ground.data }, { on := 9, ground := Ground.data }, { on := 3, ground := Ground.guard }], guard := some (3, true) }) rfl (fun K hK => ?_) AllReady.nil
    go_simp
    refine hK _ _ ?_
    clear hK K
    refine wpAny_take (i := 11) (v := .bool false) rfl (by kernel_rfl) (by kernel_rfl) (by kernel_rfl) (fun _ _ _ h => h) (Or.inl ⟨by rfl, fun w => by go_simp⟩) ?_
    refine wpAny_done (by kernel_rfl) ?_ _
    go_simp
    go_wp2
    go_region_with (go_at_call 15; refine (hI w1 d1).mono ?_; rintro e w2 ⟨rfl, rfl⟩)
    all_goals
      go_simp
      go_wp2
      have own2 := Joins.block_setCell (i := 0) own.out (.int .i64 3)
      have own3 := Joins.block_setCell (i := 1) own2 (.int .i64 k)
      have e0 : (w1.setCell ⟨w.heap.size, 0, none⟩ (.int .i64 3)).cell? ⟨w.heap.size, 0, none⟩ = some (.int .i64 3) := by rw [Lib.cell_of_heap own2]; rfl
      have e1 : ((w1.setCell ⟨w.heap.size, 0, none⟩ (.int .i64 3)).setCell ⟨w.heap.size, 1, none⟩ (.int .i64 k)).cell? ⟨w.heap.size, 1, none⟩ = some (.int .i64 k) := by rw [Lib.cell_of_heap own3]; rfl
      exact bodyPost_ret (v := .agg #[.int .i64 3, .int .i64 k]) (by simp [results, Tryz.results8, go_sem, e0, e1]) rfl ⟨rfl, ((hb.setCell (p := ⟨w.heap.size, 0, none⟩) (Nat.le_refl _) _).setCell (p := ⟨w.heap.size, 1, none⟩) (Nat.le_refl _) _).drew⟩
  · refine AllReady.cons (o := { dst := some 52, op := Op.load 61 (Operand.tmp 3), type := 61, pos := "plain.go:41", after := #[{ on := 3, ground := Ground.guard }], guard := some (3, true) }) rfl (fun K hK => ?_) AllReady.nil
    go_simp
    refine hK _ _ ?_
    clear hK K
    refine wpAny_take (i := 9) (v := undef) rfl (by kernel_rfl) (by kernel_rfl) (by kernel_rfl) (fun _ _ _ h => h) (Or.inr ⟨by rfl, rfl⟩) ?_
    refine wpAny_ready (rs := [7]) (by kernel_rfl) (by simp) ?_
    refine AllReady.cons (o := { dst := some 51, op := Op.load 41 (Operand.tmp 50), type := 41, pos := "plain.go:41", after := #[{ on := 6, ground := Ground.data }, { on := 3, ground := Ground.guard }], guard := some (3, true) }) rfl (fun K hK => ?_) AllReady.nil
    go_simp
    refine hK _ _ ?_
    clear hK K
    refine wpAny_ready (rs := [10]) (by kernel_rfl) (by simp) ?_
    refine AllReady.cons (o := { dst := some 54, op := Op.binOp BinOp.eql 41 (Operand.tmp 51) (Operand.tmp 53) 41, type := 4, pos := "plain.go:41", after := #[{ on := 7, ground := Ground.data }, { on := 9, ground := Ground.data }, { on := 3, ground := Ground.guard }], guard := some (3, true) }) rfl (fun K hK => ?_) AllReady.nil
    go_simp
    refine hK _ _ ?_
    clear hK K
    refine wpAny_take (i := 11) (v := .bool false) rfl (by kernel_rfl) (by kernel_rfl) (by kernel_rfl) (fun _ _ _ h => h) (Or.inl ⟨by rfl, fun w => by go_simp⟩) ?_
    refine wpAny_done (by kernel_rfl) ?_ _
    go_simp
    go_wp2
    go_region_with (go_at_call 15; refine (hI w1 d1).mono ?_; rintro e w2 ⟨rfl, rfl⟩)
    all_goals
      go_simp
      go_wp2
      have own2 := Joins.block_setCell (i := 0) own.out (.int .i64 3)
      have own3 := Joins.block_setCell (i := 1) own2 (.int .i64 k)
      have e0 : (w1.setCell ⟨w.heap.size, 0, none⟩ (.int .i64 3)).cell? ⟨w.heap.size, 0, none⟩ = some (.int .i64 3) := by rw [Lib.cell_of_heap own2]; rfl
      have e1 : ((w1.setCell ⟨w.heap.size, 0, none⟩ (.int .i64 3)).setCell ⟨w.heap.size, 1, none⟩ (.int .i64 k)).cell? ⟨w.heap.size, 1, none⟩ = some (.int .i64 k) := by rw [Lib.cell_of_heap own3]; rfl
      exact bodyPost_ret (v := .agg #[.int .i64 3, .int .i64 k]) (by simp [results, Tryz.results8, go_sem, e0, e1]) rfl ⟨rfl, ((hb.setCell (p := ⟨w.heap.size, 0, none⟩) (Nat.le_refl _) _).setCell (p := ⟨w.heap.size, 1, none⟩) (Nat.le_refl _) _).drew⟩
end Go.Proofs.YtljcljipppjnoabGreatDoor
