import Derived.Test.YtljcljipppjnoaaDoorSrc
import Derived.Defers
import Derived.Recover
namespace Go.Proofs.YtljcljipppjnoaaDoor
open Go.RowKit

theorem catch_idle (p q r : Addr) (w : World) :
    CallsD Tryd.prog 50 #[.pointer (some p), .pointer (some q), .pointer (some r)] .returning w fun e u' w' => e = .returned (.tuple #[]) ∧ u' = .returning ∧ w' = w := by
  refine callsD_of_wpS Tryd.func50 rfl fun c₀ cs hu => ?_
  apply wpS_seq
  apply wpS_region
  simp [wpOpsS, go_sem, recoverD, hu, Tryd.ntmps50, Exit.thenS]
  refine wpS_cond (t := false) (by simp [Act.eval, Array.replicate]) ?_
  simp only [Bool.false_eq_true, if_false]
  refine wpS_of_wp (wp_skip ?_)
  cases c₀
  simp_all [bodyPostS, results, Tryd.results50]

/-- The world in which the source is asked. -/
def asked (w : World) : World := ((w.alloc (.cells #[.string ⟨#[]⟩] 9)).alloc (.cells #[.bool false] 4)).alloc (.cells #[.nilIface] 42)

theorem asked_size (w : World) : (asked w).heap.size = w.heap.size + 3 := by simp [asked]
theorem asked_old (w : World) (k : Nat) (h : k < w.heap.size) : (asked w).heap[k]? = w.heap[k]? := by
  unfold asked
  rw [Below.heap_alloc _ _ k (by simp; omega), Below.heap_alloc _ _ k (by simp; omega), Below.heap_alloc _ _ k h]
theorem asked0 (w : World) : (asked w).heap[w.heap.size]? = some (.cells #[.string ⟨#[]⟩] 9 (0, 0)) := by
  unfold asked
  rw [Below.heap_alloc _ _ _ (by simp; omega), Below.heap_alloc _ _ _ (by simp)]
  exact heap_new _ _ rfl
theorem asked1 (w : World) : (asked w).heap[w.heap.size + 1]? = some (.cells #[.bool false] 4 (0, 0)) := by
  unfold asked
  rw [Below.heap_alloc _ _ _ (by simp)]
  exact heap_new _ _ (by simp)
theorem asked2 (w : World) : (asked w).heap[w.heap.size + 1 + 1]? = some (.cells #[.nilIface] 42 (0, 0)) := by
  unfold asked
  exact heap_new _ _ (by simp)

set_option maxHeartbeats 1000000 in
theorem read_walk (b : Nat) (p : ByteArray) (d : Bool) (er : Value) (R : World → Prop) (w : World) (hb : b < w.heap.size) (hie : er = .nilIface ∨ ∃ u x, er = .iface u x)
    (hR : Calls Tryd.prog 121 #[.pointer (some ⟨b, 0, none⟩)] (asked w) fun e w' => e = .returned (.tuple #[.string p, .bool d, er]) ∧ R w' ∧ Kept b (asked w) w') :
    Calls Tryd.prog 33 #[.iface 47 (.pointer (some ⟨b, 0, none⟩))] w fun e w' => e = .returned (.tuple #[.string p, .bool d, er]) ∧
      ∃ w1, R w1 ∧ (∀ k, k < w.heap.size ∨ w.heap.size + 3 ≤ k → w'.heap[k]? = w1.heap[k]?) ∧ Kept b w w' := by
  have hmf : ∀ (fn : Fn) (first cap : Array Value) (w : World), (Instr.makeFunc fn first cap).run Tryd.prog w = .ok (.func fn first cap) w := fun _ _ _ _ => rfl
  go_enter_defers Tryd.func33, Tryd.ntmps33
  go_wp2_with fail
  refine hR.mono ?_
  rintro e w1 ⟨rfl, hr, hk⟩
  have n0 := (hk.block w.heap.size (by rw [asked_size]; omega) (by omega)).trans (asked0 w)
  have n1 := (hk.block (w.heap.size + 1) (by rw [asked_size]; omega) (by omega)).trans (asked1 w)
  have n2 := (hk.block (w.heap.size + 1 + 1) (by rw [asked_size]; omega) (by omega)).trans (asked2 w)
  have x0 : w1.cell? ⟨w.heap.size, 0, none⟩ = some (.string ⟨#[]⟩) := by rw [Lib.cell_of_heap n0]; rfl
  have x1 : w1.cell? ⟨w.heap.size + 1, 0, none⟩ = some (.bool false) := by rw [Lib.cell_of_heap n1]; rfl
  have x2 : w1.cell? ⟨w.heap.size + 1 + 1, 0, none⟩ = some .nilIface := by rw [Lib.cell_of_heap n2]; rfl
  have y0 := Lib.frozen_of_heap n0 0
  have y1 := Lib.frozen_of_heap n1 0
  have y2 := Lib.frozen_of_heap n2 0
  have HK : Hid (R w1 ∧ Kept b (asked w) w1) := ⟨hr, hk⟩
  clear n0 n1 n2 hr hk hR
  rcases hie with rfl | ⟨u, x, rfl⟩
  all_goals
    go_wp2
    refine leaves_cons (f := 50) (args := #[.pointer (some ⟨w.heap.size, 0, none⟩), .pointer (some ⟨w.heap.size + 1, 0, none⟩), .pointer (some ⟨w.heap.size + 1 + 1, 0, none⟩)]) (by simp) (by simp [go_sem]) ?_
    refine (catch_idle _ _ _ _).mono ?_
    rintro e u' w'' ⟨rfl, rfl, rfl⟩
    simp [Leaves, settle, results, Tryd.results33, go_sem, x0, x1, x2]
    refine ⟨w1, HK.out.1, fun k hk => ?_, ?_⟩
    · rw [Below.heap_setCell _ _ _ k (by show k ≠ w.heap.size + 1 + 1; omega), Below.heap_setCell _ _ _ k (by show k ≠ w.heap.size + 1; omega), Below.heap_setCell _ _ _ k (by show k ≠ w.heap.size; omega)]
    · have k0 : Kept b w (asked w) := (((Kept.refl b w).alloc _).alloc _).alloc _
      exact ((((k0.trans HK.out.2).setNew (p := ⟨w.heap.size, 0, none⟩) (Nat.le_refl _) _).setNew (p := ⟨w.heap.size + 1, 0, none⟩) (by show w.heap.size ≤ w.heap.size + 1; omega) _).setNew (p := ⟨w.heap.size + 1 + 1, 0, none⟩) (by show w.heap.size ≤ w.heap.size + 1 + 1; omega) _)

end Go.Proofs.YtljcljipppjnoaaDoor
