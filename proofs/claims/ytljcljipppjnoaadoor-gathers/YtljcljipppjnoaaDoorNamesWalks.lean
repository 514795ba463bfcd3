import Derived.Test.YtljcljipppjnoaaDoorRows
import Derived.WalkKit
import Derived.WalkSpells
import Derived.WalkLawsBesides
import Derived.LaidEql
import Derived.Deep.QuietTactic
import Derived.BigQuiet
import Derived.Handy
namespace Go.Proofs.YtljcljipppjnoaaDoor
open Go.RowKit

theorem Tryd.compErr : (Tryd.prog.info? 167).map (·.comparable) = some true := by kernel_rfl
theorem Tryd.sizeErr : (Tryd.prog.info? 187).map (fun j => decide (j.size ≠ 0)) = some true := by kernel_rfl

theorem sent_other (a b : Addr) (ca cb : Array Value) (ta tb : TypeId) (w : World) (hne : a ≠ b) (ha : w.heap[a.block]? = some (.cells ca ta (0, 0))) (hb : w.heap[b.block]? = some (.cells cb tb (0, 0))) :
    ∀ W : World, (∀ b : Nat, b < w.heap.size → W.heap[b]? = w.heap[b]?) → (binOp .eql 42 (.iface 167 (.pointer (some a))) (.iface 167 (.pointer (some b)))).run Tryd.prog W = .ok (.bool false) W := by
  intro W hW
  obtain ⟨i, hi, hcmp⟩ := Option.map_eq_some_iff.1 Tryd.compErr
  obtain ⟨j, hj, hjs⟩ := Option.map_eq_some_iff.1 Tryd.sizeErr
  have la : a.block < w.heap.size := (Array.getElem?_eq_some_iff.1 ha).1
  have lb : b.block < w.heap.size := (Array.getElem?_eq_some_iff.1 hb).1
  exact run_eql_iface_ptr_other (P := Tryd.prog) W Tryd.underlying42 Tryd.underlying167 hi hcmp hj (of_decide_eq_true hjs) hne (by rw [hW _ la]; exact ha) (by rw [hW _ lb]; exact hb)

theorem plainSame_any (a0 a1 a2 : Addr) (w : World)
    (h0 : w.cell? ⟨0, 0, none⟩ = some (.iface 167 (.pointer (some a0))))
    (h1 : w.cell? ⟨1, 0, none⟩ = some (.iface 167 (.pointer (some a1))))
    (h2 : w.cell? ⟨2, 0, none⟩ = some (.iface 167 (.pointer (some a2))))
    (q10 : ∀ W : World, (∀ b : Nat, b < w.heap.size → W.heap[b]? = w.heap[b]?) → (binOp .eql 42 (.iface 167 (.pointer (some a1))) (.iface 167 (.pointer (some a0)))).run Tryd.prog W = .ok (.bool false) W)
    (q20 : ∀ W : World, (∀ b : Nat, b < w.heap.size → W.heap[b]? = w.heap[b]?) → (binOp .eql 42 (.iface 167 (.pointer (some a2))) (.iface 167 (.pointer (some a0)))).run Tryd.prog W = .ok (.bool false) W)
    (q21 : ∀ W : World, (∀ b : Nat, b < w.heap.size → W.heap[b]? = w.heap[b]?) → (binOp .eql 42 (.iface 167 (.pointer (some a2))) (.iface 167 (.pointer (some a1)))).run Tryd.prog W = .ok (.bool false) W) :
    Calls Tryd.prog 6 #[] w fun e w' => e = .returned (.bool true) ∧ Below w.heap.size w w' := by
  go_enter Tryd.func6, Tryd.ntmps6
  go_wp2
  have hdn : ∀ n (b : Nat), b < w.heap.size → ((w.alloc (Obj.cells #[Value.iface 167 (Value.pointer (some a0)), Value.iface 167 (Value.pointer (some a1)), Value.iface 167 (Value.pointer (some a2))] 42)).drewN n).heap[b]? = w.heap[b]? := by
    intro n b hb
    show (w.heap.push _)[b]? = _
    simp [Array.getElem?_push, Nat.ne_of_lt hb]
  have r10 := fun n => q10 _ (hdn n)
  have r20 := fun n => q20 _ (hdn n)
  have r21 := fun n => q21 _ (hdn n)
  clear q10 q20 q21 hdn
  refine wp_loop_rounds 4 ?_
  rw [rounds_succ]
  go_wp2
  refine wp_loop_rounds 1 ?_
  rw [rounds_succ]
  go_wp2
  rw [rounds_succ]
  go_wp2
  refine wp_loop_rounds 2 ?_
  rw [rounds_succ]
  go_wp2
  go_quiet (fail)
  go_wp2
  rw [rounds_succ]
  go_wp2
  rw [rounds_succ]
  go_wp2
  refine wp_loop_rounds 3 ?_
  rw [rounds_succ]
  go_wp2
  go_quiet (fail)
  go_wp2
  rw [rounds_succ]
  go_wp2
  go_quiet (fail)
  go_wp2
  rw [rounds_succ]
  go_wp2
  rw [rounds_succ]
  go_wp2
  go_ret
  exact ⟨rfl, below_drewN ((Below.refl _ _).alloc (Nat.le_refl _) _) _⟩

theorem names_any (a0 a1 a2 : Addr) (w : World)
    (h0 : w.cell? ⟨0, 0, none⟩ = some (.iface 167 (.pointer (some a0))))
    (h1 : w.cell? ⟨1, 0, none⟩ = some (.iface 167 (.pointer (some a1))))
    (h2 : w.cell? ⟨2, 0, none⟩ = some (.iface 167 (.pointer (some a2))))
    (q10 : ∀ W : World, (∀ b : Nat, b < w.heap.size → W.heap[b]? = w.heap[b]?) → (binOp .eql 42 (.iface 167 (.pointer (some a1))) (.iface 167 (.pointer (some a0)))).run Tryd.prog W = .ok (.bool false) W)
    (q20 : ∀ W : World, (∀ b : Nat, b < w.heap.size → W.heap[b]? = w.heap[b]?) → (binOp .eql 42 (.iface 167 (.pointer (some a2))) (.iface 167 (.pointer (some a0)))).run Tryd.prog W = .ok (.bool false) W)
    (q21 : ∀ W : World, (∀ b : Nat, b < w.heap.size → W.heap[b]? = w.heap[b]?) → (binOp .eql 42 (.iface 167 (.pointer (some a2))) (.iface 167 (.pointer (some a1)))).run Tryd.prog W = .ok (.bool false) W) :
    Calls Tryd.prog 3 #[] w fun e w' => e = .returned (.bool true) ∧ Below w.heap.size w w' := by
  have hc := plainSame_any a0 a1 a2 w h0 h1 h2 q10 q20 q21
  clear h0 h1 h2 q10 q20 q21
  go_enter Tryd.func3, Tryd.ntmps3
  go_wp2_with (first | (go_at_call 6; refine hc.mono ?_; rintro e w' ⟨rfl, hb⟩))
  go_ret
  exact ⟨rfl, hb⟩

end Go.Proofs.YtljcljipppjnoaaDoor
