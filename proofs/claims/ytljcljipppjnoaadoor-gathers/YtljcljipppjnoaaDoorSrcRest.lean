import Derived.Test.YtljcljipppjnoaaDoorSrc
namespace Go.Proofs.YtljcljipppjnoaaDoor
open Go.RowKit

set_option maxHeartbeats 4000000 in
theorem read_rest (b cap : Nat) (ca : Option Addr) (tx : ByteArray) (fa : Int) (wt : Bool) (rd : Int) (w : World) (h : SrcAt b tx (.slice ca 0 cap) fa wt rd false w) (h0 : 0 ≤ rd) (h1 : rd < 4611686018427387904) (hf : rd + 1 ≠ fa) :
    Calls Tryd.prog 121 #[.pointer (some ⟨b, 0, none⟩)] w fun e w' => e = .returned (.tuple #[.string tx, .bool (decide (tx.size = 0) || wt), .nilIface]) ∧
      SrcAt b ByteArray.empty (.slice ca 0 cap) fa wt (rd + 1) (decide (tx.size = 0) || wt) w' ∧ Kept b w w' := by
  obtain ⟨c0, c1, c2, c3, c4, c5⟩ := h.cells
  have hz := h.frozen
  have hlt := h.lt
  have z4 := hz 4
  have z0 := hz 0
  have z5 := hz 5
  have heq : (rd + 1 == fa) = false := by simp [hf]
  clear hz hf
  have H : Hid (SrcAt b tx (.slice ca 0 cap) fa wt rd false w) := h
  clear h
  have hE := empty_iff tx
  have hD : Hid (tx.toList.isEmpty = decide (tx.size = 0)) := hE
  clear hE
  go_enter Tryd.func121, Tryd.ntmps121
  go_wp2
  go_quiet (fail)
  by_cases hem : tx.toList.isEmpty = true
  · go_wp2
    go_quiet (fail)
    go_wp2
    go_ret3
    rw [← hD.out, hem]
    exact ⟨rfl, ((((H.out.put4 _).drewN _).put0 _).put5 _).drewN _, (((((Kept.refl b w).setCell 4 _).drewN _).setCell 0 _).setCell 5 _).drewN _⟩
  · go_wp2
    go_quiet (fail)
    go_wp2
    go_ret3
    rw [← hD.out, Bool.eq_false_iff.2 hem]
    exact ⟨rfl, ((((H.out.put4 _).drewN _).put0 _).put5 _).drewN _, (((((Kept.refl b w).setCell 4 _).drewN _).setCell 0 _).setCell 5 _).drewN _⟩

end Go.Proofs.YtljcljipppjnoaaDoor
