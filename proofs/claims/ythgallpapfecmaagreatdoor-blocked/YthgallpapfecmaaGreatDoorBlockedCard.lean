import Derived.Test.YthgallpapfecmaaGreatDoorBlockedProofs
import Derived.Test.YthgallpapfecmaaGreatDoorCards
import Derived.Test.YthgallpapfecmaaGreatDoorTie
import Derived.SevenTiedAt
namespace Go.Proofs.YthgallpapfecmaaGreatDoor
open Go

theorem blocked_card_holds : Rows.BlockedCardSaid :=
  Claim7.holds_tied_plain_at .later [] _ true (true, "295110c1c7b0048a728644cd78825c0adee12f7004c202ecc8522536ca48abb1") true
    blocked_holds (fun _ h => by cases h) (by kernel_rfl) (fun _ h => by cases h) blocked_row_tie rfl ⟨rfl, rfl⟩ (by kernel_rfl) rfl
    (fun f fn hf hfn => by
      obtain rfl : f = 3 := Option.some.inj ((show Tryz.prog.funcNamed "prose/proselaw.Blocked" = some 3 by kernel_rfl).symm.trans hf) |>.symm
      obtain rfl : fn = Tryz.f3 := (Option.some.inj (Tryz.func3.symm.trans hfn)).symm
      exact ⟨by kernel_rfl, fun j t ht => by
        rw [Tryz.params3] at ht
        have hm : t ∈ [9] := by simpa using Array.mem_of_getElem? ht
        have hall : ([9].all fun u => !Tryz.prog.wantsStandIn u) = true := by kernel_rfl
        exact (show Tryz.prog.wantsStandIn t = false by simpa using List.all_eq_true.1 hall t hm)⟩)
    (by kernel_rfl)
#print axioms blocked_card_holds
end Go.Proofs.YthgallpapfecmaaGreatDoor
