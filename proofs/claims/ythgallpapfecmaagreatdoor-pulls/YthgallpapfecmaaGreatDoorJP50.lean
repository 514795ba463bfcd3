import Derived.Test.YthgallpapfecmaaGreatDoorJP49
import Derived.Test.YthgallpapfecmaaGreatDoorCards
import Derived.Test.YthgallpapfecmaaGreatDoorTie
import Derived.SevenTiedAt
namespace Go.Proofs.YthgallpapfecmaaGreatDoor
open Go

theorem pulls_card_holds : Rows.PullsCardSaid :=
  Claim7.holds_tied_plain_at .later [] _ true (true, "295110c1c7b0048a728644cd78825c0adee12f7004c202ecc8522536ca48abb1") true
    pulls_holds (fun _ h => by cases h) (by kernel_rfl) (fun _ h => by cases h) pulls_row_tie rfl ⟨rfl, rfl⟩ (by kernel_rfl) rfl
    (fun f fn hf hfn => by
      obtain rfl : f = 4 := Option.some.inj ((show Tryz.prog.funcNamed "prose/proselaw.Pulls" = some 4 by kernel_rfl).symm.trans hf) |>.symm
      obtain rfl : fn = Tryz.f4 := (Option.some.inj (Tryz.func4.symm.trans hfn)).symm
      exact ⟨by kernel_rfl, fun j t ht => by
        rw [Tryz.params4] at ht
        have hm : t ∈ [33, 33, 34] := by simpa using Array.mem_of_getElem? ht
        have hall : ([33, 33, 34].all fun u => !Tryz.prog.wantsStandIn u) = true := by kernel_rfl
        exact (show Tryz.prog.wantsStandIn t = false by simpa using List.all_eq_true.1 hall t hm)⟩)
    (by kernel_rfl)
#print axioms pulls_card_holds
end Go.Proofs.YthgallpapfecmaaGreatDoor
