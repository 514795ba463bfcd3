import Derived.Test.YtljcljipppjnoaaDoorGathersProofs
import Derived.Test.YtljcljipppjnoaaDoorCards
import Derived.Test.YtljcljipppjnoaaDoorTie
import Derived.SevenTiedAt
namespace Go.Proofs.YtljcljipppjnoaaDoor
open Go

theorem gathers_card_holds : Rows.GathersCardSaid :=
  Claim7.holds_tied_plain_at .later [] _ true (true, "97d25615d3d56a576c8056737b10352822ce606a5ae35588a9e76c204084a450") true
    gathers_holds (fun _ h => by cases h) (by kernel_rfl) (fun _ h => by cases h) gathers_row_tie rfl ⟨rfl, rfl⟩ (by kernel_rfl) rfl
    (fun f fn hf hfn => by
      obtain rfl : f = 4 := Option.some.inj ((show Tryd.prog.funcNamed "prose/proselaw.Gathers" = some 4 by kernel_rfl).symm.trans hf) |>.symm
      obtain rfl : fn = Tryd.f4 := (Option.some.inj (Tryd.func4.symm.trans hfn)).symm
      exact ⟨by kernel_rfl, fun j t ht => by
        rw [Tryd.params4] at ht
        have hm : t ∈ [25] := by simpa using Array.mem_of_getElem? ht
        have hall : ([25].all fun u => !Tryd.prog.wantsStandIn u) = true := by kernel_rfl
        exact (show Tryd.prog.wantsStandIn t = false by simpa using List.all_eq_true.1 hall t hm)⟩)
    (by kernel_rfl)
#print axioms gathers_card_holds
end Go.Proofs.YtljcljipppjnoaaDoor
