import Derived.Test.YtljcljipppjnoaaGreatDoorJN49
import Derived.Test.YtljcljipppjnoaaGreatDoorCards
import Derived.Test.YtljcljipppjnoaaGreatDoorTie
import Derived.SevenTiedAt
namespace Go.Proofs.YtljcljipppjnoaaGreatDoor
open Go
theorem nests_card_holds : Rows.NestsCardSaid :=
  Claim7.holds_tied_plain_at .later [] _ true (true, "b025e2ce13f98be9f1a3bd81cc4ffa594a2a4e0de31f1775e8547aced42ea683") true
    nests_holds (fun _ h => by cases h) (by kernel_rfl) (fun _ h => by cases h) nests_row_tie rfl ⟨rfl, rfl⟩ (by kernel_rfl) rfl
    (fun f fn hf hfn => by
      obtain rfl : f = 9 := Option.some.inj ((show Tryz.prog.funcNamed "prose/prosekeep.Nests" = some 9 by kernel_rfl).symm.trans hf) |>.symm
      obtain rfl : fn = Tryz.f9 := (Option.some.inj (Tryz.func9.symm.trans hfn)).symm
      exact ⟨by kernel_rfl, fun j t ht => by
        rw [Tryz.params9] at ht
        have hm : t ∈ [9] := by simpa using Array.mem_of_getElem? ht
        have hall : ([9].all fun u => !Tryz.prog.wantsStandIn u) = true := by kernel_rfl
        exact (show Tryz.prog.wantsStandIn t = false by simpa using List.all_eq_true.1 hall t hm)⟩)
    (by kernel_rfl)
#print axioms nests_card_holds
end Go.Proofs.YtljcljipppjnoaaGreatDoor
