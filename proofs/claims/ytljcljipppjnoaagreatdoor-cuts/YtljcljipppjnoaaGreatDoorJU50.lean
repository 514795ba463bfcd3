import Derived.Test.YtljcljipppjnoaaGreatDoorJU49
import Derived.Test.YtljcljipppjnoaaGreatDoorCards
import Derived.Test.YtljcljipppjnoaaGreatDoorTie
import Derived.SevenTiedAt
namespace Go.Proofs.YtljcljipppjnoaaGreatDoor
open Go
theorem cuts_card_holds : Rows.CutsCardSaid :=
  Claim7.holds_tied_plain_at .later [] _ true (true, "b025e2ce13f98be9f1a3bd81cc4ffa594a2a4e0de31f1775e8547aced42ea683") true
    cuts_holds (fun _ h => by cases h) (by kernel_rfl) (fun _ h => by cases h) cuts_row_tie rfl ⟨rfl, rfl⟩ (by kernel_rfl) rfl
    (fun f fn hf hfn => by
      obtain rfl : f = 8 := Option.some.inj ((show Tryz.prog.funcNamed "prose/prosekeep.Cuts" = some 8 by kernel_rfl).symm.trans hf) |>.symm
      obtain rfl : fn = Tryz.f8 := (Option.some.inj (Tryz.func8.symm.trans hfn)).symm
      exact ⟨by kernel_rfl, fun j t ht => by
        rw [Tryz.params8] at ht
        have hm : t ∈ [9, 31, 4] := by simpa using Array.mem_of_getElem? ht
        have hall : ([9, 31, 4].all fun u => !Tryz.prog.wantsStandIn u) = true := by kernel_rfl
        exact (show Tryz.prog.wantsStandIn t = false by simpa using List.all_eq_true.1 hall t hm)⟩)
    (by kernel_rfl)
#print axioms cuts_card_holds
end Go.Proofs.YtljcljipppjnoaaGreatDoor
