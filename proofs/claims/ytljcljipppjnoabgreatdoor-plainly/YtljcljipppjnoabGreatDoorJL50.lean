import Derived.Test.YtljcljipppjnoabGreatDoorJL49
import Derived.Test.YtljcljipppjnoabGreatDoorCards
import Derived.Test.YtljcljipppjnoabGreatDoorTie
import Derived.SevenTiedAt
namespace Go.Proofs.YtljcljipppjnoabGreatDoor
open Go
theorem plainly_card_holds : Rows.PlainlyCardSaid :=
  Claim7.holds_tied_plain_at .later [] _ true (true, "29dc921b51e25e6bdeb09e8a7c39eea90123aee4f9bf54f8b0f97a76a0b569c1") true
    plainly_holds (fun _ h => by cases h) (by kernel_rfl) (fun _ h => by cases h) plainly_row_tie rfl ⟨rfl, rfl⟩ (by kernel_rfl) rfl
    (fun f fn hf hfn => by
      obtain rfl : f = 3 := Option.some.inj ((show Tryz.prog.funcNamed "prose/prosekeep.Plainly" = some 3 by kernel_rfl).symm.trans hf) |>.symm
      obtain rfl : fn = Tryz.f3 := (Option.some.inj (Tryz.func3.symm.trans hfn)).symm
      exact ⟨by kernel_rfl, fun j t ht => by
        rw [Tryz.params3] at ht
        have hm : t ∈ [9] := by simpa using Array.mem_of_getElem? ht
        have hall : ([9].all fun u => !Tryz.prog.wantsStandIn u) = true := by kernel_rfl
        exact (show Tryz.prog.wantsStandIn t = false by simpa using List.all_eq_true.1 hall t hm)⟩)
    (by kernel_rfl)
#print axioms plainly_card_holds
end Go.Proofs.YtljcljipppjnoabGreatDoor
