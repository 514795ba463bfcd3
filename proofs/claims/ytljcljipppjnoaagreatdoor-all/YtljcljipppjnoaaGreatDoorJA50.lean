import Derived.Test.YtljcljipppjnoaaGreatDoorJA49
import Derived.Test.YtljcljipppjnoaaGreatDoorCards
import Derived.Test.YtljcljipppjnoaaGreatDoorTie
import Derived.SevenTiedAt
namespace Go.Proofs.YtljcljipppjnoaaGreatDoor
open Go
theorem all_card_holds:Rows.AllCardSaid :=
  Claim7.holds_tied_plain_at .later [] _ true (true, "b025e2ce13f98be9f1a3bd81cc4ffa594a2a4e0de31f1775e8547aced42ea683") true
    all_holds (fun _ h=>by cases h) (by kernel_rfl) (fun _ h=>by cases h) all_row_tie rfl ⟨rfl,rfl⟩ (by kernel_rfl) rfl
    (fun f fn hf hfn=>by
      obtain rfl : f = 7 := Option.some.inj ((show Tryz.prog.funcNamed "prose/proselaw.All" = some 7 by kernel_rfl).symm.trans hf) |>.symm
      obtain rfl:fn=Tryz.f7:=(Option.some.inj (Tryz.func7.symm.trans hfn)).symm
      exact ⟨by kernel_rfl,fun j t ht=>by
        rw [Tryz.params7] at ht
        have hm:t ∈ [33,33,34,58,3]:=by simpa using Array.mem_of_getElem? ht
        have hall:([33,33,34,58,3].all fun u=>!Tryz.prog.wantsStandIn u)=true:=by kernel_rfl
        exact (show Tryz.prog.wantsStandIn t=false by simpa using List.all_eq_true.1 hall t hm)⟩)
    (by kernel_rfl)
#print axioms all_card_holds
end Go.Proofs.YtljcljipppjnoaaGreatDoor
