import Derived.Test.YtehjjjipkppanaaDoorNamesProofs
import Derived.Test.YtehjjjipkppanaaDoorCards
import Derived.Test.YtehjjjipkppanaaDoorTie
import Derived.SevenTiedAt
namespace Go.Proofs.YtehjjjipkppanaaDoor
open Go

theorem names_card_holds : Rows.NamesCardSaid :=
  Claim7.holds_tied_plain_at .later [] [.sentinel, .sentinel, .sentinel] true (true, "23814816b6d0d9271a2f683af67b7be548f943ea58d638b5b60f25526ce04c14") true
    names_holds (fun _ h => by cases h) (by kernel_rfl) (fun _ h => by cases h) names_row_tie rfl ⟨rfl, rfl⟩ (by kernel_rfl) rfl
    (fun f fn hf hfn => by
      obtain rfl : f = 3 := Option.some.inj ((show Tryd.prog.funcNamed "prose/proselaw.Names" = some 3 by kernel_rfl).symm.trans hf) |>.symm
      obtain rfl : fn = Tryd.f3 := (Option.some.inj (Tryd.func3.symm.trans hfn)).symm
      exact ⟨by kernel_rfl, fun j t ht => by
        rw [Tryd.params3] at ht
        simp at ht⟩)
    (by kernel_rfl)
#print axioms names_card_holds
end Go.Proofs.YtehjjjipkppanaaDoor
