import Derived.Test.YtljcljipppjnoaaDoorNamesProofs
import Derived.Test.YtljcljipppjnoaaDoorCards
import Derived.Test.YtljcljipppjnoaaDoorTie
import Derived.SevenTiedAt
namespace Go.Proofs.YtljcljipppjnoaaDoor
open Go

theorem names_card_holds : Rows.NamesCardSaid :=
  Claim7.holds_tied_plain_at .later [] [.sentinel, .sentinel, .sentinel] true (true, "97d25615d3d56a576c8056737b10352822ce606a5ae35588a9e76c204084a450") true
    names_holds (fun _ h => by cases h) (by kernel_rfl) (fun _ h => by cases h) names_row_tie rfl ⟨rfl, rfl⟩ (by kernel_rfl) rfl
    (fun f fn hf hfn => by
      obtain rfl : f = 3 := Option.some.inj ((show Tryd.prog.funcNamed "prose/proselaw.Names" = some 3 by kernel_rfl).symm.trans hf) |>.symm
      obtain rfl : fn = Tryd.f3 := (Option.some.inj (Tryd.func3.symm.trans hfn)).symm
      exact ⟨by kernel_rfl, fun j t ht => by
        rw [Tryd.params3] at ht
        simp at ht⟩)
    (by kernel_rfl)
#print axioms names_card_holds
end Go.Proofs.YtljcljipppjnoaaDoor
