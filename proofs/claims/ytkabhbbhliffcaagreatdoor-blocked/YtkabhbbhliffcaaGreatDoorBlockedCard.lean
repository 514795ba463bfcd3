import Derived.Test.YtkabhbbhliffcaaGreatDoorBlockedProofs
import Derived.Test.YtkabhbbhliffcaaGreatDoorCards
import Derived.Test.YtkabhbbhliffcaaGreatDoorTie
import Derived.SevenTiedAt
namespace Go.Proofs.YtkabhbbhliffcaaGreatDoor
open Go

theorem blocked_card_holds : Rows.BlockedCardSaid :=
  Claim7.holds_tied_plain_at .later [] _ true (true, "311ac8dc9fc658ad972e673bf8c112144fd4f40cadbb67808be91e97bcf5dcee") false
    blocked_holds (fun _ h => by cases h) (by kernel_rfl) (fun _ h => by cases h) blocked_row_tie rfl ⟨rfl, rfl⟩ (by kernel_rfl) rfl
    (fun f fn hf hfn => by
      obtain rfl : f = 3 := Option.some.inj ((show Tryz.prog.funcNamed "prose/proselaw.Blocked" = some 3 by kernel_rfl).symm.trans hf) |>.symm
      obtain rfl : fn = Tryz.f3 := (Option.some.inj (Tryz.func3.symm.trans hfn)).symm
      exact ⟨by kernel_rfl, fun j t ht => by
        rw [Tryz.params3] at ht
        have hm : t ∈ [9] := by simpa using Array.mem_of_getElem? ht
        have hall : ([9].all fun u => !Tryz.prog.wantsStandIn u) = true := by kernel_rfl
        exact (show Tryz.prog.wantsStandIn t = false by simpa using List.all_eq_true.1 hall t hm)⟩)
    (by kernel_rfl)
#print axioms blocked_card_holds
end Go.Proofs.YtkabhbbhliffcaaGreatDoor
