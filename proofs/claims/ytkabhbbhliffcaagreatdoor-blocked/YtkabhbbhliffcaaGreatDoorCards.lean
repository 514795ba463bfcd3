/-
  DERIVED. GIVEN WITH THE SEED: THE CARDS: each row of YtkabhbbhliffcaaGreatDoorRows.lean that lists a variable, with what it lists TIED to the program's text (the seventh form; the later family's looks); each row that meets fmt, with fmt's text TOLD by the authors' own Lean function (tested against real Go, not proved from fmt's source: count such statements apart). THE CARD IS WHAT COUNTS. Prove the row's statement (the work); the ties are given (YtkabhbbhliffcaaGreatDoorTie.lean); close each card by the builder's one call (the guide's Derived/Test/ToyasCard.lean, 'card_holds'). Laid BY PROGRAM, IN A SANDBOX (cutbox-door.mjs). By AI agents, Wed Nov 11 2026. No macro, syntax, notation, axiom, sorry.
-/
import Derived.Test.YtkabhbbhliffcaaGreatDoorRows
import GoSem.ClaimSeven
namespace Go.Proofs.YtkabhbbhliffcaaGreatDoor
namespace Rows

/-- THE TIED CARD OF 'proselaw.Blocked'. -/
def blockedCard : Claim7 := { stood := { row := blockedRow, standIns := [], harness := (true, "311ac8dc9fc658ad972e673bf8c112144fd4f40cadbb67808be91e97bcf5dcee"), looks := false }, kinds := [], alts := [], laidByText := true, laidKinds := [.data, .pinned], laidTests := true, laidLooks := .later }
def BlockedCardSaid : Prop := Claim7.holds Tryz.pinned (.plain (OpenSpec.ofChange blockedSpec)) blockedCard

/-- THE SECOND FORM's CARD OF 'proselaw.Blocked'. -/
def blockedUptoCard : Claim7 := { stood := { row := blockedUptoRow, standIns := [], harness := (true, "311ac8dc9fc658ad972e673bf8c112144fd4f40cadbb67808be91e97bcf5dcee"), looks := false }, kinds := [], alts := [], laidByText := true, laidKinds := [.data, .pinned], laidTests := true, laidLooks := .later }
def BlockedUptoCardSaid : Prop := Claim7.holds Tryz.pinned (.plain (OpenSpec.upto blockedSpec)) blockedUptoCard
end Rows
end Go.Proofs.YtkabhbbhliffcaaGreatDoor
