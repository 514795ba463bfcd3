/-
  DERIVED. GIVEN WITH THE SEED: THE CARDS: each row of YtljcljipppjnoabGreatDoorRows.lean that lists a variable, with what it lists TIED to the program's text (the seventh form; the later family's looks); each row that meets fmt, with fmt's text TOLD by the authors' own Lean function (tested against real Go, not proved from fmt's source: count such statements apart). THE CARD IS WHAT COUNTS. Prove the row's statement (the work); the ties are given (YtljcljipppjnoabGreatDoorTie.lean); close each card by the builder's one call (the guide's Derived/Test/ToyasCard.lean, 'card_holds'). Laid BY PROGRAM, IN A SANDBOX (cutbox-door.mjs). By AI agents, Wed Nov 11 2026. No macro, syntax, notation, axiom, sorry.
-/
import Derived.Test.YtljcljipppjnoabGreatDoorRows
import GoSem.ClaimSeven
namespace Go.Proofs.YtljcljipppjnoabGreatDoor
namespace Rows

/-- THE TIED CARD OF 'prosekeep.Plainly'. -/
def plainlyCard : Claim7 := { stood := { row := plainlyRow, standIns := [], harness := (true, "29dc921b51e25e6bdeb09e8a7c39eea90123aee4f9bf54f8b0f97a76a0b569c1"), looks := true }, kinds := [], alts := [], laidByText := true, laidKinds := [.data, .data, .data, .data, .handle, .sentinel, .sentinel, .sentinel, .sentinel, .sentinel, .pinned], laidTests := true, laidLooks := .later }
def PlainlyCardSaid : Prop := Claim7.holds Tryz.pinned (.plain (OpenSpec.ofChange plainlySpec)) plainlyCard

/-- THE SECOND FORM's CARD OF 'prosekeep.Plainly'. -/
def plainlyUptoCard : Claim7 := { stood := { row := plainlyUptoRow, standIns := [], harness := (true, "29dc921b51e25e6bdeb09e8a7c39eea90123aee4f9bf54f8b0f97a76a0b569c1"), looks := true }, kinds := [], alts := [], laidByText := true, laidKinds := [.data, .data, .data, .data, .handle, .sentinel, .sentinel, .sentinel, .sentinel, .sentinel, .pinned], laidTests := true, laidLooks := .later }
def PlainlyUptoCardSaid : Prop := Claim7.holds Tryz.pinned (.plain (OpenSpec.upto plainlySpec)) plainlyUptoCard
end Rows
end Go.Proofs.YtljcljipppjnoabGreatDoor
