/-
  DERIVED. GIVEN WITH THE SEED: THE CARDS: each row of YthgallpapfecmaaGreatDoorRows.lean that lists a variable, with what it lists TIED to the program's text (the seventh form; the later family's looks); each row that meets fmt, with fmt's text TOLD by the authors' own Lean function (tested against real Go, not proved from fmt's source: count such statements apart). THE CARD IS WHAT COUNTS. Prove the row's statement (the work); the ties are given (YthgallpapfecmaaGreatDoorTie.lean); close each card by the builder's one call (the guide's Derived/Test/ToyasCard.lean, 'card_holds'). Laid BY PROGRAM, IN A SANDBOX (cutbox-door.mjs). By AI agents, Wed Nov 11 2026. No macro, syntax, notation, axiom, sorry.
-/
import Derived.Test.YthgallpapfecmaaGreatDoorRows
import GoSem.ClaimSeven
namespace Go.Proofs.YthgallpapfecmaaGreatDoor
namespace Rows

/-- THE TIED CARD OF 'proselaw.Blocked'. -/
def blockedCard : Claim7 := { stood := { row := blockedRow, standIns := [], harness := (true, "295110c1c7b0048a728644cd78825c0adee12f7004c202ecc8522536ca48abb1"), looks := true }, kinds := [], alts := [], laidByText := true, laidKinds := [.data, .pinned], laidTests := true, laidLooks := .later }
def BlockedCardSaid : Prop := Claim7.holds Tryz.pinned (.plain (OpenSpec.ofChange blockedSpec)) blockedCard

/-- THE TIED CARD OF 'proselaw.Pulls'. -/
def pullsCard : Claim7 := { stood := { row := pullsRow, standIns := [], harness := (true, "295110c1c7b0048a728644cd78825c0adee12f7004c202ecc8522536ca48abb1"), looks := true }, kinds := [], alts := [], laidByText := true, laidKinds := [.data, .handle, .sentinel, .sentinel, .sentinel, .sentinel, .pinned], laidTests := true, laidLooks := .later }
def PullsCardSaid : Prop := Claim7.holds Tryz.pinned (.plain (OpenSpec.ofChange pullsSpec)) pullsCard

/-- THE SECOND FORM's CARD OF 'proselaw.Blocked'. -/
def blockedUptoCard : Claim7 := { stood := { row := blockedUptoRow, standIns := [], harness := (true, "295110c1c7b0048a728644cd78825c0adee12f7004c202ecc8522536ca48abb1"), looks := true }, kinds := [], alts := [], laidByText := true, laidKinds := [.data, .pinned], laidTests := true, laidLooks := .later }
def BlockedUptoCardSaid : Prop := Claim7.holds Tryz.pinned (.plain (OpenSpec.upto blockedSpec)) blockedUptoCard

/-- THE SECOND FORM's CARD OF 'proselaw.Pulls'. -/
def pullsUptoCard : Claim7 := { stood := { row := pullsUptoRow, standIns := [], harness := (true, "295110c1c7b0048a728644cd78825c0adee12f7004c202ecc8522536ca48abb1"), looks := true }, kinds := [], alts := [], laidByText := true, laidKinds := [.data, .handle, .sentinel, .sentinel, .sentinel, .sentinel, .pinned], laidTests := true, laidLooks := .later }
def PullsUptoCardSaid : Prop := Claim7.holds Tryz.pinned (.plain (OpenSpec.upto pullsSpec)) pullsUptoCard
end Rows
end Go.Proofs.YthgallpapfecmaaGreatDoor
