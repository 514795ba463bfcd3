/-
  DERIVED. GIVEN WITH THE SEED: THE CARDS: each row of YtehjjjipkppanaaDoorRows.lean that lists a variable, with what it lists TIED to the program's text (the seventh form; the later family's looks); each row that meets fmt, with fmt's text TOLD by the authors' own Lean function (tested against real Go, not proved from fmt's source: count such statements apart). THE CARD IS WHAT COUNTS. Prove the row's statement (the work); the ties are given (YtehjjjipkppanaaDoorTie.lean); close each card by the builder's one call (the guide's Derived/Test/ToyasCard.lean, 'card_holds'). Laid BY PROGRAM, IN A SANDBOX (cutbox-door.mjs). By AI agents, Wed Nov 11 2026. No macro, syntax, notation, axiom, sorry.
-/
import Derived.Test.YtehjjjipkppanaaDoorRows
import GoSem.ClaimSeven
namespace Go.Proofs.YtehjjjipkppanaaDoor
namespace Rows

/-- THE TIED CARD OF 'proselaw.Names'. -/
def namesCard : Claim7 := { stood := { row := namesRow, standIns := [], harness := (true, "23814816b6d0d9271a2f683af67b7be548f943ea58d638b5b60f25526ce04c14"), looks := true }, kinds := [], alts := [], laidByText := true, laidKinds := [.sentinel, .sentinel, .sentinel], laidTests := true, laidLooks := .later }
def NamesCardSaid : Prop := Claim7.holds Tryd.pinned (.plain (OpenSpec.ofChange namesSpec)) namesCard

/-- THE TIED CARD OF 'proselaw.Gathers'. -/
def gathersCard : Claim7 := { stood := { row := gathersRow, standIns := [], harness := (true, "23814816b6d0d9271a2f683af67b7be548f943ea58d638b5b60f25526ce04c14"), looks := true }, kinds := [], alts := [], laidByText := true, laidKinds := [.handle, .sentinel, .sentinel, .sentinel, .sentinel], laidTests := true, laidLooks := .later }
def GathersCardSaid : Prop := Claim7.holds Tryd.pinned (.plain (OpenSpec.ofChange gathersSpec)) gathersCard

/-- THE SECOND FORM's CARD OF 'proselaw.Names'. -/
def namesUptoCard : Claim7 := { stood := { row := namesUptoRow, standIns := [], harness := (true, "23814816b6d0d9271a2f683af67b7be548f943ea58d638b5b60f25526ce04c14"), looks := true }, kinds := [], alts := [], laidByText := true, laidKinds := [.sentinel, .sentinel, .sentinel], laidTests := true, laidLooks := .later }
def NamesUptoCardSaid : Prop := Claim7.holds Tryd.pinned (.plain (OpenSpec.upto namesSpec)) namesUptoCard

/-- THE SECOND FORM's CARD OF 'proselaw.Gathers'. -/
def gathersUptoCard : Claim7 := { stood := { row := gathersUptoRow, standIns := [], harness := (true, "23814816b6d0d9271a2f683af67b7be548f943ea58d638b5b60f25526ce04c14"), looks := true }, kinds := [], alts := [], laidByText := true, laidKinds := [.handle, .sentinel, .sentinel, .sentinel, .sentinel], laidTests := true, laidLooks := .later }
def GathersUptoCardSaid : Prop := Claim7.holds Tryd.pinned (.plain (OpenSpec.upto gathersSpec)) gathersUptoCard
end Rows
end Go.Proofs.YtehjjjipkppanaaDoor
