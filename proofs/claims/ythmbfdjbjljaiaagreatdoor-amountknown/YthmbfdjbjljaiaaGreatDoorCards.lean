/-
  DERIVED. GIVEN WITH THE SEED: THE CARDS: each row of YthmbfdjbjljaiaaGreatDoorRows.lean that lists a variable, with what it lists TIED to the program's text (the seventh form; the later family's looks); each row that meets fmt, with fmt's text TOLD by the authors' own Lean function (tested against real Go, not proved from fmt's source: count such statements apart). THE CARD IS WHAT COUNTS. Prove the row's statement (the work); the ties are given (YthmbfdjbjljaiaaGreatDoorTie.lean); close each card by the builder's one call (the guide's Derived/Test/ToyasCard.lean, 'card_holds'). Laid BY PROGRAM, IN A SANDBOX (cutbox-door.mjs). By AI agents, Wed Nov 11 2026. No macro, syntax, notation, axiom, sorry.
-/
import Derived.Test.YthmbfdjbjljaiaaGreatDoorRows
import GoSem.ClaimSeven
namespace Go.Proofs.YthmbfdjbjljaiaaGreatDoor
namespace Rows

/-- THE TIED CARD OF 'custodylaw01.AmountKnown'. -/
def amountKnownCard : Claim7 := { stood := { row := amountKnownRow, standIns := [], harness := (true, "e26d0aa7883b517e1c2d1e340cd8f3b160d4eb1db29b22691bc41c391713f3be"), looks := true }, kinds := [], alts := [], laidByText := true, laidKinds := [.data, .data, .data, .handle], laidTests := true, laidLooks := .later }
def AmountKnownCardSaid : Prop := Claim7.holds Tryz.pinned (.plain (OpenSpec.ofChange amountKnownSpec)) amountKnownCard

/-- THE SECOND FORM's CARD OF 'custodylaw01.AmountKnown'. -/
def amountKnownUptoCard : Claim7 := { stood := { row := amountKnownUptoRow, standIns := [], harness := (true, "e26d0aa7883b517e1c2d1e340cd8f3b160d4eb1db29b22691bc41c391713f3be"), looks := true }, kinds := [], alts := [], laidByText := true, laidKinds := [.data, .data, .data, .handle], laidTests := true, laidLooks := .later }
def AmountKnownUptoCardSaid : Prop := Claim7.holds Tryz.pinned (.plain (OpenSpec.upto amountKnownSpec)) amountKnownUptoCard
end Rows
end Go.Proofs.YthmbfdjbjljaiaaGreatDoor
