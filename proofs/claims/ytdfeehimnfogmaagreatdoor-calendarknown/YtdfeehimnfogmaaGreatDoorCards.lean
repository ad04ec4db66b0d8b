/-
  DERIVED. GIVEN WITH THE SEED: THE CARDS: each row of YtdfeehimnfogmaaGreatDoorRows.lean that lists a variable, with what it lists TIED to the program's text (the seventh form; the later family's looks); each row that meets fmt, with fmt's text TOLD by the authors' own Lean function (tested against real Go, not proved from fmt's source: count such statements apart). THE CARD IS WHAT COUNTS. Prove the row's statement (the work); the ties are given (YtdfeehimnfogmaaGreatDoorTie.lean); close each card by the builder's one call (the guide's Derived/Test/ToyasCard.lean, 'card_holds'). Laid BY PROGRAM, IN A SANDBOX (cutbox-door.mjs). By AI agents, Wed Nov 11 2026. No macro, syntax, notation, axiom, sorry.
-/
import Derived.Test.YtdfeehimnfogmaaGreatDoorRows
import GoSem.ClaimSeven
namespace Go.Proofs.YtdfeehimnfogmaaGreatDoor
namespace Rows

/-- THE TIED CARD OF 'custodylaw03.CalendarKnown'. -/
def calendarKnownCard : Claim7 := { stood := { row := calendarKnownRow, standIns := [], harness := (true, "9bda120ac0af4306c5ec2569823d27a00d2a6d62a1a5954a33466f7969c79ceb"), looks := true }, kinds := [], alts := [], laidByText := true, laidKinds := [.data, .handle], laidTests := true, laidLooks := .later }
def CalendarKnownCardSaid : Prop := Claim7.holds Tryz.pinned (.plain (OpenSpec.ofChange calendarKnownSpec)) calendarKnownCard

/-- THE SECOND FORM's CARD OF 'custodylaw03.CalendarKnown'. -/
def calendarKnownUptoCard : Claim7 := { stood := { row := calendarKnownUptoRow, standIns := [], harness := (true, "9bda120ac0af4306c5ec2569823d27a00d2a6d62a1a5954a33466f7969c79ceb"), looks := true }, kinds := [], alts := [], laidByText := true, laidKinds := [.data, .handle], laidTests := true, laidLooks := .later }
def CalendarKnownUptoCardSaid : Prop := Claim7.holds Tryz.pinned (.plain (OpenSpec.upto calendarKnownSpec)) calendarKnownUptoCard
end Rows
end Go.Proofs.YtdfeehimnfogmaaGreatDoor
