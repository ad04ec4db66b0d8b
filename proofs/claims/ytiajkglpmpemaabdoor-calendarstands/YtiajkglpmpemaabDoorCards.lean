/-
  DERIVED. GIVEN WITH THE SEED: THE CARDS: each row of YtiajkglpmpemaabDoorRows.lean that lists a variable, with what it lists TIED to the program's text (the seventh form; the later family's looks); each row that meets fmt, with fmt's text TOLD by the authors' own Lean function (tested against real Go, not proved from fmt's source: count such statements apart). THE CARD IS WHAT COUNTS. Prove the row's statement (the work); the ties are given (YtiajkglpmpemaabDoorTie.lean); close each card by the builder's one call (the guide's Derived/Test/ToyasCard.lean, 'card_holds'). Laid BY PROGRAM, IN A SANDBOX (cutbox-door.mjs). By AI agents, Wed Nov 11 2026. No macro, syntax, notation, axiom, sorry.
-/
import Derived.Test.YtiajkglpmpemaabDoorRows
import GoSem.ClaimSeven
namespace Go.Proofs.YtiajkglpmpemaabDoor
namespace Rows

/-- THE TIED CARD OF 'custodylaw03.CalendarSteps'. -/
def calendarStepsCard : Claim7 := { stood := { row := calendarStepsRow, standIns := [], harness := (true, "3b24c7b6888c41496c57cbc224e40a5bb9412446cb8755041b915a5230a7ef4d"), looks := false }, kinds := [], alts := [], laidByText := true, laidKinds := [.data], laidTests := true, laidLooks := .later }
def CalendarStepsCardSaid : Prop := Claim7.holds Tryd.pinned (.plain (OpenSpec.ofChange calendarStepsSpec)) calendarStepsCard

/-- THE TIED CARD OF 'custodylaw03.CalendarStands'. -/
def calendarStandsCard : Claim7 := { stood := { row := calendarStandsRow, standIns := [], harness := (true, "3b24c7b6888c41496c57cbc224e40a5bb9412446cb8755041b915a5230a7ef4d"), looks := false }, kinds := [], alts := [], laidByText := true, laidKinds := [.data], laidTests := true, laidLooks := .later }
def CalendarStandsCardSaid : Prop := Claim7.holds Tryd.pinned (.plain (OpenSpec.ofChange calendarStandsSpec)) calendarStandsCard

/-- THE SECOND FORM's CARD OF 'custodylaw03.CalendarSteps'. -/
def calendarStepsUptoCard : Claim7 := { stood := { row := calendarStepsUptoRow, standIns := [], harness := (true, "3b24c7b6888c41496c57cbc224e40a5bb9412446cb8755041b915a5230a7ef4d"), looks := false }, kinds := [], alts := [], laidByText := true, laidKinds := [.data], laidTests := true, laidLooks := .later }
def CalendarStepsUptoCardSaid : Prop := Claim7.holds Tryd.pinned (.plain (OpenSpec.upto calendarStepsSpec)) calendarStepsUptoCard

/-- THE SECOND FORM's CARD OF 'custodylaw03.CalendarStands'. -/
def calendarStandsUptoCard : Claim7 := { stood := { row := calendarStandsUptoRow, standIns := [], harness := (true, "3b24c7b6888c41496c57cbc224e40a5bb9412446cb8755041b915a5230a7ef4d"), looks := false }, kinds := [], alts := [], laidByText := true, laidKinds := [.data], laidTests := true, laidLooks := .later }
def CalendarStandsUptoCardSaid : Prop := Claim7.holds Tryd.pinned (.plain (OpenSpec.upto calendarStandsSpec)) calendarStandsUptoCard
end Rows
end Go.Proofs.YtiajkglpmpemaabDoor
