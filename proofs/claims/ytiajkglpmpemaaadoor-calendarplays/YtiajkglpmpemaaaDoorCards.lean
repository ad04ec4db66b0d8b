/-
  DERIVED. GIVEN WITH THE SEED: THE CARDS: each row of YtiajkglpmpemaaaDoorRows.lean that lists a variable, with what it lists TIED to the program's text (the seventh form; the later family's looks); each row that meets fmt, with fmt's text TOLD by the authors' own Lean function (tested against real Go, not proved from fmt's source: count such statements apart). THE CARD IS WHAT COUNTS. Prove the row's statement (the work); the ties are given (YtiajkglpmpemaaaDoorTie.lean); close each card by the builder's one call (the guide's Derived/Test/ToyasCard.lean, 'card_holds'). Laid BY PROGRAM, IN A SANDBOX (cutbox-door.mjs). By AI agents, Wed Nov 11 2026. No macro, syntax, notation, axiom, sorry.
-/
import Derived.Test.YtiajkglpmpemaaaDoorRows
import GoSem.ClaimSeven
namespace Go.Proofs.YtiajkglpmpemaaaDoor
namespace Rows

/-- THE TIED CARD OF 'custodylaw03.CalendarDates'. -/
def calendarDatesCard : Claim7 := { stood := { row := calendarDatesRow, standIns := [], harness := (true, "8e2fd52bf9380c88c308b2764d672f0938cec31fb166156a94d586f527ac7227"), looks := true }, kinds := [], alts := [], laidByText := true, laidKinds := [.data, .handle], laidTests := true, laidLooks := .later }
def CalendarDatesCardSaid : Prop := Claim7.holds Tryd.pinned (.plain (OpenSpec.ofChange calendarDatesSpec)) calendarDatesCard

/-- THE TIED CARD OF 'custodylaw03.CalendarReckons'. -/
def calendarReckonsCard : Claim7 := { stood := { row := calendarReckonsRow, standIns := [], harness := (true, "8e2fd52bf9380c88c308b2764d672f0938cec31fb166156a94d586f527ac7227"), looks := true }, kinds := [], alts := [], laidByText := true, laidKinds := [.data, .handle], laidTests := true, laidLooks := .later }
def CalendarReckonsCardSaid : Prop := Claim7.holds Tryd.pinned (.plain (OpenSpec.ofChange calendarReckonsSpec)) calendarReckonsCard

/-- THE TIED CARD OF 'custodylaw03.CalendarPlays'. -/
def calendarPlaysCard : Claim7 := { stood := { row := calendarPlaysRow, standIns := [], harness := (true, "8e2fd52bf9380c88c308b2764d672f0938cec31fb166156a94d586f527ac7227"), looks := true }, kinds := [], alts := [], laidByText := true, laidKinds := [.data, .handle], laidTests := true, laidLooks := .later }
def CalendarPlaysCardSaid : Prop := Claim7.holds Tryd.pinned (.plain (OpenSpec.ofChange calendarPlaysSpec)) calendarPlaysCard

/-- THE TIED CARD OF 'custodylaw03.CalendarTarget'. -/
def calendarTargetCard : Claim7 := { stood := { row := calendarTargetRow, standIns := [], harness := (true, "8e2fd52bf9380c88c308b2764d672f0938cec31fb166156a94d586f527ac7227"), looks := true }, kinds := [], alts := [], laidByText := true, laidKinds := [.data, .handle], laidTests := true, laidLooks := .later }
def CalendarTargetCardSaid : Prop := Claim7.holds Tryd.pinned (.plain (OpenSpec.ofChange calendarTargetSpec)) calendarTargetCard

/-- THE TIED CARD OF 'custodylaw03.CalendarBack'. -/
def calendarBackCard : Claim7 := { stood := { row := calendarBackRow, standIns := [], harness := (true, "8e2fd52bf9380c88c308b2764d672f0938cec31fb166156a94d586f527ac7227"), looks := true }, kinds := [], alts := [], laidByText := true, laidKinds := [.data], laidTests := true, laidLooks := .later }
def CalendarBackCardSaid : Prop := Claim7.holds Tryd.pinned (.plain (OpenSpec.ofChange calendarBackSpec)) calendarBackCard

/-- THE TIED CARD OF 'custodylaw03.CalendarWeeks'. -/
def calendarWeeksCard : Claim7 := { stood := { row := calendarWeeksRow, standIns := [], harness := (true, "8e2fd52bf9380c88c308b2764d672f0938cec31fb166156a94d586f527ac7227"), looks := true }, kinds := [], alts := [], laidByText := true, laidKinds := [.data], laidTests := true, laidLooks := .later }
def CalendarWeeksCardSaid : Prop := Claim7.holds Tryd.pinned (.plain (OpenSpec.ofChange calendarWeeksSpec)) calendarWeeksCard

/-- THE SECOND FORM's CARD OF 'custodylaw03.CalendarDates'. -/
def calendarDatesUptoCard : Claim7 := { stood := { row := calendarDatesUptoRow, standIns := [], harness := (true, "8e2fd52bf9380c88c308b2764d672f0938cec31fb166156a94d586f527ac7227"), looks := true }, kinds := [], alts := [], laidByText := true, laidKinds := [.data, .handle], laidTests := true, laidLooks := .later }
def CalendarDatesUptoCardSaid : Prop := Claim7.holds Tryd.pinned (.plain (OpenSpec.upto calendarDatesSpec)) calendarDatesUptoCard

/-- THE SECOND FORM's CARD OF 'custodylaw03.CalendarReckons'. -/
def calendarReckonsUptoCard : Claim7 := { stood := { row := calendarReckonsUptoRow, standIns := [], harness := (true, "8e2fd52bf9380c88c308b2764d672f0938cec31fb166156a94d586f527ac7227"), looks := true }, kinds := [], alts := [], laidByText := true, laidKinds := [.data, .handle], laidTests := true, laidLooks := .later }
def CalendarReckonsUptoCardSaid : Prop := Claim7.holds Tryd.pinned (.plain (OpenSpec.upto calendarReckonsSpec)) calendarReckonsUptoCard

/-- THE SECOND FORM's CARD OF 'custodylaw03.CalendarPlays'. -/
def calendarPlaysUptoCard : Claim7 := { stood := { row := calendarPlaysUptoRow, standIns := [], harness := (true, "8e2fd52bf9380c88c308b2764d672f0938cec31fb166156a94d586f527ac7227"), looks := true }, kinds := [], alts := [], laidByText := true, laidKinds := [.data, .handle], laidTests := true, laidLooks := .later }
def CalendarPlaysUptoCardSaid : Prop := Claim7.holds Tryd.pinned (.plain (OpenSpec.upto calendarPlaysSpec)) calendarPlaysUptoCard

/-- THE SECOND FORM's CARD OF 'custodylaw03.CalendarTarget'. -/
def calendarTargetUptoCard : Claim7 := { stood := { row := calendarTargetUptoRow, standIns := [], harness := (true, "8e2fd52bf9380c88c308b2764d672f0938cec31fb166156a94d586f527ac7227"), looks := true }, kinds := [], alts := [], laidByText := true, laidKinds := [.data, .handle], laidTests := true, laidLooks := .later }
def CalendarTargetUptoCardSaid : Prop := Claim7.holds Tryd.pinned (.plain (OpenSpec.upto calendarTargetSpec)) calendarTargetUptoCard

/-- THE SECOND FORM's CARD OF 'custodylaw03.CalendarBack'. -/
def calendarBackUptoCard : Claim7 := { stood := { row := calendarBackUptoRow, standIns := [], harness := (true, "8e2fd52bf9380c88c308b2764d672f0938cec31fb166156a94d586f527ac7227"), looks := true }, kinds := [], alts := [], laidByText := true, laidKinds := [.data], laidTests := true, laidLooks := .later }
def CalendarBackUptoCardSaid : Prop := Claim7.holds Tryd.pinned (.plain (OpenSpec.upto calendarBackSpec)) calendarBackUptoCard

/-- THE SECOND FORM's CARD OF 'custodylaw03.CalendarWeeks'. -/
def calendarWeeksUptoCard : Claim7 := { stood := { row := calendarWeeksUptoRow, standIns := [], harness := (true, "8e2fd52bf9380c88c308b2764d672f0938cec31fb166156a94d586f527ac7227"), looks := true }, kinds := [], alts := [], laidByText := true, laidKinds := [.data], laidTests := true, laidLooks := .later }
def CalendarWeeksUptoCardSaid : Prop := Claim7.holds Tryd.pinned (.plain (OpenSpec.upto calendarWeeksSpec)) calendarWeeksUptoCard
end Rows
end Go.Proofs.YtiajkglpmpemaaaDoor
