/-
  NARROWER THAN 'FOR EVERY INPUT', by the rows' own cells (each row's printed sentence says how): CalendarDates: laid · CalendarReckons: laid · CalendarPlays: laid · CalendarTarget: laid · CalendarBack: laid · CalendarWeeks: laid.
  DERIVED. THE GIVEN ROWS OF THIS SEAT. 6 by the template 'for every input the law returns true; each argument reads behind the call as it read before'; 0 by the template 'total and deterministic' (their statements: YtiajkglpmpemaaaDoorTotals.lean).
  GIVEN WITH THE SEED: the statements are not yours to turn. If you find one false, say at which input.
  Laid BY PROGRAM, IN A SANDBOX (cutbox-rows.mjs): the forced cells as the released guide's own fill.sh prints them over the translation d07cfe83ca4c9bbe… (all of the seat's roots in one cut). By AI agents, Wed Nov 11 2026. No macro, syntax, notation, axiom, sorry.
-/
import Derived.Test.YtiajkglpmpemaaaDoorChecked
import GoSem.Claim
import GoSem.ClaimJoined
import GoSem.ClaimMapViews
import Derived.JoinedTies
import Derived.KernelRfl
namespace Go.Proofs.YtiajkglpmpemaaaDoor
/- THE CELL 'sum', in the pinned program and in every row, IS THE sha256 OF THE DUMP (.gsa) THAT YtiajkglpmpemaaaDoorProg.lean LOADS. Nothing in Lean hashes anything: it is a label: what it is worth is what the hold of that sum in a sandbox is worth. -/
noncomputable def Tryd.pinned : Pinned := { name := "ytiajkglpmpemaaadoor", sum := "d07cfe83ca4c9bbe54dc049e07842804e665bbd5920381b78551f63c681de3a3", checked := Tryd.checked }
namespace Rows
def none {H : Type} : Left H := { results := [], args := [] }

/- WHAT THE LISTED PACKAGE-LEVEL VARIABLES READ AS WHEN THE CALL BEGINS. Each datum BY PROGRAM (the guide's laid-datum.mjs) off the statement by which the dump's own 'gosem.cut.vars' lays the variable. In a bare row this is a premise. The card (YtiajkglpmpemaaaDoorCards.lean) ties it to the program's text. -/
def laid_custody_calendar_monthDays {H : Type} : DataW H := .agg [.lit (.int .i64 31), .lit (.int .i64 28), .lit (.int .i64 31), .lit (.int .i64 30), .lit (.int .i64 31), .lit (.int .i64 30), .lit (.int .i64 31), .lit (.int .i64 31), .lit (.int .i64 30), .lit (.int .i64 31), .lit (.int .i64 30), .lit (.int .i64 31)]
def laid_errors_errorType {H : Type} : DataW H := .iface "internal/reflectlite.rtype" (.agg [.ptr (.lit (.string [101, 114, 114, 111, 114]))])

/-- 'custodylaw03.CalendarDates': WHATEVER THE INPUT: true; the input reads as it did. -/
def calendarDatesSpec : ChangeSpec := { name := "calendarDates", fn := fun _ => fun
  | [d1, d2] => { results := [.lit (.bool true)], args := [d1, d2] }
  | _ => none }
def calendarDatesRow : OpenClaim := { program := "ytiajkglpmpemaaadoor", sum := "d07cfe83ca4c9bbe54dc049e07842804e665bbd5920381b78551f63c681de3a3", func := "custody/custodylaw03.CalendarDates", spec := "calendarDates", inPlace := ["internal/reflectlite.TypeOf", "internal/reflectlite.ValueOf", "(internal/reflectlite.Value).Type", "(internal/reflectlite.Value).IsNil", "(internal/reflectlite.Value).Elem", "(internal/reflectlite.Value).Set"], unfollowed := true, recurses := true, named := ["custody/calendar.monthDays", "errors.errorType"], apart := false, laid := [("custody/calendar.monthDays", laid_custody_calendar_monthDays), ("errors.errorType", laid_errors_errorType)] }
def CalendarDatesSaid : Prop := calendarDatesRow.holds Tryd.pinned (OpenSpec.ofChange calendarDatesSpec)

/-- ITS FALSE NEIGHBOUR: 'it returns false'. Refute it at one input. -/
def calendarDatesWrong : ChangeSpec := { name := "calendarDates", fn := fun _ => fun
  | [d1, d2] => { results := [.lit (.bool false)], args := [d1, d2] }
  | _ => none }
def CalendarDatesWrongFalsely : Prop := calendarDatesRow.holds Tryd.pinned (OpenSpec.ofChange calendarDatesWrong)

/-- 'custodylaw03.CalendarReckons': WHATEVER THE INPUT: true; the input reads as it did. -/
def calendarReckonsSpec : ChangeSpec := { name := "calendarReckons", fn := fun _ => fun
  | [d] => { results := [.lit (.bool true)], args := [d] }
  | _ => none }
def calendarReckonsRow : OpenClaim := { program := "ytiajkglpmpemaaadoor", sum := "d07cfe83ca4c9bbe54dc049e07842804e665bbd5920381b78551f63c681de3a3", func := "custody/custodylaw03.CalendarReckons", spec := "calendarReckons", inPlace := ["internal/reflectlite.TypeOf", "internal/reflectlite.ValueOf", "(internal/reflectlite.Value).Type", "(internal/reflectlite.Value).IsNil", "(internal/reflectlite.Value).Elem", "(internal/reflectlite.Value).Set"], unfollowed := true, recurses := true, named := ["custody/calendar.monthDays", "errors.errorType"], apart := false, laid := [("custody/calendar.monthDays", laid_custody_calendar_monthDays), ("errors.errorType", laid_errors_errorType)] }
def CalendarReckonsSaid : Prop := calendarReckonsRow.holds Tryd.pinned (OpenSpec.ofChange calendarReckonsSpec)

/-- ITS FALSE NEIGHBOUR: 'it returns false'. Refute it at one input. -/
def calendarReckonsWrong : ChangeSpec := { name := "calendarReckons", fn := fun _ => fun
  | [d] => { results := [.lit (.bool false)], args := [d] }
  | _ => none }
def CalendarReckonsWrongFalsely : Prop := calendarReckonsRow.holds Tryd.pinned (OpenSpec.ofChange calendarReckonsWrong)

/-- 'custodylaw03.CalendarPlays': WHATEVER THE INPUT: true; the input reads as it did. -/
def calendarPlaysSpec : ChangeSpec := { name := "calendarPlays", fn := fun _ => fun
  | [d1, d2, d3] => { results := [.lit (.bool true)], args := [d1, d2, d3] }
  | _ => none }
def calendarPlaysRow : OpenClaim := { program := "ytiajkglpmpemaaadoor", sum := "d07cfe83ca4c9bbe54dc049e07842804e665bbd5920381b78551f63c681de3a3", func := "custody/custodylaw03.CalendarPlays", spec := "calendarPlays", inPlace := ["internal/reflectlite.TypeOf", "internal/reflectlite.ValueOf", "(internal/reflectlite.Value).Type", "(internal/reflectlite.Value).IsNil", "(internal/reflectlite.Value).Elem", "(internal/reflectlite.Value).Set"], unfollowed := true, recurses := true, named := ["custody/calendar.monthDays", "errors.errorType"], apart := false, laid := [("custody/calendar.monthDays", laid_custody_calendar_monthDays), ("errors.errorType", laid_errors_errorType)] }
def CalendarPlaysSaid : Prop := calendarPlaysRow.holds Tryd.pinned (OpenSpec.ofChange calendarPlaysSpec)

/-- ITS FALSE NEIGHBOUR: 'it returns false'. Refute it at one input. -/
def calendarPlaysWrong : ChangeSpec := { name := "calendarPlays", fn := fun _ => fun
  | [d1, d2, d3] => { results := [.lit (.bool false)], args := [d1, d2, d3] }
  | _ => none }
def CalendarPlaysWrongFalsely : Prop := calendarPlaysRow.holds Tryd.pinned (OpenSpec.ofChange calendarPlaysWrong)

/-- 'custodylaw03.CalendarTarget': WHATEVER THE INPUT: true; the input reads as it did. -/
def calendarTargetSpec : ChangeSpec := { name := "calendarTarget", fn := fun _ => fun
  | [d1, d2, d3] => { results := [.lit (.bool true)], args := [d1, d2, d3] }
  | _ => none }
def calendarTargetRow : OpenClaim := { program := "ytiajkglpmpemaaadoor", sum := "d07cfe83ca4c9bbe54dc049e07842804e665bbd5920381b78551f63c681de3a3", func := "custody/custodylaw03.CalendarTarget", spec := "calendarTarget", inPlace := ["internal/reflectlite.TypeOf", "internal/reflectlite.ValueOf", "(internal/reflectlite.Value).Type", "(internal/reflectlite.Value).IsNil", "(internal/reflectlite.Value).Elem", "(internal/reflectlite.Value).Set"], unfollowed := true, recurses := true, named := ["custody/calendar.monthDays", "errors.errorType"], apart := false, laid := [("custody/calendar.monthDays", laid_custody_calendar_monthDays), ("errors.errorType", laid_errors_errorType)] }
def CalendarTargetSaid : Prop := calendarTargetRow.holds Tryd.pinned (OpenSpec.ofChange calendarTargetSpec)

/-- ITS FALSE NEIGHBOUR: 'it returns false'. Refute it at one input. -/
def calendarTargetWrong : ChangeSpec := { name := "calendarTarget", fn := fun _ => fun
  | [d1, d2, d3] => { results := [.lit (.bool false)], args := [d1, d2, d3] }
  | _ => none }
def CalendarTargetWrongFalsely : Prop := calendarTargetRow.holds Tryd.pinned (OpenSpec.ofChange calendarTargetWrong)

/-- 'custodylaw03.CalendarBack': WHATEVER THE INPUT: true; the input reads as it did. -/
def calendarBackSpec : ChangeSpec := { name := "calendarBack", fn := fun _ => fun
  | [d1, d2, d3] => { results := [.lit (.bool true)], args := [d1, d2, d3] }
  | _ => none }
def calendarBackRow : OpenClaim := { program := "ytiajkglpmpemaaadoor", sum := "d07cfe83ca4c9bbe54dc049e07842804e665bbd5920381b78551f63c681de3a3", func := "custody/custodylaw03.CalendarBack", spec := "calendarBack", named := ["custody/calendar.monthDays"], apart := false, laid := [("custody/calendar.monthDays", laid_custody_calendar_monthDays)] }
def CalendarBackSaid : Prop := calendarBackRow.holds Tryd.pinned (OpenSpec.ofChange calendarBackSpec)

/-- ITS FALSE NEIGHBOUR: 'it returns false'. Refute it at one input. -/
def calendarBackWrong : ChangeSpec := { name := "calendarBack", fn := fun _ => fun
  | [d1, d2, d3] => { results := [.lit (.bool false)], args := [d1, d2, d3] }
  | _ => none }
def CalendarBackWrongFalsely : Prop := calendarBackRow.holds Tryd.pinned (OpenSpec.ofChange calendarBackWrong)

/-- 'custodylaw03.CalendarWeeks': WHATEVER THE INPUT: true; the input reads as it did. -/
def calendarWeeksSpec : ChangeSpec := { name := "calendarWeeks", fn := fun _ => fun
  | [d] => { results := [.lit (.bool true)], args := [d] }
  | _ => none }
def calendarWeeksRow : OpenClaim := { program := "ytiajkglpmpemaaadoor", sum := "d07cfe83ca4c9bbe54dc049e07842804e665bbd5920381b78551f63c681de3a3", func := "custody/custodylaw03.CalendarWeeks", spec := "calendarWeeks", named := ["custody/calendar.monthDays"], apart := false, laid := [("custody/calendar.monthDays", laid_custody_calendar_monthDays)] }
def CalendarWeeksSaid : Prop := calendarWeeksRow.holds Tryd.pinned (OpenSpec.ofChange calendarWeeksSpec)

/-- ITS FALSE NEIGHBOUR: 'it returns false'. Refute it at one input. -/
def calendarWeeksWrong : ChangeSpec := { name := "calendarWeeks", fn := fun _ => fun
  | [d] => { results := [.lit (.bool false)], args := [d] }
  | _ => none }
def CalendarWeeksWrongFalsely : Prop := calendarWeeksRow.holds Tryd.pinned (OpenSpec.ofChange calendarWeeksWrong)

/- THE SECOND FORM. 'bulk': how many values and letters a reading holds, each counted each time it is reached (what is shared counts as often as it is met; a slice's spare places count too). A statement '..UptoSaid' is the law's where the arguments, and the package variables that the reading takes, are together of bulk at most 1048576: NARROWER than '..Said'. Prove '..Said' where nothing that the law and all that it calls make is longer than what came in: it says more and counts as full. Else prove '..UptoSaid'. A law counts once. -/
mutual
def uptoBulk {H : Type} : DataW H → Nat
  | .lit (.string bytes) => bytes.length + 1
  | .lit _ => 1
  | .nil => 1
  | .ptr d => uptoBulk d + 1
  | .slice elems spare => uptoBulkAll elems + uptoBulkAll spare + 1
  | .agg parts => uptoBulkAll parts + 1
  | .iface _ d => uptoBulk d + 1
  | .map entries => uptoBulkEntries entries + 1
  | .held _ => 1
def uptoBulkAll {H : Type} : List (DataW H) → Nat
  | [] => 0
  | d :: r => uptoBulk d + uptoBulkAll r
def uptoBulkEntries {H : Type} : List (Lit × DataW H) → Nat
  | [] => 0
  | x :: r => uptoBulkEntry x + uptoBulkEntries r
def uptoBulkEntry {H : Type} : Lit × DataW H → Nat
  | (.string bytes, d) => bytes.length + uptoBulk d + 1
  | (_, d) => uptoBulk d + 1
 end
def uptoSmall : (H : Type) → List (DataW H) → Bool := fun _ ds => decide (uptoBulkAll ds ≤ 1048576)
def OpenSpec.upto (s : _root_.Go.ChangeSpec) : _root_.Go.OpenSpec := { _root_.Go.OpenSpec.ofChange s with cond := some uptoSmall }

/-- 'custodylaw03.CalendarDates', WHERE WHAT IT READS IS OF BULK AT MOST 1048576: true; the input reads as it did. -/
def calendarDatesUptoRow : OpenClaim := { program := "ytiajkglpmpemaaadoor", sum := "d07cfe83ca4c9bbe54dc049e07842804e665bbd5920381b78551f63c681de3a3", func := "custody/custodylaw03.CalendarDates", spec := "calendarDates", inPlace := ["internal/reflectlite.TypeOf", "internal/reflectlite.ValueOf", "(internal/reflectlite.Value).Type", "(internal/reflectlite.Value).IsNil", "(internal/reflectlite.Value).Elem", "(internal/reflectlite.Value).Set"], unfollowed := true, recurses := true, named := ["custody/calendar.monthDays", "errors.errorType"], apart := false, laid := [("custody/calendar.monthDays", laid_custody_calendar_monthDays), ("errors.errorType", laid_errors_errorType)], narrowed := true }
def CalendarDatesUptoSaid : Prop := calendarDatesUptoRow.holds Tryd.pinned (OpenSpec.upto calendarDatesSpec)

/-- 'custodylaw03.CalendarReckons', WHERE WHAT IT READS IS OF BULK AT MOST 1048576: true; the input reads as it did. -/
def calendarReckonsUptoRow : OpenClaim := { program := "ytiajkglpmpemaaadoor", sum := "d07cfe83ca4c9bbe54dc049e07842804e665bbd5920381b78551f63c681de3a3", func := "custody/custodylaw03.CalendarReckons", spec := "calendarReckons", inPlace := ["internal/reflectlite.TypeOf", "internal/reflectlite.ValueOf", "(internal/reflectlite.Value).Type", "(internal/reflectlite.Value).IsNil", "(internal/reflectlite.Value).Elem", "(internal/reflectlite.Value).Set"], unfollowed := true, recurses := true, named := ["custody/calendar.monthDays", "errors.errorType"], apart := false, laid := [("custody/calendar.monthDays", laid_custody_calendar_monthDays), ("errors.errorType", laid_errors_errorType)], narrowed := true }
def CalendarReckonsUptoSaid : Prop := calendarReckonsUptoRow.holds Tryd.pinned (OpenSpec.upto calendarReckonsSpec)

/-- 'custodylaw03.CalendarPlays', WHERE WHAT IT READS IS OF BULK AT MOST 1048576: true; the input reads as it did. -/
def calendarPlaysUptoRow : OpenClaim := { program := "ytiajkglpmpemaaadoor", sum := "d07cfe83ca4c9bbe54dc049e07842804e665bbd5920381b78551f63c681de3a3", func := "custody/custodylaw03.CalendarPlays", spec := "calendarPlays", inPlace := ["internal/reflectlite.TypeOf", "internal/reflectlite.ValueOf", "(internal/reflectlite.Value).Type", "(internal/reflectlite.Value).IsNil", "(internal/reflectlite.Value).Elem", "(internal/reflectlite.Value).Set"], unfollowed := true, recurses := true, named := ["custody/calendar.monthDays", "errors.errorType"], apart := false, laid := [("custody/calendar.monthDays", laid_custody_calendar_monthDays), ("errors.errorType", laid_errors_errorType)], narrowed := true }
def CalendarPlaysUptoSaid : Prop := calendarPlaysUptoRow.holds Tryd.pinned (OpenSpec.upto calendarPlaysSpec)

/-- 'custodylaw03.CalendarTarget', WHERE WHAT IT READS IS OF BULK AT MOST 1048576: true; the input reads as it did. -/
def calendarTargetUptoRow : OpenClaim := { program := "ytiajkglpmpemaaadoor", sum := "d07cfe83ca4c9bbe54dc049e07842804e665bbd5920381b78551f63c681de3a3", func := "custody/custodylaw03.CalendarTarget", spec := "calendarTarget", inPlace := ["internal/reflectlite.TypeOf", "internal/reflectlite.ValueOf", "(internal/reflectlite.Value).Type", "(internal/reflectlite.Value).IsNil", "(internal/reflectlite.Value).Elem", "(internal/reflectlite.Value).Set"], unfollowed := true, recurses := true, named := ["custody/calendar.monthDays", "errors.errorType"], apart := false, laid := [("custody/calendar.monthDays", laid_custody_calendar_monthDays), ("errors.errorType", laid_errors_errorType)], narrowed := true }
def CalendarTargetUptoSaid : Prop := calendarTargetUptoRow.holds Tryd.pinned (OpenSpec.upto calendarTargetSpec)

/-- 'custodylaw03.CalendarBack', WHERE WHAT IT READS IS OF BULK AT MOST 1048576: true; the input reads as it did. -/
def calendarBackUptoRow : OpenClaim := { program := "ytiajkglpmpemaaadoor", sum := "d07cfe83ca4c9bbe54dc049e07842804e665bbd5920381b78551f63c681de3a3", func := "custody/custodylaw03.CalendarBack", spec := "calendarBack", named := ["custody/calendar.monthDays"], apart := false, laid := [("custody/calendar.monthDays", laid_custody_calendar_monthDays)], narrowed := true }
def CalendarBackUptoSaid : Prop := calendarBackUptoRow.holds Tryd.pinned (OpenSpec.upto calendarBackSpec)

/-- 'custodylaw03.CalendarWeeks', WHERE WHAT IT READS IS OF BULK AT MOST 1048576: true; the input reads as it did. -/
def calendarWeeksUptoRow : OpenClaim := { program := "ytiajkglpmpemaaadoor", sum := "d07cfe83ca4c9bbe54dc049e07842804e665bbd5920381b78551f63c681de3a3", func := "custody/custodylaw03.CalendarWeeks", spec := "calendarWeeks", named := ["custody/calendar.monthDays"], apart := false, laid := [("custody/calendar.monthDays", laid_custody_calendar_monthDays)], narrowed := true }
def CalendarWeeksUptoSaid : Prop := calendarWeeksUptoRow.holds Tryd.pinned (OpenSpec.upto calendarWeeksSpec)

end Rows
end Go.Proofs.YtiajkglpmpemaaaDoor
