/-
  My own text: what the calendar's rows share: the months' lengths beside the errors' type, or alone.
-/
import Derived.Test.YtiajkglpmpemaaaDoorRow
import Derived.Test.YtiajkglpmpemaaaDoorD6
import Derived.Test.YtiajkglpmpemaaaDoorRecs
import Derived.Stop.LaidErr
import Derived.Lib.LaidTab
namespace Go.Proofs.YtiajkglpmpemaaaDoor
open Go.ChangeShapes Go.WideShapes Go.RowKit

def laidDE : List (String × DataW Unit) := [("custody/calendar.monthDays", Rows.laid_custody_calendar_monthDays), ("errors.errorType", Rows.laid_errors_errorType)]
def laidD : List (String × DataW Unit) := [("custody/calendar.monthDays", Rows.laid_custody_calendar_monthDays)]
theorem door_metDE (os : Os) (args : Array Value) : laidMetH Tryd.prog laidDE ((World.doorLaid Tryd.prog 400 os).forCall (fun _ _ => 0) ⟨#[], args, []⟩).memory :=
  laidMetH_of_parts (laidMet_of_run' 8 (by kernel_rfl) (by kernel_rfl)) (by kernel_rfl)
theorem months_datum : (Rows.laid_custody_calendar_monthDays : DataW Unit) = Lib.tabData .i64 mTab := by kernel_rfl
theorem Tryd.typeMonths : (Tryd.prog.globals[1]?).map (·.type) = some 101 := by kernel_rfl
theorem Tryd.cellsMonths : Tryd.prog.cellsOf 101 = 12 := by kernel_rfl
theorem Tryd.cellsI : Tryd.prog.cellsOf 3 = 1 := by kernel_rfl
theorem months_of_laid {W : World} (h : laidMet Tryd.prog laidD W) : MDays W := by
  have h3 : laidMet Tryd.prog [("custody/calendar.monthDays", Rows.laid_custody_calendar_monthDays)] W := h
  rw [months_datum] at h3
  exact Lib.tabIs_of_head Tryd.mdNamed Tryd.typeMonths Tryd.underlying101 Tryd.underlying3 Tryd.cellsI Tryd.cellsMonths h3
theorem lies_of_laidDE {W : World} (h : laidMetH Tryd.prog laidDE W) : Lies W := by
  have h' : laidMet Tryd.prog laidD W ∧ handlesMet Tryd.prog laidE W := h
  exact ⟨errType_of_laid (show laidMet Tryd.prog [] W ∧ handlesMet Tryd.prog laidE W from ⟨laidMet_nil _ _, h'.2⟩), months_of_laid h'.1⟩
theorem door_metD (os : Os) (args : Array Value) : laidMetH Tryd.prog laidD ((World.doorLaid Tryd.prog 400 os).forCall (fun _ _ => 0) ⟨#[], args, []⟩).memory :=
  laidMet_of_run' 8 (by kernel_rfl) (by kernel_rfl)
theorem months_of_laidD {W : World} (h : laidMetH Tryd.prog laidD W) : MDays W := months_of_laid h
theorem Tryd.cellsDate : Tryd.prog.cellsOf 23 = 3 := by kernel_rfl
theorem Tryd.cellsReckon : Tryd.prog.cellsOf 43 = 5 := by kernel_rfl
end Go.Proofs.YtiajkglpmpemaaaDoor
