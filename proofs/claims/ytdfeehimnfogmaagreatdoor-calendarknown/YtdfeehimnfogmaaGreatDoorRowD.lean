/-
  My own text: what the calendar's rows share: the months' lengths beside the errors' type, or alone.
-/
import Derived.Test.YtdfeehimnfogmaaGreatDoorRow
import Derived.Test.YtdfeehimnfogmaaGreatDoorD6
import Derived.Test.YtdfeehimnfogmaaGreatDoorRecs
import Derived.Stop.LaidErr
import Derived.Lib.LaidTab
namespace Go.Proofs.YtdfeehimnfogmaaGreatDoor
open Go.ChangeShapes Go.WideShapes Go.RowKit

def laidDE : List (String × DataW Unit) := [("custody/calendar.monthDays", Rows.laid_custody_calendar_monthDays), ("errors.errorType", Rows.laid_errors_errorType)]
def laidD : List (String × DataW Unit) := [("custody/calendar.monthDays", Rows.laid_custody_calendar_monthDays)]
theorem door_metDE (os : Os) (args : Array Value) : laidMetH Tryz.prog laidDE ((World.doorLaid Tryz.prog 400 os).forCall (fun _ _ => 0) ⟨#[], args, []⟩).memory :=
  laidMetH_of_parts (laidMet_of_run' 8 (by kernel_rfl) (by kernel_rfl)) (by kernel_rfl)
theorem months_datum : (Rows.laid_custody_calendar_monthDays : DataW Unit) = Lib.tabData .i64 mTab := by kernel_rfl
theorem Tryz.typeMonths : (Tryz.prog.globals[0]?).map (·.type) = some 86 := by kernel_rfl
theorem Tryz.cellsMonths : Tryz.prog.cellsOf 86 = 12 := by kernel_rfl
theorem Tryz.cellsI : Tryz.prog.cellsOf 3 = 1 := by kernel_rfl
theorem months_of_laid {W : World} (h : laidMet Tryz.prog laidD W) : MDays W := by
  have h3 : laidMet Tryz.prog [("custody/calendar.monthDays", Rows.laid_custody_calendar_monthDays)] W := h
  rw [months_datum] at h3
  exact Lib.tabIs_of_head Tryz.mdNamed Tryz.typeMonths Tryz.underlying86 Tryz.underlying3 Tryz.cellsI Tryz.cellsMonths h3
theorem lies_of_laidDE {W : World} (h : laidMetH Tryz.prog laidDE W) : Lies W := by
  have h' : laidMet Tryz.prog laidD W ∧ handlesMet Tryz.prog laidE W := h
  exact ⟨errType_of_laid (show laidMet Tryz.prog [] W ∧ handlesMet Tryz.prog laidE W from ⟨laidMet_nil _ _, h'.2⟩), months_of_laid h'.1⟩
theorem door_metD (os : Os) (args : Array Value) : laidMetH Tryz.prog laidD ((World.doorLaid Tryz.prog 400 os).forCall (fun _ _ => 0) ⟨#[], args, []⟩).memory :=
  laidMet_of_run' 8 (by kernel_rfl) (by kernel_rfl)
theorem months_of_laidD {W : World} (h : laidMetH Tryz.prog laidD W) : MDays W := months_of_laid h
theorem Tryz.cellsDate : Tryz.prog.cellsOf 25 = 3 := by kernel_rfl
theorem Tryz.cellsReckon : Tryz.prog.cellsOf 44 = 5 := by kernel_rfl
end Go.Proofs.YtdfeehimnfogmaaGreatDoor
