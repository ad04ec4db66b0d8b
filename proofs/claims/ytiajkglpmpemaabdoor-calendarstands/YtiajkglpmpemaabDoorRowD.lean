/-
  My own text: what the calendar's rows share: the months' lengths beside the errors' type, or alone.
-/
import Derived.Test.YtiajkglpmpemaabDoorRow
import Derived.Test.YtiajkglpmpemaabDoorD6
import Derived.Test.YtiajkglpmpemaabDoorRecs
import Derived.Stop.LaidErr
import Derived.Lib.LaidTab
namespace Go.Proofs.YtiajkglpmpemaabDoor
open Go.ChangeShapes Go.WideShapes Go.RowKit

def laidD : List (String × DataW Unit) := [("custody/calendar.monthDays", Rows.laid_custody_calendar_monthDays)]
theorem months_datum : (Rows.laid_custody_calendar_monthDays : DataW Unit) = Lib.tabData .i64 mTab := by kernel_rfl
theorem Tryd.typeMonths : (Tryd.prog.globals[0]?).map (·.type) = some 61 := by kernel_rfl
theorem Tryd.cellsMonths : Tryd.prog.cellsOf 61 = 12 := by kernel_rfl
theorem Tryd.cellsI : Tryd.prog.cellsOf 3 = 1 := by kernel_rfl
theorem months_of_laid {W : World} (h : laidMet Tryd.prog laidD W) : MDays W := by
  have h3 : laidMet Tryd.prog [("custody/calendar.monthDays", Rows.laid_custody_calendar_monthDays)] W := h
  rw [months_datum] at h3
  exact Lib.tabIs_of_head Tryd.mdNamed Tryd.typeMonths Tryd.underlying61 Tryd.underlying3 Tryd.cellsI Tryd.cellsMonths h3
theorem door_metD (os : Os) (args : Array Value) : laidMetH Tryd.prog laidD ((World.doorLaid Tryd.prog 400 os).forCall (fun _ _ => 0) ⟨#[], args, []⟩).memory :=
  laidMet_of_run' 8 (by kernel_rfl) (by kernel_rfl)
theorem months_of_laidD {W : World} (h : laidMetH Tryd.prog laidD W) : MDays W := months_of_laid h
theorem Tryd.cellsDate : Tryd.prog.cellsOf 39 = 3 := by kernel_rfl
end Go.Proofs.YtiajkglpmpemaabDoor
