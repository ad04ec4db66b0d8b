/-
  My own text: what the rows of this layer share: the table of the sums beside the errors' type, or alone.
-/
import Derived.Test.YthalmfbcdkihgaaDoorRow
import Derived.Test.YthalmfbcdkihgaaDoorWS1
import Derived.Stop.LaidErr
import Derived.Lib.LaidTab
namespace Go.Proofs.YthalmfbcdkihgaaDoor
open Go.ChangeShapes Go.WideShapes Go.RowKit

def tTab : List Int := (List.range 16).map fun i : Nat => (tab4 i : Int)
theorem Tryd.tuNamed : Tryd.prog.globalNamed "custody/wire.turns" = some 1 := by kernel_rfl
theorem turns_datum : (Rows.laid_custody_wire_turns : DataW Unit) = Lib.tabData .u32 tTab := by kernel_rfl
theorem Tryd.typeTurns : (Tryd.prog.globals[1]?).map (·.type) = some 117 := by kernel_rfl
theorem Tryd.cellsTurns : Tryd.prog.cellsOf 117 = 16 := by kernel_rfl
theorem Tryd.cellsU32 : Tryd.prog.cellsOf 45 = 1 := by kernel_rfl
def laidT : List (String × DataW Unit) := [("custody/wire.turns", Rows.laid_custody_wire_turns)]
theorem tab_of_laid {W : World} (h : laidMet Tryd.prog laidT W) : Tab W := by
  have h3 : laidMet Tryd.prog [("custody/wire.turns", Rows.laid_custody_wire_turns)] W := h
  rw [turns_datum] at h3
  have ht := Lib.tabIs_of_head Tryd.tuNamed Tryd.typeTurns Tryd.underlying117 Tryd.underlying45 Tryd.cellsU32 Tryd.cellsTurns h3
  intro i hi
  have hc := Lib.TabIs.cell ht Tryd.tuNamed i (by simpa [tTab] using hi)
  have e : tTab[i]?.getD 0 = (tab4 i : Int) := by
    unfold tTab
    rw [List.getElem?_map, List.getElem?_range hi]
    rfl
  simpa [e] using hc
theorem door_metT (os : Os) (args : Array Value) : laidMetH Tryd.prog laidT ((World.doorLaid Tryd.prog 400 os).forCall (fun _ _ => 0) ⟨#[], args, []⟩).memory :=
  laidMet_of_run' 8 (by kernel_rfl) (by kernel_rfl)
theorem tab_of_laidT {W : World} (h : laidMetH Tryd.prog laidT W) : Tab W := tab_of_laid h
def laidET : List (String × DataW Unit) := [("errors.errorType", Rows.laid_errors_errorType), ("custody/wire.turns", Rows.laid_custody_wire_turns)]
theorem door_metET (os : Os) (args : Array Value) : laidMetH Tryd.prog laidET ((World.doorLaid Tryd.prog 400 os).forCall (fun _ _ => 0) ⟨#[], args, []⟩).memory :=
  laidMetH_of_parts (laidMet_of_run' 8 (by kernel_rfl) (by kernel_rfl)) (by kernel_rfl)
theorem both_of_laidET {W : World} (h : laidMetH Tryd.prog laidET W) : ErrType W ∧ Tab W := by
  have h' : laidMet Tryd.prog laidT W ∧ handlesMet Tryd.prog laidE W := h
  exact ⟨errType_of_laid (show laidMet Tryd.prog [] W ∧ handlesMet Tryd.prog laidE W from ⟨laidMet_nil _ _, h'.2⟩), tab_of_laid h'.1⟩
end Go.Proofs.YthalmfbcdkihgaaDoor
