/-
  My own text: what the rows share that list the head office's branch beside the errors' type.
-/
import Derived.Test.YtkpmmcekcpbilaaDoorRow
import Derived.Test.YtkpmmcekcpbilaaDoorC10c
import Derived.Stop.LaidErr
import Derived.Lib.LaidTab
namespace Go.Proofs.YtkpmmcekcpbilaaDoor
open Go.ChangeShapes Go.WideShapes Go.RowKit

def laidHE : List (String × DataW Unit) := [("custody/codes.headOffice", Rows.laid_custody_codes_headOffice), ("errors.errorType", Rows.laid_errors_errorType)]
theorem errType_of_laidHE {W : World} (h : laidMetH Tryd.prog laidHE W) : ErrType W := by
  have h' : laidMet Tryd.prog [("custody/codes.headOffice", Rows.laid_custody_codes_headOffice)] W ∧ handlesMet Tryd.prog laidE W := h
  exact errType_of_laid (show laidMet Tryd.prog [] W ∧ handlesMet Tryd.prog laidE W from ⟨laidMet_nil _ _, h'.2⟩)
theorem door_metHE (os : Os) (args : Array Value) : laidMetH Tryd.prog laidHE ((World.doorLaid Tryd.prog 400 os).forCall (fun _ _ => 0) ⟨#[], args, []⟩).memory :=
  laidMetH_of_parts (laidMet_of_run' 8 (by kernel_rfl) (by kernel_rfl)) (by kernel_rfl)
theorem office_datum : (Rows.laid_custody_codes_headOffice : DataW Unit) = Lib.tabData .u8 [88, 88, 88] := by kernel_rfl
theorem Tryd.typeOffice : (Tryd.prog.globals[0]?).map (·.type) = some 66 := by kernel_rfl
theorem Tryd.cellsOffice : Tryd.prog.cellsOf 66 = 3 := by kernel_rfl
theorem Tryd.officeNamed : Tryd.prog.globalNamed "custody/codes.headOffice" = some 0 := by kernel_rfl
theorem headOffice_of_laid {W : World} (h : laidMetH Tryd.prog laidHE W) : HeadOffice W := by
  have h' : laidMet Tryd.prog [("custody/codes.headOffice", Rows.laid_custody_codes_headOffice)] W ∧ handlesMet Tryd.prog laidE W := h
  have h3 := h'.1
  rw [office_datum] at h3
  have ht := Lib.tabIs_of_head Tryd.officeNamed Tryd.typeOffice Tryd.underlying66 Tryd.underlying5 Tryd.cells8 Tryd.cellsOffice h3
  intro j v hv
  have hj : j < 3 := by
    have := (List.getElem?_eq_some_iff.1 hv).1
    simpa [cel] using this
  have hc := ht.cell Tryd.officeNamed j (by simpa using hj)
  rw [Nat.zero_add, hc]
  match j, hj, hv with
  | 0, _, hv => simp [cel] at hv; subst hv; rfl
  | 1, _, hv => simp [cel] at hv; subst hv; rfl
  | 2, _, hv => simp [cel] at hv; subst hv; rfl
end Go.Proofs.YtkpmmcekcpbilaaDoor
