/-
  My own text: the law on texts: its walk, its walk.
-/
import Derived.Test.YthmbfdjbjljaiaaGreatDoorRefParse
import Derived.SizedLaws
import Derived.Stop.LaidErr
import Derived.ShutString
namespace Go.Proofs.YthmbfdjbjljaiaaGreatDoor
open Go.ChangeShapes Go.WideShapes Go.ChangeAt Go.RowKit
open Go.ChangeMaps (open_string shut_string)

set_option maxHeartbeats 1000000 in
theorem texts_law (n : Int) (l : List UInt8) (s : Int) (w : World) (hE : ErrType w) (hP : Pow w) (hn : n ≤ 9223372036854775807) (hl : l.length ≤ 140737488355328) :
    Calls Tryz.prog 21 #[.int .i64 n, .string ⟨l.toArray⟩, .int .i64 s] w fun e w' => e = .returned (.bool true) ∧ Below w.heap.size w w' := by
  have e1 := fmtE_lo n s
  have e2 := pE_lo l s
  go_enter Tryz.func21, Tryz.ntmps21
  go_wp2_with fail
  refine (refFormat_any n s _ hn).mono ?_
  rintro e w1 ⟨rfl, hb1⟩
  go_wp2_with fail
  refine (refParse_any l s _ hl).mono ?_
  rintro e w2 ⟨rfl, rfl⟩
  go_wp2_with fail
  refine (format_any n s _ (hP.later hb1) hn).mono ?_
  rintro e w3 ⟨rfl, hb3⟩
  have hB3 := hb1.trans (hb3.mono hb1.size)
  go_wp2_with fail
  refine (parse_any l s _ hl).mono ?_
  rintro e w4 ⟨rfl, rfl⟩
  go_wp2_with fail
  refine (plain_errV _ _ _ e1.1 e1.2 (hE.below hB3)).mono ?_
  rintro e w5 ⟨rfl, hb5⟩
  have hB5 := hB3.trans (hb5.mono hB3.size)
  go_wp2_with fail
  refine (plain_errV _ _ _ e2.1 e2.2 (hE.below hB5)).mono ?_
  rintro e w6 ⟨rfl, hb6⟩
  go_wp2_with fail
  go_ret
  exact ⟨rfl, hB5.trans (hb6.mono hB5.size)⟩

def laid4 : List (String × DataW Unit) := [("math/bits.deBruijn32tab", Rows.laid_math_bits_deBruijn32tab), ("math/bits.deBruijn64tab", Rows.laid_math_bits_deBruijn64tab), ("internal/strconv.uint64pow10", Rows.laid_internal_strconv_uint64pow10), ("errors.errorType", Rows.laid_errors_errorType)]
theorem errType_of_laid4 {W : World} (h : laidMetH Tryz.prog laid4 W) : ErrType W := by
  have h' : laidMet Tryz.prog [("math/bits.deBruijn32tab", Rows.laid_math_bits_deBruijn32tab), ("math/bits.deBruijn64tab", Rows.laid_math_bits_deBruijn64tab), ("internal/strconv.uint64pow10", Rows.laid_internal_strconv_uint64pow10)] W ∧ handlesMet Tryz.prog laidE W := h
  exact errType_of_laid (show laidMet Tryz.prog [] W ∧ handlesMet Tryz.prog laidE W from ⟨laidMet_nil _ _, h'.2⟩)
theorem pow_datum : (Rows.laid_internal_strconv_uint64pow10 : DataW Unit) = Lib.tabData .u64 Lib.pow10Tab := by kernel_rfl
theorem Tryz.cells64 : Tryz.prog.cellsOf 66 = 1 := by kernel_rfl
theorem Tryz.cellsPow : Tryz.prog.cellsOf 176 = 20 := by kernel_rfl
theorem Tryz.typePow : (Tryz.prog.globals[3]?).map (·.type) = some 176 := by kernel_rfl
theorem pow_of_laid4 {W : World} (h : laidMetH Tryz.prog laid4 W) : Pow W := by
  have h' : laidMet Tryz.prog [("math/bits.deBruijn32tab", Rows.laid_math_bits_deBruijn32tab), ("math/bits.deBruijn64tab", Rows.laid_math_bits_deBruijn64tab), ("internal/strconv.uint64pow10", Rows.laid_internal_strconv_uint64pow10)] W ∧ handlesMet Tryz.prog laidE W := h
  have h3 := h'.1.tail.tail
  rw [pow_datum] at h3
  exact Lib.tabIs_of_head (show Tryz.prog.globalNamed "internal/strconv.uint64pow10" = some 3 by kernel_rfl) Tryz.typePow Tryz.underlying176 Tryz.underlying66 Tryz.cells64 Tryz.cellsPow h3
theorem door_met4 (os : Os) (args : Array Value) : laidMetH Tryz.prog laid4 ((World.doorLaid Tryz.prog 400 os).forCall (fun _ _ => 0) ⟨#[], args, []⟩).memory :=
  laidMetH_of_parts (laidMet_of_run' 8 (by kernel_rfl) (by kernel_rfl)) (by kernel_rfl)
end Go.Proofs.YthmbfdjbjljaiaaGreatDoor
