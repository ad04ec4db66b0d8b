/-
  My own text: the law on products over a divisor: its walk, its walk.
-/
import Derived.Test.YthmbfdjbjljaiaaGreatDoorRefMulDiv
import Derived.Carry
namespace Go.Proofs.YthmbfdjbjljaiaaGreatDoor
open Go.ChangeShapes Go.WideShapes Go.RowKit

set_option maxHeartbeats 1000000 in
theorem mulDiv_law (a b c mode : Int) (w : World) (hE : ErrType w) (a1 : a ≤ 9223372036854775807) (b1 : b ≤ 9223372036854775807) (c1 : c ≤ 9223372036854775807) :
    Calls Tryz.prog 15 #[.int .i64 a, .int .i64 b, .int .i64 c, .int .i64 mode] w fun e w' => e = .returned (.bool true) ∧ Below w.heap.size w w' := by
  have e1 := mdE_lo a b c mode
  go_enter Tryz.func15, Tryz.ntmps15
  go_wp2_with fail
  refine (refMulDiv_any a b c mode _ a1 b1 c1).mono ?_
  rintro e w1 ⟨rfl, hb1⟩
  go_wp2_with fail
  refine (mulDiv_any a b c mode _ a1 b1 c1).mono ?_
  rintro e w2 ⟨rfl, hb2⟩
  have hB2 := hb1.trans (hb2.mono hb1.size)
  go_wp2_with fail
  refine (plain_errV _ _ _ e1.1 e1.2 (hE.below hB2)).mono ?_
  rintro e w3 ⟨rfl, hb3⟩
  go_wp2_with fail
  go_ret
  exact ⟨rfl, hB2.trans (hb3.mono hB2.size)⟩
end Go.Proofs.YthmbfdjbjljaiaaGreatDoor
