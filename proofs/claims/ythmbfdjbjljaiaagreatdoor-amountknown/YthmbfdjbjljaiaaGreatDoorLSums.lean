/-
  My own text: the law on sums and differences: its walk, its walk.
-/
import Derived.Test.YthmbfdjbjljaiaaGreatDoorSums
namespace Go.Proofs.YthmbfdjbjljaiaaGreatDoor
open Go.ChangeShapes Go.WideShapes Go.RowKit

set_option maxHeartbeats 1000000 in
theorem sums_law (a b : Int) (w : World) (hE : ErrType w) (a1 : a ≤ 9223372036854775807) (b1 : b ≤ 9223372036854775807) :
    Calls Tryz.prog 8 #[.int .i64 a, .int .i64 b] w fun e w' => e = .returned (.bool true) ∧ Below w.heap.size w w' := by
  have e1 := addE_lo a b
  have e2 := subE_lo a b
  go_enter Tryz.func8, Tryz.ntmps8
  go_wp2_with fail
  refine (refAdd_any a b _ a1 b1).mono ?_
  rintro e w' ⟨rfl, rfl⟩
  go_wp2_with fail
  refine (refSub_any a b _ a1 b1).mono ?_
  rintro e w' ⟨rfl, rfl⟩
  go_wp2_with fail
  refine (add_any a b _ a1 b1).mono ?_
  rintro e w' ⟨rfl, rfl⟩
  go_wp2_with fail
  refine (sub_any a b _ a1 b1).mono ?_
  rintro e w' ⟨rfl, rfl⟩
  go_wp2_with fail
  refine (plain_errV _ _ _ e1.1 e1.2 hE).mono ?_
  rintro e w1 ⟨rfl, hb1⟩
  go_wp2_with fail
  refine (plain_errV _ _ _ e2.1 e2.2 (hE.below hb1)).mono ?_
  rintro e w2 ⟨rfl, hb2⟩
  go_wp2_with fail
  go_ret
  exact ⟨rfl, hb1.trans (hb2.mono hb1.size)⟩
end Go.Proofs.YthmbfdjbjljaiaaGreatDoor
