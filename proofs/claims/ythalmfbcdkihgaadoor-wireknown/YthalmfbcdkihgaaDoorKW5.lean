/-
  My own text: the closed law on the wire.
-/
import Derived.Test.YthalmfbcdkihgaaDoorKW3
import Derived.Test.YthalmfbcdkihgaaDoorKW4
namespace Go.Proofs.YthalmfbcdkihgaaDoor
open Go.RowKit Go.Extern

set_option maxRecDepth 100000 in
theorem knownW_law (w : World) (hT : Tab w) (hE : ErrType w) : Calls Tryd.prog 3 #[] w fun e w' => e = .returned (.bool true) ∧ Below w.heap.size w w' := by
  have HS := hide (shown_any w hT hE)
  have HT := hide hT
  have HE := hide hE
  clear hT hE
  go_enter Tryd.func3, Tryd.ntmps3
  go_wp2_with fail
  refine HS.out.mono ?_
  rintro e w1 ⟨rfl, hb⟩
  have HB := hide hb
  have HD := hide (edged_any w1 (HT.out.below hb) (HE.out.below hb))
  clear hb HS
  go_wp2_with fail
  refine HD.out.mono ?_
  rintro e w2 ⟨rfl, hb⟩
  have HB2 := hide (HB.out.trans (hb.mono HB.out.size))
  clear hb HD HB
  go_wp2_with fail
  go_ret
  exact ⟨rfl, HB2.out⟩
end Go.Proofs.YthalmfbcdkihgaaDoor
