/-
  My own text: the law BalanceKnown.
-/
import Derived.Test.YtmebomifakmkbaaDoorBN4
import Derived.Test.YtmebomifakmkbaaDoorBN6
namespace Go.Proofs.YtmebomifakmkbaaDoor
open Go.RowKit

set_option maxRecDepth 100000 in
set_option maxHeartbeats 1000000 in
theorem known_law (w : World) (hE : ErrType w) :
    Calls Tryd.prog 6 #[] w fun e w' => e = .returned (.bool true) ∧ Below w.heap.size w w' := by
  have HS := hide (shown_any w hE)
  have HD := hide (fun (W : World) (hb : Below w.heap.size w W) => edged_any W (hE.below hb))
  clear hE
  go_enter Tryd.func6, Tryd.ntmps6
  go_wp2_with fail
  refine HS.out.mono ?_
  rintro e w1 ⟨rfl, hb⟩
  have HB := hide hb
  clear hb
  go_wp2_with fail
  refine (HD.out _ HB.out).mono ?_
  rintro e w2 ⟨rfl, hb⟩
  have HB2 := hide (HB.out.trans (hb.mono HB.out.size))
  clear hb
  go_wp2_with fail
  go_ret
  exact ⟨rfl, HB2.out⟩
end Go.Proofs.YtmebomifakmkbaaDoor
