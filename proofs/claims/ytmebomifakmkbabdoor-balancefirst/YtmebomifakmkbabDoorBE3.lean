/-
  My own text: refusals: plain ones, and ones that tell a place.
-/
import Derived.Test.YtmebomifakmkbabDoorBE2
namespace Go.Proofs.YtmebomifakmkbabDoor
open Go.RowKit Go.Extern.Stop Go.Stop Go.Extern

set_option maxHeartbeats 1000000 in
theorem plain_rn (s : List UInt8) (k n : Int) (w : World) (h1 : 1 ≤ k) (h2 : k ≤ 24) (hE : ErrType w) :
    Calls Tryd.prog 16 #[refV s (.iface 40 (.int .i64 k)), .int .i64 n] w fun e w' => e = .returned (.bool (k == n)) ∧ Below w.heap.size w w' := by
  have HB0 : Hid (Below w.heap.size w (w.alloc (.cells #[.int .i64 0, .int .i64 0, .int .i64 0] 53))) := hide ((Below.refl _ _).alloc (Nat.le_refl _) _)
  have HNF := hide (fun W => num_rn s k W h1 h2)
  have HAS := hide (fun (W : World) (t : Addr) (h : ErrType W) => as_rn s k t W h)
  have HE := hide hE
  unfold refV at HNF HAS ⊢
  clear h1 h2 hE
  cases hb : ((k : Int) == n)
  · go_enter Tryd.func16, Tryd.ntmps16
    go_wp2_with fail
    refine (HNF.out _).mono ?_
    rintro e w1 ⟨rfl, hb1⟩
    have HB1 := hide (HB0.out.trans (hb1.mono HB0.out.size))
    clear hb1
    go_wp2_with fail
    go_ret
    exact ⟨rfl, HB1.out⟩
  · go_enter Tryd.func16, Tryd.ntmps16
    go_wp2_with fail
    refine (HNF.out _).mono ?_
    rintro e w1 ⟨rfl, hb1⟩
    have HB1 := hide (HB0.out.trans (hb1.mono HB0.out.size))
    clear hb1
    go_wp2_with fail
    refine (HAS.out _ _ (HE.out.below HB1.out)).mono ?_
    rintro e w2 ⟨rfl, hw2⟩
    have HB2 : Hid (Below w.heap.size w w2) := hide (by rw [hw2]; exact HB1.out.trans ((asMissR_below _ _ _ _).mono HB1.out.size))
    clear hw2
    go_wp2_with fail
    go_ret
    exact ⟨rfl, HB2.out⟩
end Go.Proofs.YtmebomifakmkbabDoor
