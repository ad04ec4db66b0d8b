/-
  My own text: a version is put in and counts (works).
-/
import Derived.Test.YtechjcmolccdjaaDoorHC6
namespace Go.Proofs.YtechjcmolccdjaaDoor
open Go.RowKit

theorem ris1 (p : Ver) : Ris [p] := ⟨fun q hq => (by cases hq), trivial⟩
set_option maxRecDepth 100000 in
set_option maxHeartbeats 2000000 in
theorem works_any (w : World) (HE : Hid (ErrType w)) :
    Calls Tryd.prog 23 #[] w fun e w' => e = .returned (.bool true) ∧ Below w.heap.size w w' := by
  have HN := hide (new_any w)
  have HP := hide (fun (W : World) (h : CH W w.heap.size w.heap.size []) => put_yes 3 [97] w.heap.size w.heap.size [] W h trivial (fun p hp => by cases hp) (by simp) (by omega) (fun p hp => by simp at hp))
  have HA := hide (fun (W : World) (h : CH W w.heap.size w.heap.size [(3, [97])]) => at_yes 5 w.heap.size w.heap.size [(3, [97])] 0 (3, [97]) W h (ris1 _) (by simp) (by decide) rfl)
  have HQ := hide (fun (W : World) (h : CH W w.heap.size w.heap.size [(3, [97])]) => put_no 3 [98] w.heap.size w.heap.size [(3, [97])] W h (ris1 _) (fun p hp => by rw [List.mem_singleton.1 hp]; decide) (by simp) (.inr ⟨(3, [97]), rfl, by decide⟩))
  have HL := hide (fun (W : World) (h : ErrType W) => plain_errV 1 1 W (by omega) (by omega) h)
  rw [show ((1 : Int) == 1) = true from rfl] at HL
  go_enter Tryd.func23, Tryd.ntmps23
  go_wp2_with fail
  refine HN.out.mono ?_
  rintro e w1 ⟨rfl, hC, hb⟩
  have C1 := hide hC
  have B1 := hide hb
  clear hC hb HN
  go_wp2_with fail
  refine (HP.out _ C1.out).mono ?_
  rintro e w2 ⟨rfl, hC, hf⟩
  have C2 : Hid (CH w2 w.heap.size w.heap.size [(3, [97])]) := hide hC
  have B2 := hide (B1.out.trans (hf.below C1.out))
  clear hC hf HP C1 B1
  go_wp2_with fail
  refine (HA.out _ C2.out).mono ?_
  rintro e w3 ⟨rfl, hb⟩
  have C3 := hide (C2.out.later hb)
  have B3 := hide (B2.out.trans (hb.mono B2.out.size))
  clear hb HA C2 B2
  go_wp2_with fail
  refine (HQ.out _ C3.out).mono ?_
  rintro e w4 ⟨rfl, hb⟩
  have B4 := hide (B3.out.trans (hb.mono B3.out.size))
  clear hb HQ C3 B3
  go_wp2_with fail
  refine (HL.out _ (HE.out.below B4.out)).mono ?_
  rintro e w5 ⟨rfl, hb⟩
  have B5 := hide (B4.out.trans (hb.mono B4.out.size))
  clear hb HL B4
  go_wp2_with fail
  go_ret
  exact ⟨rfl, B5.out⟩
end Go.Proofs.YtechjcmolccdjaaDoor
