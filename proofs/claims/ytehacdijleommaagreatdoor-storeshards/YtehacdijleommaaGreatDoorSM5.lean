/-
  My own text: a version is laid down, and found; the law on the hash.
-/
import Derived.Test.YtehacdijleommaaGreatDoorSM4
namespace Go.Proofs.YtehacdijleommaaGreatDoor
open Go.RowKit Go.Extern

theorem kok10 : KOK (1, 0) := ⟨by decide, by decide⟩
theorem risOne (p : Ver) : Ris [p] := ⟨fun q hq => (by cases hq), trivial⟩
set_option maxRecDepth 100000 in
set_option maxHeartbeats 2000000 in
theorem worksS_any (w : World) (HE : Hid (ErrType w)) :
    Calls Tryz.prog 6 #[] w fun e w' => e = .returned (.bool true) ∧ Below w.heap.size w w' := by
  have HN := hide (newS_any 3 3 w (by decide))
  have HL := hide (fun (W : World) (h : ErrType W) => plain_errV 1 1 W (by omega) (by omega) h)
  rw [show ((1 : Int) == 1) = true from rfl, errV_pos (show (1 : Int) ≤ 1 by omega)] at HL
  go_enter Tryz.func6, Tryz.ntmps6
  go_wp2_with fail
  refine HN.out.mono ?_
  rintro e w1 ⟨sb, m, hsb, rfl, hS, hm, hlo, hb⟩
  have S1 := hide hS
  have B1 := hide hb
  have HI := hide (si_lt (1, 0) hS.lo hS.hi)
  have HM := hide (hm _ HI.out)
  have HLO := hide (hlo _ HI.out)
  clear hS hb hm hlo HN hsb
  go_wp2_with fail
  refine (putS_new (1, 0) 4 [120] w.heap.size sb 3 m w1 S1.out kok10 (by rw [HM.out]; rfl) (by omega) HLO.out B1.out.size).mono ?_
  rintro e w2 ⟨c, rfl, hS, hC, _, hb⟩
  have S2 := hide hS
  have C2 := hide hC
  have B2 := hide (B1.out.trans hb)
  have K2 : Hid (lk (upm m (si (1, 0) 3) ((1, 0), c) (si (1, 0) 3)).2 (1, 0) = some c) := hide (by unfold upm; rw [if_pos rfl, HM.out]; rfl)
  clear hS hC hb S1 B1
  go_wp2_with fail
  have hp2 := putS_no (1, 0) 4 [121] c c sb 3 (upm m (si (1, 0) 3) ((1, 0), c)) [(4, [120])] w2 S2.out kok10 K2.out C2.out (risOne _) (fun p hp => by rw [List.mem_singleton.1 hp]; decide) (by simp) (.inr ⟨(4, [120]), rfl, by decide⟩)
  rw [errV_pos (show (1 : Int) ≤ 1 by omega)] at hp2
  refine hp2.mono ?_
  rintro e w3 ⟨rfl, hb⟩
  have S3 := hide (S2.out.later hb)
  have C3 := hide (C2.out.later hb)
  have B3 := hide (B2.out.trans (hb.mono B2.out.size))
  clear hb hp2 S2 C2 B2
  go_wp2_with fail
  refine (lastS_yes (1, 0) c c sb 3 0 (4, [120]) (upm m (si (1, 0) 3) ((1, 0), c)) [(4, [120])] w3 S3.out kok10 K2.out C3.out (risOne _) (by simp) (by decide) rfl).mono ?_
  rintro e w4 ⟨rfl, hb⟩
  have S4 := hide (S3.out.later hb)
  have B4 := hide (B3.out.trans (hb.mono B3.out.size))
  clear hb S3 C3 B3
  go_wp2_with fail
  refine (HL.out _ (HE.out.below B4.out)).mono ?_
  rintro e w5 ⟨rfl, hb⟩
  have S5 := hide (S4.out.later hb)
  have B5 := hide (B4.out.trans (hb.mono B4.out.size))
  clear hb S4 B4 HL
  go_wp2_with fail
  refine (shardsS_any sb 3 _ w5 S5.out).mono ?_
  rintro e w6 ⟨rfl, hb⟩
  have B6 := hide (B5.out.trans (hb.mono B5.out.size))
  clear hb B5
  go_wp2_with fail
  go_ret
  exact ⟨rfl, B6.out⟩
end Go.Proofs.YtehacdijleommaaGreatDoor
