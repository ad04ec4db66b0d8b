/-
  My own text: what is wrong with a Submit and a Snapshot, by the program.
-/
import Derived.Test.YtdiamlajmcikhaaGreatDoorG3
namespace Go.Proofs.YtdiamlajmcikhaaGreatDoor
open Go.RowKit

set_option maxRecDepth 100000 in
set_option maxHeartbeats 2000000 in
theorem submitted_any (A S q h k cd ac as_ qt nm id : Int) (lv pv : Value) (L : List LG.El) (w : World) (hv : LG.RM w lv L) (hl : L.length ≤ 4611686018427387904) :
    Calls Tryz.prog 71 #[.agg #[.int .i64 A, .int .i64 S, .int .i64 q, .int .i64 h, .int .i64 k], .agg #[.int .i64 cd, .int .i64 ac, .int .i64 as_, .int .i64 qt, .int .i64 nm, .int .i64 id, lv, pv]] w fun e w' => e = .returned (errV (sbE A S id L)) ∧ Below w.heap.size w w' := by
  obtain ⟨a, cap, rfl, _, hr0⟩ := hv
  have HR := hide hr0
  clear hr0
  have HI := hide (fun W : World => identified_any A S q h k cd ac as_ qt nm id (.slice a L.length cap) pv W)
  have B0 := hide (two_below w (.cells #[.int .i64 A, .int .i64 S, .int .i64 q, .int .i64 h, .int .i64 k] 60) (.cells #[.int .i64 cd, .int .i64 ac, .int .i64 as_, .int .i64 qt, .int .i64 nm, .int .i64 id, .slice a L.length cap, pv] 26))
  have X0 := hide (two_new w (.cells #[.int .i64 A, .int .i64 S, .int .i64 q, .int .i64 h, .int .i64 k] 60) (.cells #[.int .i64 cd, .int .i64 ac, .int .i64 as_, .int .i64 qt, .int .i64 nm, .int .i64 id, .slice a L.length cap, pv] 26))
  obtain ⟨x0, x1, x2, x3, x4⟩ := five_cells X0.out.1 rfl
  obtain ⟨y0, y1, y2, y3, y4, y5, y6, y7⟩ := eight_cells X0.out.2 rfl
  have hri := idE_rng id
  by_cases hi : idE id = 0
  · rw [hi, errV_zero] at HI
    by_cases hn : L.length = 0
    · rw [show sbE A S id L = 2 by unfold sbE; rw [if_pos hi, if_pos hn]]
      have hd : ((L.length : Int) == 0) = true := by rw [hn]; rfl
      clear hi hn hri
      go_enter Tryz.func71, Tryz.ntmps71
      go_wp2_with fail
      refine (HI.out _).mono ?_
      rintro e w1 ⟨rfl, hb⟩
      have HB := hide (B0.out.trans (hb.mono B0.out.size))
      have Z0 := hide (blk_later X0.out.1 hb)
      have Z1 := hide (blk_later X0.out.2 hb)
      clear hb x0 x1 x2 x3 x4 y0 y1 y2 y3 y4 y5 y6 y7
      obtain ⟨x0, x1, x2, x3, x4⟩ := five_cells Z0.out rfl
      obtain ⟨y0, y1, y2, y3, y4, y5, y6, y7⟩ := eight_cells Z1.out rfl
      go_wp2_with fail
      go_ret
      exact ⟨rfl, HB.out⟩
    · have hd : ((L.length : Int) == 0) = false := by rw [beq_eq_false_iff_ne]; omega
      by_cases h4 : 4 < L.length
      · rw [show sbE A S id L = 5 by unfold sbE; rw [if_pos hi, if_neg hn, if_pos h4]]
        have hd2 : decide (4 < (L.length : Int)) = true := by rw [decide_eq_true_eq]; omega
        clear hi hn hri h4
        go_enter Tryz.func71, Tryz.ntmps71
        go_wp2_with fail
        refine (HI.out _).mono ?_
        rintro e w1 ⟨rfl, hb⟩
        have HB := hide (B0.out.trans (hb.mono B0.out.size))
        have Z0 := hide (blk_later X0.out.1 hb)
        have Z1 := hide (blk_later X0.out.2 hb)
        clear hb x0 x1 x2 x3 x4 y0 y1 y2 y3 y4 y5 y6 y7
        obtain ⟨x0, x1, x2, x3, x4⟩ := five_cells Z0.out rfl
        obtain ⟨y0, y1, y2, y3, y4, y5, y6, y7⟩ := eight_cells Z1.out rfl
        go_wp2_with fail
        go_ret
        exact ⟨rfl, HB.out⟩
      · have HS := hide (show sbE A S id L = fst0 (L.map (lgE A S)) by unfold sbE; rw [if_pos hi, if_neg hn, if_neg h4]; rfl)
        have hd2 : decide (4 < (L.length : Int)) = false := by rw [decide_eq_false_iff_not]; omega
        clear hi hn hri
        go_enter Tryz.func71, Tryz.ntmps71
        go_wp2_with fail
        refine (HI.out _).mono ?_
        rintro e w1 ⟨rfl, hb⟩
        have HB := hide (B0.out.trans (hb.mono B0.out.size))
        have Z0 := hide (blk_later X0.out.1 hb)
        have Z1 := hide (blk_later X0.out.2 hb)
        clear hb x0 x1 x2 x3 x4 y0 y1 y2 y3 y4 y5 y6 y7
        obtain ⟨x0, x1, x2, x3, x4⟩ := five_cells Z0.out rfl
        obtain ⟨y0, y1, y2, y3, y4, y5, y6, y7⟩ := eight_cells Z1.out rfl
        go_wp2_with fail
        obtain ⟨w9, hw9⟩ : ∃ x, x = w1 := ⟨_, rfl⟩
        subst hw9
        go_loopw [28] (fun i wr => ∃ j : Nat, j ≤ L.length ∧ i = .int .i64 (j : Int) ∧ Hid (fst0 ((L.map (lgE A S)).take j) = 0) ∧ Hid (Below w9.heap.size w9 wr)) (fun i _ => L.length - (intOf i).toNat)
        case atStart => exact ⟨0, Nat.zero_le _, rfl, hide (by rw [List.take_zero]; rfl), hide (Below.refl _ _)⟩
        case round =>
          clear x0 x1 x2 x3 x4 y0 y1 y2 y3 y4 y5 y6 y7
          obtain ⟨j, hj, rfl, HT, HW⟩ := hrel
          have ZZ := hide (blk_later Z0.out HW.out)
          obtain ⟨x0, x1, x2, x3, x4⟩ := five_cells ZZ.out rfl
          by_cases hlt : j < L.length
          · obtain ⟨⟨q0, q1, q2, q3, q4⟩, hp⟩ : ∃ p, L[j]? = some p := ⟨_, List.getElem?_eq_getElem hlt⟩
            obtain ⟨b, off, ha, hbl, hc⟩ := HR.out.resolve_left (fun h => by rw [h] at hlt; simp at hlt)
            subst ha
            have HBW := hide (HB.out.trans (HW.out.mono HB.out.size))
            have c0 : wr.cell? ⟨b, off + j * 5, none⟩ = some (.int .i64 q0) := (HBW.out.cell (p := ⟨b, _, none⟩) hbl).trans (hc j _ hp).1
            have c1 : wr.cell? ⟨b, off + j * 5 + 1, none⟩ = some (.int .i64 q1) := (HBW.out.cell (p := ⟨b, _, none⟩) hbl).trans (hc j _ hp).2.1
            have c2 : wr.cell? ⟨b, off + j * 5 + 2, none⟩ = some (.int .i64 q2) := (HBW.out.cell (p := ⟨b, _, none⟩) hbl).trans (hc j _ hp).2.2.1
            have c3 : wr.cell? ⟨b, off + j * 5 + 3, none⟩ = some (.int .i64 q3) := (HBW.out.cell (p := ⟨b, _, none⟩) hbl).trans (hc j _ hp).2.2.2.1
            have c4 : wr.cell? ⟨b, off + j * 5 + 4, none⟩ = some (.int .i64 q4) := (HBW.out.cell (p := ⟨b, _, none⟩) hbl).trans (hc j _ hp).2.2.2.2
            have HM := hide (show (L.map (lgE A S))[j]? = some (lgE A S (q0, q1, q2, q3, q4)) by rw [List.getElem?_map, hp]; rfl)
            have HK := hide (fun W : World => leg_any A S q h k q0 q1 q2 q3 q4 W)
            have hr := lgE_rng A S (q0, q1, q2, q3, q4)
            clear hc hp hbl
            have BN := hide ((Below.refl wr.heap.size wr).alloc (Nat.le_refl _) (.cells #[.int .i64 q0, .int .i64 q1, .int .i64 q2, .int .i64 q3, .int .i64 q4] 38))
            have N0 := hide (alloc_new wr (.cells #[.int .i64 q0, .int .i64 q1, .int .i64 q2, .int .i64 q3, .int .i64 q4] 38))
            have N1 := hide (blk_later ZZ.out BN.out)
            obtain ⟨z0, z1, z2, z3, z4⟩ := five_cells N1.out rfl
            have nn := five_cells N0.out rfl
            obtain ⟨m0, m1, m2, m3, m4⟩ := nn
            by_cases h0 : lgE A S (q0, q1, q2, q3, q4) = 0
            · rw [h0, errV_zero] at HK
              have HT2 := hide ((fst0_take HT.out HM.out).trans h0)
              clear h0 hr
              generalize lgE A S (q0, q1, q2, q3, q4) = e0 at *
              go_wp2_with fail
              refine (HK.out _).mono ?_
              rintro e w3 ⟨rfl, hb3⟩
              have HW2 := hide (HW.out.trans ((BN.out.trans (hb3.mono BN.out.size)).mono HW.out.size))
              clear hb3
              go_wp2_with fail
              go_roundw
              case rel => exact ⟨j + 1, by omega, by go_num, HT2, HW2⟩
              case measure => simp [intOf]; omega
            · rw [errV_pos (by omega)] at HK
              have HE := hide (fst0_hit HT.out HM.out h0)
              have HV := hide (errV_pos (show 1 ≤ lgE A S (q0, q1, q2, q3, q4) by omega))
              clear h0 hr
              generalize lgE A S (q0, q1, q2, q3, q4) = e0 at *
              go_wp2_with fail
              refine (HK.out _).mono ?_
              rintro e w3 ⟨rfl, hb3⟩
              have HW2 := hide (HW.out.trans ((BN.out.trans (hb3.mono BN.out.size)).mono HW.out.size))
              clear hb3
              go_wp2_with fail
              go_ret
              exact ⟨congrArg Ending.returned (show errV (sbE A S id L) = .iface 50 (.int .i64 e0) by rw [HS.out, HE.out, HV.out]).symm, HB.out.trans (HW2.out.mono HB.out.size)⟩
          · have e : j = L.length := by omega
            have HE : fst0 (L.map (lgE A S)) = 0 := by
              have h1 := HT.out
              rw [e, List.take_of_length_le (by simp)] at h1; exact h1
            have HE2 := hide HE
            clear e HE
            have hd : decide ((j : Int) < (L.length : Int)) = false := by rw [decide_eq_false_iff_not]; omega
            go_wp2_with fail
            go_ret
            exact ⟨congrArg Ending.returned (show errV (sbE A S id L) = .nilIface by rw [HS.out, HE2.out, errV_zero]).symm, HB.out.trans (HW.out.mono HB.out.size)⟩
  · rw [show sbE A S id L = 1 from if_neg hi, errV_pos (show (1 : Int) ≤ 1 by omega)]
    rw [show idE id = 1 by unfold idE at *; split at hi <;> simp_all, errV_pos (show (1 : Int) ≤ 1 by omega)] at HI
    clear hi hri
    go_enter Tryz.func71, Tryz.ntmps71
    go_wp2_with fail
    refine (HI.out _).mono ?_
    rintro e w1 ⟨rfl, hb⟩
    have HB := hide (B0.out.trans (hb.mono B0.out.size))
    have Z0 := hide (blk_later X0.out.1 hb)
    have Z1 := hide (blk_later X0.out.2 hb)
    clear hb x0 x1 x2 x3 x4 y0 y1 y2 y3 y4 y5 y6 y7
    obtain ⟨x0, x1, x2, x3, x4⟩ := five_cells Z0.out rfl
    obtain ⟨y0, y1, y2, y3, y4, y5, y6, y7⟩ := eight_cells Z1.out rfl
    go_wp2_with fail
    go_ret
    exact ⟨rfl, HB.out⟩
set_option maxRecDepth 100000 in
set_option maxHeartbeats 2000000 in
theorem paired_any (A S q h k cd ac as_ qt nm id : Int) (lv pv : Value) (L : List KY.El) (w : World) (hv : KY.RM w pv L) (hl : L.length ≤ 4611686018427387904) :
    Calls Tryz.prog 77 #[.agg #[.int .i64 A, .int .i64 S, .int .i64 q, .int .i64 h, .int .i64 k], .agg #[.int .i64 cd, .int .i64 ac, .int .i64 as_, .int .i64 qt, .int .i64 nm, .int .i64 id, lv, pv]] w fun e w' => e = .returned (errV (snE A S L)) ∧ Below w.heap.size w w' := by
  obtain ⟨a, cap, rfl, _, hr0⟩ := hv
  have HR := hide hr0
  clear hr0
  have B0 := hide (two_below w (.cells #[.int .i64 A, .int .i64 S, .int .i64 q, .int .i64 h, .int .i64 k] 60) (.cells #[.int .i64 cd, .int .i64 ac, .int .i64 as_, .int .i64 qt, .int .i64 nm, .int .i64 id, lv, .slice a L.length cap] 26))
  have X0 := hide (two_new w (.cells #[.int .i64 A, .int .i64 S, .int .i64 q, .int .i64 h, .int .i64 k] 60) (.cells #[.int .i64 cd, .int .i64 ac, .int .i64 as_, .int .i64 qt, .int .i64 nm, .int .i64 id, lv, .slice a L.length cap] 26))
  obtain ⟨x0, x1, x2, x3, x4⟩ := five_cells X0.out.1 rfl
  obtain ⟨y0, y1, y2, y3, y4, y5, y6, y7⟩ := eight_cells X0.out.2 rfl
  by_cases h4 : 64 < L.length
  · rw [show snE A S L = 5 from if_pos h4]
    have hd2 : decide (64 < (L.length : Int)) = true := by rw [decide_eq_true_eq]; omega
    clear h4
    go_enter Tryz.func77, Tryz.ntmps77
    go_wp2_with fail
    first | (refine bodyPost_ret (v := errV 5) ?_ rfl ⟨rfl, B0.out⟩; simp [results, Tryz.results77, go_sem]; rfl) | (go_ret2; exact ⟨rfl, B0.out⟩)
  · have HS := hide (show snE A S L = fst0 (L.map fun p => kyE A S p.1 p.2) by unfold snE; rw [if_neg h4]; rfl)
    have hd2 : decide (64 < (L.length : Int)) = false := by rw [decide_eq_false_iff_not]; omega
    have Z0 := hide X0.out.1
    have HB := B0
    go_enter Tryz.func77, Tryz.ntmps77
    go_wp2_with fail
    generalize (w.alloc (.cells #[.int .i64 A, .int .i64 S, .int .i64 q, .int .i64 h, .int .i64 k] 60)).alloc (.cells #[.int .i64 cd, .int .i64 ac, .int .i64 as_, .int .i64 qt, .int .i64 nm, .int .i64 id, lv, .slice a L.length cap] 26) = w1 at *
    obtain ⟨w9, hw9⟩ : ∃ x, x = w1 := ⟨_, rfl⟩
    subst hw9
    go_loopw [16] (fun i wr => ∃ j : Nat, j ≤ L.length ∧ i = .int .i64 (j : Int) ∧ Hid (fst0 ((L.map (fun p => kyE A S p.1 p.2)).take j) = 0) ∧ Hid (Below w9.heap.size w9 wr)) (fun i _ => L.length - (intOf i).toNat)
    case atStart => exact ⟨0, Nat.zero_le _, rfl, hide (by rw [List.take_zero]; rfl), hide (Below.refl _ _)⟩
    case round =>
      clear x0 x1 x2 x3 x4 y0 y1 y2 y3 y4 y5 y6 y7
      obtain ⟨j, hj, rfl, HT, HW⟩ := hrel
      have ZZ := hide (blk_later Z0.out HW.out)
      obtain ⟨x0, x1, x2, x3, x4⟩ := five_cells ZZ.out rfl
      by_cases hlt : j < L.length
      · obtain ⟨⟨q0, q1⟩, hp⟩ : ∃ p, L[j]? = some p := ⟨_, List.getElem?_eq_getElem hlt⟩
        obtain ⟨b, off, ha, hbl, hc⟩ := HR.out.resolve_left (fun h => by rw [h] at hlt; simp at hlt)
        subst ha
        have HBW := hide (HB.out.trans (HW.out.mono HB.out.size))
        have c0 : wr.cell? ⟨b, off + j * 2, none⟩ = some (.int .i64 q0) := (HBW.out.cell (p := ⟨b, _, none⟩) hbl).trans (hc j _ hp).1
        have c1 : wr.cell? ⟨b, off + j * 2 + 1, none⟩ = some (.int .i64 q1) := (HBW.out.cell (p := ⟨b, _, none⟩) hbl).trans (hc j _ hp).2
        have HM := hide (show (L.map (fun p => kyE A S p.1 p.2))[j]? = some (kyE A S q0 q1) by rw [List.getElem?_map, hp]; rfl)
        have HK := hide (fun W : World => key_any A S q h k q0 q1 W)
        have hr := kyE_rng A S q0 q1
        clear hc hp hbl
        have BN := hide ((Below.refl wr.heap.size wr).alloc (Nat.le_refl _) (.cells #[.int .i64 q0, .int .i64 q1] 40))
        have N0 := hide (alloc_new wr (.cells #[.int .i64 q0, .int .i64 q1] 40))
        have N1 := hide (blk_later ZZ.out BN.out)
        obtain ⟨z0, z1, z2, z3, z4⟩ := five_cells N1.out rfl
        have nn := pair_cells N0.out rfl
        obtain ⟨m0, m1⟩ := nn
        by_cases h0 : kyE A S q0 q1 = 0
        · rw [h0, errV_zero] at HK
          have HT2 := hide ((fst0_take HT.out HM.out).trans h0)
          clear h0 hr
          generalize kyE A S q0 q1 = e0 at *
          go_wp2_with fail
          refine (HK.out _).mono ?_
          rintro e w3 ⟨rfl, hb3⟩
          have HW2 := hide (HW.out.trans ((BN.out.trans (hb3.mono BN.out.size)).mono HW.out.size))
          clear hb3
          go_wp2_with fail
          go_roundw
          case rel => exact ⟨j + 1, by omega, by go_num, HT2, HW2⟩
          case measure => simp [intOf]; omega
        · rw [errV_pos (by omega)] at HK
          have HE := hide (fst0_hit HT.out HM.out h0)
          have HV := hide (errV_pos (show 1 ≤ kyE A S q0 q1 by omega))
          clear h0 hr
          generalize kyE A S q0 q1 = e0 at *
          go_wp2_with fail
          refine (HK.out _).mono ?_
          rintro e w3 ⟨rfl, hb3⟩
          have HW2 := hide (HW.out.trans ((BN.out.trans (hb3.mono BN.out.size)).mono HW.out.size))
          clear hb3
          go_wp2_with fail
          go_ret
          exact ⟨congrArg Ending.returned (show errV (snE A S L) = .iface 50 (.int .i64 e0) by rw [HS.out, HE.out, HV.out]).symm, HB.out.trans (HW2.out.mono HB.out.size)⟩
      · have e : j = L.length := by omega
        have HE : fst0 (L.map (fun p => kyE A S p.1 p.2)) = 0 := by
          have h1 := HT.out
          rw [e, List.take_of_length_le (by simp)] at h1; exact h1
        have HE2 := hide HE
        clear e HE
        have hd : decide ((j : Int) < (L.length : Int)) = false := by rw [decide_eq_false_iff_not]; omega
        go_wp2_with fail
        go_ret
        exact ⟨congrArg Ending.returned (show errV (snE A S L) = .nilIface by rw [HS.out, HE2.out, errV_zero]).symm, HB.out.trans (HW.out.mono HB.out.size)⟩
end Go.Proofs.YtdiamlajmcikhaaGreatDoor
