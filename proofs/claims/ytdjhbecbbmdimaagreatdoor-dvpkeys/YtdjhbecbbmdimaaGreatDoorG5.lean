/-
  My own text: G4, G5 in one.
-/
import Derived.Test.YtdjhbecbbmdimaaGreatDoorG3
namespace Go.Proofs.YtdjhbecbbmdimaaGreatDoor
open Go.RowKit

set_option maxRecDepth 100000 in
set_option maxHeartbeats 2000000 in
theorem submitted_any (A S q h k cd ac as_ qt nm id : Int) (lv pv : Value) (L : List LG.El) (w : World) (hv : LG.RM w lv L) (hl : L.length ≤ 4611686018427387904) :
    Calls Tryz.prog 97 #[.agg #[.int .i64 A, .int .i64 S, .int .i64 q, .int .i64 h, .int .i64 k], .agg #[.int .i64 cd, .int .i64 ac, .int .i64 as_, .int .i64 qt, .int .i64 nm, .int .i64 id, lv, pv]] w fun e w' => e = .returned (errV (sbE A S id L)) ∧ Below w.heap.size w w' := by
  obtain ⟨a, cap, rfl, _, hr0⟩ := hv
  have HR := hide hr0
  clear hr0
  have HI := hide (fun W : World => identified_any A S q h k cd ac as_ qt nm id (.slice a L.length cap) pv W)
  have B0 := hide (two_below w (.cells #[.int .i64 A, .int .i64 S, .int .i64 q, .int .i64 h, .int .i64 k] 98) (.cells #[.int .i64 cd, .int .i64 ac, .int .i64 as_, .int .i64 qt, .int .i64 nm, .int .i64 id, .slice a L.length cap, pv] 25))
  have X0 := hide (two_new w (.cells #[.int .i64 A, .int .i64 S, .int .i64 q, .int .i64 h, .int .i64 k] 98) (.cells #[.int .i64 cd, .int .i64 ac, .int .i64 as_, .int .i64 qt, .int .i64 nm, .int .i64 id, .slice a L.length cap, pv] 25))
  obtain ⟨x0, x1, x2, x3, x4⟩ := five_cells X0.out.1 rfl
  obtain ⟨y0, y1, y2, y3, y4, y5, y6, y7⟩ := eight_cells X0.out.2 rfl
  have hri := idE_rng id
  by_cases hi : idE id = 0
  · rw [hi, errV_zero] at HI
    by_cases hn : L.length = 0
    · rw [show sbE A S id L = 2 by unfold sbE; rw [if_pos hi, if_pos hn]]
      have hd : ((L.length : Int) == 0) = true := by rw [hn]; rfl
      clear hi hn hri
      go_enter Tryz.func97, Tryz.ntmps97
      go_wp2_with fail
      refine (HI.out _).mono ?_
      rintro e w1 ⟨rfl, hb⟩
      have HB := hide (B0.out.trans (hb.mono B0.out.size))
      have Z0 := hide (blk_later X0.out.1 hb)
      have Z1 := hide (blk_later X0.out.2 hb)
      clear hb x0 x1 x2 x3 x4 y0 y1 y2 y3 y4 y5 y6 y7
      obtain ⟨x0, x1, x2, x3, x4⟩ := five_cells Z0.out rfl
      obtain ⟨y0, y1, y2, y3, y4, y5, y6, y7⟩ := eight_cells Z1.out rfl
      go_wp2_with fail
      go_ret
      exact ⟨rfl, HB.out⟩
    · have hd : ((L.length : Int) == 0) = false := by rw [beq_eq_false_iff_ne]; omega
      by_cases h4 : 4 < L.length
      · rw [show sbE A S id L = 5 by unfold sbE; rw [if_pos hi, if_neg hn, if_pos h4]]
        have hd2 : decide (4 < (L.length : Int)) = true := by rw [decide_eq_true_eq]; omega
        clear hi hn hri h4
        go_enter Tryz.func97, Tryz.ntmps97
        go_wp2_with fail
        refine (HI.out _).mono ?_
        rintro e w1 ⟨rfl, hb⟩
        have HB := hide (B0.out.trans (hb.mono B0.out.size))
        have Z0 := hide (blk_later X0.out.1 hb)
        have Z1 := hide (blk_later X0.out.2 hb)
        clear hb x0 x1 x2 x3 x4 y0 y1 y2 y3 y4 y5 y6 y7
        obtain ⟨x0, x1, x2, x3, x4⟩ := five_cells Z0.out rfl
        obtain ⟨y0, y1, y2, y3, y4, y5, y6, y7⟩ := eight_cells Z1.out rfl
        go_wp2_with fail
        go_ret
        exact ⟨rfl, HB.out⟩
      · have HS := hide (show sbE A S id L = fst0 (L.map (lgE A S)) by unfold sbE; rw [if_pos hi, if_neg hn, if_neg h4]; rfl)
        have hd2 : decide (4 < (L.length : Int)) = false := by rw [decide_eq_false_iff_not]; omega
        clear hi hn hri
        go_enter Tryz.func97, Tryz.ntmps97
        go_wp2_with fail
        refine (HI.out _).mono ?_
        rintro e w1 ⟨rfl, hb⟩
        have HB := hide (B0.out.trans (hb.mono B0.out.size))
        have Z0 := hide (blk_later X0.out.1 hb)
        have Z1 := hide (blk_later X0.out.2 hb)
        clear hb x0 x1 x2 x3 x4 y0 y1 y2 y3 y4 y5 y6 y7
        obtain ⟨x0, x1, x2, x3, x4⟩ := five_cells Z0.out rfl
        obtain ⟨y0, y1, y2, y3, y4, y5, y6, y7⟩ := eight_cells Z1.out rfl
        go_wp2_with fail
        obtain ⟨w9, hw9⟩ : ∃ x, x = w1 := ⟨_, rfl⟩
        subst hw9
        go_loopw [28] (fun i wr => ∃ j : Nat, j ≤ L.length ∧ i = .int .i64 (j : Int) ∧ Hid (fst0 ((L.map (lgE A S)).take j) = 0) ∧ Hid (Below w9.heap.size w9 wr)) (fun i _ => L.length - (intOf i).toNat)
        case atStart => exact ⟨0, Nat.zero_le _, rfl, hide (by rw [List.take_zero]; rfl), hide (Below.refl _ _)⟩
        case round =>
          clear x0 x1 x2 x3 x4 y0 y1 y2 y3 y4 y5 y6 y7
          obtain ⟨j, hj, rfl, HT, HW⟩ := hrel
          have ZZ := hide (blk_later Z0.out HW.out)
          obtain ⟨x0, x1, x2, x3, x4⟩ := five_cells ZZ.out rfl
          by_cases hlt : j < L.length
          · obtain ⟨⟨q0, q1, q2, q3, q4⟩, hp⟩ : ∃ p, L[j]? = some p := ⟨_, List.getElem?_eq_getElem hlt⟩
            obtain ⟨b, off, ha, hbl, hc⟩ := HR.out.resolve_left (fun h => by rw [h] at hlt; simp at hlt)
            subst ha
            have HBW := hide (HB.out.trans (HW.out.mono HB.out.size))
            have c0 : wr.cell? ⟨b, off + j * 5, none⟩ = some (.int .i64 q0) := (HBW.out.cell (p := ⟨b, _, none⟩) hbl).trans (hc j _ hp).1
            have c1 : wr.cell? ⟨b, off + j * 5 + 1, none⟩ = some (.int .i64 q1) := (HBW.out.cell (p := ⟨b, _, none⟩) hbl).trans (hc j _ hp).2.1
            have c2 : wr.cell? ⟨b, off + j * 5 + 2, none⟩ = some (.int .i64 q2) := (HBW.out.cell (p := ⟨b, _, none⟩) hbl).trans (hc j _ hp).2.2.1
            have c3 : wr.cell? ⟨b, off + j * 5 + 3, none⟩ = some (.int .i64 q3) := (HBW.out.cell (p := ⟨b, _, none⟩) hbl).trans (hc j _ hp).2.2.2.1
            have c4 : wr.cell? ⟨b, off + j * 5 + 4, none⟩ = some (.int .i64 q4) := (HBW.out.cell (p := ⟨b, _, none⟩) hbl).trans (hc j _ hp).2.2.2.2
            have HM := hide (show (L.map (lgE A S))[j]? = some (lgE A S (q0, q1, q2, q3, q4)) by rw [List.getElem?_map, hp]; rfl)
            have HK := hide (fun W : World => leg_any A S q h k q0 q1 q2 q3 q4 W)
            have hr := lgE_rng A S (q0, q1, q2, q3, q4)
            clear hc hp hbl
            have BN := hide ((Below.refl wr.heap.size wr).alloc (Nat.le_refl _) (.cells #[.int .i64 q0, .int .i64 q1, .int .i64 q2, .int .i64 q3, .int .i64 q4] 43))
            have N0 := hide (alloc_new wr (.cells #[.int .i64 q0, .int .i64 q1, .int .i64 q2, .int .i64 q3, .int .i64 q4] 43))
            have N1 := hide (blk_later ZZ.out BN.out)
            obtain ⟨z0, z1, z2, z3, z4⟩ := five_cells N1.out rfl
            have nn := five_cells N0.out rfl
            obtain ⟨m0, m1, m2, m3, m4⟩ := nn
            by_cases h0 : lgE A S (q0, q1, q2, q3, q4) = 0
            · rw [h0, errV_zero] at HK
              have HT2 := hide ((fst0_take HT.out HM.out).trans h0)
              clear h0 hr
              generalize lgE A S (q0, q1, q2, q3, q4) = e0 at *
              go_wp2_with fail
              refine (HK.out _).mono ?_
              rintro e w3 ⟨rfl, hb3⟩
              have HW2 := hide (HW.out.trans ((BN.out.trans (hb3.mono BN.out.size)).mono HW.out.size))
              clear hb3
              go_wp2_with fail
              go_roundw
              case rel => exact ⟨j + 1, by omega, by go_num, HT2, HW2⟩
              case measure => simp [intOf]; omega
            · rw [errV_pos (by omega)] at HK
              have HE := hide (fst0_hit HT.out HM.out h0)
              have HV := hide (errV_pos (show 1 ≤ lgE A S (q0, q1, q2, q3, q4) by omega))
              clear h0 hr
              generalize lgE A S (q0, q1, q2, q3, q4) = e0 at *
              go_wp2_with fail
              refine (HK.out _).mono ?_
              rintro e w3 ⟨rfl, hb3⟩
              have HW2 := hide (HW.out.trans ((BN.out.trans (hb3.mono BN.out.size)).mono HW.out.size))
              clear hb3
              go_wp2_with fail
              go_ret
              exact ⟨congrArg Ending.returned (show errV (sbE A S id L) = .iface 52 (.int .i64 e0) by rw [HS.out, HE.out, HV.out]).symm, HB.out.trans (HW2.out.mono HB.out.size)⟩
          · have e : j = L.length := by omega
            have HE : fst0 (L.map (lgE A S)) = 0 := by
              have h1 := HT.out
              rw [e, List.take_of_length_le (by simp)] at h1; exact h1
            have HE2 := hide HE
            clear e HE
            have hd : decide ((j : Int) < (L.length : Int)) = false := by rw [decide_eq_false_iff_not]; omega
            go_wp2_with fail
            go_ret
            exact ⟨congrArg Ending.returned (show errV (sbE A S id L) = .nilIface by rw [HS.out, HE2.out, errV_zero]).symm, HB.out.trans (HW.out.mono HB.out.size)⟩
  · rw [show sbE A S id L = 1 from if_neg hi, errV_pos (show (1 : Int) ≤ 1 by omega)]
    rw [show idE id = 1 by unfold idE at *; split at hi <;> simp_all, errV_pos (show (1 : Int) ≤ 1 by omega)] at HI
    clear hi hri
    go_enter Tryz.func97, Tryz.ntmps97
    go_wp2_with fail
    refine (HI.out _).mono ?_
    rintro e w1 ⟨rfl, hb⟩
    have HB := hide (B0.out.trans (hb.mono B0.out.size))
    have Z0 := hide (blk_later X0.out.1 hb)
    have Z1 := hide (blk_later X0.out.2 hb)
    clear hb x0 x1 x2 x3 x4 y0 y1 y2 y3 y4 y5 y6 y7
    obtain ⟨x0, x1, x2, x3, x4⟩ := five_cells Z0.out rfl
    obtain ⟨y0, y1, y2, y3, y4, y5, y6, y7⟩ := eight_cells Z1.out rfl
    go_wp2_with fail
    go_ret
    exact ⟨rfl, HB.out⟩
set_option maxRecDepth 100000 in
set_option maxHeartbeats 2000000 in
theorem paired_any (A S q h k cd ac as_ qt nm id : Int) (lv pv : Value) (L : List KY.El) (w : World) (hv : KY.RM w pv L) (hl : L.length ≤ 4611686018427387904) :
    Calls Tryz.prog 103 #[.agg #[.int .i64 A, .int .i64 S, .int .i64 q, .int .i64 h, .int .i64 k], .agg #[.int .i64 cd, .int .i64 ac, .int .i64 as_, .int .i64 qt, .int .i64 nm, .int .i64 id, lv, pv]] w fun e w' => e = .returned (errV (snE A S L)) ∧ Below w.heap.size w w' := by
  obtain ⟨a, cap, rfl, _, hr0⟩ := hv
  have HR := hide hr0
  clear hr0
  have B0 := hide (two_below w (.cells #[.int .i64 A, .int .i64 S, .int .i64 q, .int .i64 h, .int .i64 k] 98) (.cells #[.int .i64 cd, .int .i64 ac, .int .i64 as_, .int .i64 qt, .int .i64 nm, .int .i64 id, lv, .slice a L.length cap] 25))
  have X0 := hide (two_new w (.cells #[.int .i64 A, .int .i64 S, .int .i64 q, .int .i64 h, .int .i64 k] 98) (.cells #[.int .i64 cd, .int .i64 ac, .int .i64 as_, .int .i64 qt, .int .i64 nm, .int .i64 id, lv, .slice a L.length cap] 25))
  obtain ⟨x0, x1, x2, x3, x4⟩ := five_cells X0.out.1 rfl
  obtain ⟨y0, y1, y2, y3, y4, y5, y6, y7⟩ := eight_cells X0.out.2 rfl
  by_cases h4 : 64 < L.length
  · rw [show snE A S L = 5 from if_pos h4]
    have hd2 : decide (64 < (L.length : Int)) = true := by rw [decide_eq_true_eq]; omega
    clear h4
    go_enter Tryz.func103, Tryz.ntmps103
    go_wp2_with fail
    first | (refine bodyPost_ret (v := errV 5) ?_ rfl ⟨rfl, B0.out⟩; simp [results, Tryz.results103, go_sem]; rfl) | (go_ret2; exact ⟨rfl, B0.out⟩)
  · have HS := hide (show snE A S L = fst0 (L.map fun p => kyE A S p.1 p.2) by unfold snE; rw [if_neg h4]; rfl)
    have hd2 : decide (64 < (L.length : Int)) = false := by rw [decide_eq_false_iff_not]; omega
    have Z0 := hide X0.out.1
    have HB := B0
    go_enter Tryz.func103, Tryz.ntmps103
    go_wp2_with fail
    generalize (w.alloc (.cells #[.int .i64 A, .int .i64 S, .int .i64 q, .int .i64 h, .int .i64 k] 98)).alloc (.cells #[.int .i64 cd, .int .i64 ac, .int .i64 as_, .int .i64 qt, .int .i64 nm, .int .i64 id, lv, .slice a L.length cap] 25) = w1 at *
    obtain ⟨w9, hw9⟩ : ∃ x, x = w1 := ⟨_, rfl⟩
    subst hw9
    go_loopw [16] (fun i wr => ∃ j : Nat, j ≤ L.length ∧ i = .int .i64 (j : Int) ∧ Hid (fst0 ((L.map (fun p => kyE A S p.1 p.2)).take j) = 0) ∧ Hid (Below w9.heap.size w9 wr)) (fun i _ => L.length - (intOf i).toNat)
    case atStart => exact ⟨0, Nat.zero_le _, rfl, hide (by rw [List.take_zero]; rfl), hide (Below.refl _ _)⟩
    case round =>
      clear x0 x1 x2 x3 x4 y0 y1 y2 y3 y4 y5 y6 y7
      obtain ⟨j, hj, rfl, HT, HW⟩ := hrel
      have ZZ := hide (blk_later Z0.out HW.out)
      obtain ⟨x0, x1, x2, x3, x4⟩ := five_cells ZZ.out rfl
      by_cases hlt : j < L.length
      · obtain ⟨⟨q0, q1⟩, hp⟩ : ∃ p, L[j]? = some p := ⟨_, List.getElem?_eq_getElem hlt⟩
        obtain ⟨b, off, ha, hbl, hc⟩ := HR.out.resolve_left (fun h => by rw [h] at hlt; simp at hlt)
        subst ha
        have HBW := hide (HB.out.trans (HW.out.mono HB.out.size))
        have c0 : wr.cell? ⟨b, off + j * 2, none⟩ = some (.int .i64 q0) := (HBW.out.cell (p := ⟨b, _, none⟩) hbl).trans (hc j _ hp).1
        have c1 : wr.cell? ⟨b, off + j * 2 + 1, none⟩ = some (.int .i64 q1) := (HBW.out.cell (p := ⟨b, _, none⟩) hbl).trans (hc j _ hp).2
        have HM := hide (show (L.map (fun p => kyE A S p.1 p.2))[j]? = some (kyE A S q0 q1) by rw [List.getElem?_map, hp]; rfl)
        have HK := hide (fun W : World => key_any A S q h k q0 q1 W)
        have hr := kyE_rng A S q0 q1
        clear hc hp hbl
        have BN := hide ((Below.refl wr.heap.size wr).alloc (Nat.le_refl _) (.cells #[.int .i64 q0, .int .i64 q1] 39))
        have N0 := hide (alloc_new wr (.cells #[.int .i64 q0, .int .i64 q1] 39))
        have N1 := hide (blk_later ZZ.out BN.out)
        obtain ⟨z0, z1, z2, z3, z4⟩ := five_cells N1.out rfl
        have nn := pair_cells N0.out rfl
        obtain ⟨m0, m1⟩ := nn
        by_cases h0 : kyE A S q0 q1 = 0
        · rw [h0, errV_zero] at HK
          have HT2 := hide ((fst0_take HT.out HM.out).trans h0)
          clear h0 hr
          generalize kyE A S q0 q1 = e0 at *
          go_wp2_with fail
          refine (HK.out _).mono ?_
          rintro e w3 ⟨rfl, hb3⟩
          have HW2 := hide (HW.out.trans ((BN.out.trans (hb3.mono BN.out.size)).mono HW.out.size))
          clear hb3
          go_wp2_with fail
          go_roundw
          case rel => exact ⟨j + 1, by omega, by go_num, HT2, HW2⟩
          case measure => simp [intOf]; omega
        · rw [errV_pos (by omega)] at HK
          have HE := hide (fst0_hit HT.out HM.out h0)
          have HV := hide (errV_pos (show 1 ≤ kyE A S q0 q1 by omega))
          clear h0 hr
          generalize kyE A S q0 q1 = e0 at *
          go_wp2_with fail
          refine (HK.out _).mono ?_
          rintro e w3 ⟨rfl, hb3⟩
          have HW2 := hide (HW.out.trans ((BN.out.trans (hb3.mono BN.out.size)).mono HW.out.size))
          clear hb3
          go_wp2_with fail
          go_ret
          exact ⟨congrArg Ending.returned (show errV (snE A S L) = .iface 52 (.int .i64 e0) by rw [HS.out, HE.out, HV.out]).symm, HB.out.trans (HW2.out.mono HB.out.size)⟩
      · have e : j = L.length := by omega
        have HE : fst0 (L.map (fun p => kyE A S p.1 p.2)) = 0 := by
          have h1 := HT.out
          rw [e, List.take_of_length_le (by simp)] at h1; exact h1
        have HE2 := hide HE
        clear e HE
        have hd : decide ((j : Int) < (L.length : Int)) = false := by rw [decide_eq_false_iff_not]; omega
        go_wp2_with fail
        go_ret
        exact ⟨congrArg Ending.returned (show errV (snE A S L) = .nilIface by rw [HS.out, HE2.out, errV_zero]).symm, HB.out.trans (HW.out.mono HB.out.size)⟩
end Go.Proofs.YtdjhbecbbmdimaaGreatDoor
namespace Go.Proofs.YtdjhbecbbmdimaaGreatDoor
open Go.RowKit

set_option maxRecDepth 100000 in
set_option maxHeartbeats 2000000 in
theorem check_via (A S q h k cd ac as_ qt nm id a0 a1 : Int) (lv pv X : Value) (c g2 g3 g : Nat) (w : World) (hcd : cd = (c : Int)) (h1 : 1 ≤ c) (h2 : c ≤ 8) (hV : fmV c = .agg #[.int .i64 a0, .int .i64 a1, .func (.func g2) #[] #[], .func (.func g3) #[] #[], .func (.func g) #[] #[]]) (eg : ∀ args W, (callFunc g args).run Tryz.prog W = .ok (.enter g args) W)
    (hK : ∀ W, Below w.heap.size w W → Calls Tryz.prog g #[.agg #[.int .i64 A, .int .i64 S, .int .i64 q, .int .i64 h, .int .i64 k], .agg #[.int .i64 cd, .int .i64 ac, .int .i64 as_, .int .i64 qt, .int .i64 nm, .int .i64 id, lv, pv]] W fun e w' => e = .returned X ∧ Below W.heap.size W w') :
    Calls Tryz.prog 35 #[.agg #[.int .i64 A, .int .i64 S, .int .i64 q, .int .i64 h, .int .i64 k], .agg #[.int .i64 cd, .int .i64 ac, .int .i64 as_, .int .i64 qt, .int .i64 nm, .int .i64 id, lv, pv]] w fun e w' => e = .returned X ∧ Below w.heap.size w w' := by
  have HF := hide (fun W : World => formOf_any c W h1 h2)
  rw [hV] at HF
  rw [← hcd] at HF
  clear hV hcd h1 h2
  have HK := hide hK
  clear hK
  have B0 := hide (two_below w (.cells #[.int .i64 A, .int .i64 S, .int .i64 q, .int .i64 h, .int .i64 k] 77) (.cells #[.int .i64 cd, .int .i64 ac, .int .i64 as_, .int .i64 qt, .int .i64 nm, .int .i64 id, lv, pv] 25))
  have X0 := hide (two_new w (.cells #[.int .i64 A, .int .i64 S, .int .i64 q, .int .i64 h, .int .i64 k] 77) (.cells #[.int .i64 cd, .int .i64 ac, .int .i64 as_, .int .i64 qt, .int .i64 nm, .int .i64 id, lv, pv] 25))
  obtain ⟨x0, x1, x2, x3, x4⟩ := five_cells X0.out.1 rfl
  obtain ⟨y0, y1, y2, y3, y4, y5, y6, y7⟩ := eight_cells X0.out.2 rfl
  go_enter Tryz.func35, Tryz.ntmps35
  go_wp2_with fail
  refine (HF.out _).mono ?_
  rintro e w1 ⟨rfl, hb⟩
  have HB := hide (B0.out.trans (hb.mono B0.out.size))
  have Z0 := hide (alloc_block (o := .cells #[.int .i64 a0, .int .i64 a1, .func (.func g2) #[] #[], .func (.func g3) #[] #[], .func (.func g) #[] #[]] 95) (blk_later X0.out.1 hb))
  have Z1 := hide (alloc_block (o := .cells #[.int .i64 a0, .int .i64 a1, .func (.func g2) #[] #[], .func (.func g3) #[] #[], .func (.func g) #[] #[]] 95) (blk_later X0.out.2 hb))
  have Z2 := hide (alloc_new w1 (.cells #[.int .i64 a0, .int .i64 a1, .func (.func g2) #[] #[], .func (.func g3) #[] #[], .func (.func g) #[] #[]] 95))
  have HB1 := hide (HB.out.alloc HB.out.size (.cells #[.int .i64 a0, .int .i64 a1, .func (.func g2) #[] #[], .func (.func g3) #[] #[], .func (.func g) #[] #[]] 95))
  have HR := hide (World.setRow_alloc_new w1 #[.int .i64 0, .int .i64 0, .nilFunc, .nilFunc, .nilFunc] #[.int .i64 a0, .int .i64 a1, .func (.func g2) #[] #[], .func (.func g3) #[] #[], .func (.func g) #[] #[]] 95)
  have Z9 := hide (alloc_new w1 (.cells #[.int .i64 0, .int .i64 0, .nilFunc, .nilFunc, .nilFunc] 95))
  clear hb x0 x1 x2 x3 x4 y0 y1 y2 y3 y4 y5 y6 y7
  rw [← HR.out] at Z0 Z1 Z2 HB1
  obtain ⟨x0, x1, x2, x3, x4⟩ := five_cells Z0.out rfl
  obtain ⟨y0, y1, y2, y3, y4, y5, y6, y7⟩ := eight_cells Z1.out rfl
  obtain ⟨v0, v1, v2, v3, v4⟩ := five_cells Z2.out rfl
  go_wp2_with (first
    | (refine wpList_store_row rfl 95 _ _ rfl w1.heap.size #[.int .i64 a0, .int .i64 a1, .func (.func g2) #[] #[], .func (.func g3) #[] #[], .func (.func g) #[] #[]] rfl rfl 95 _ Z9.out ?s2 ?s3 ?s4 ?_)
    | go_in)
  case s2 => kernel_rfl
  case s3 => rfl
  case s4 => kernel_rfl
  refine (HK.out _ HB1.out).mono ?_
  rintro e w2 ⟨rfl, hb⟩
  have HB2 := hide (HB1.out.trans (hb.mono HB1.out.size))
  clear hb
  go_wp2_with fail
  go_ret
  exact ⟨rfl, HB2.out⟩
set_option maxRecDepth 100000 in
set_option maxHeartbeats 2000000 in
theorem check_bad (A S q h k cd ac as_ qt nm id : Int) (lv pv : Value) (w : World) (hcd : ¬ (1 ≤ cd ∧ cd ≤ 8)) :
    Calls Tryz.prog 35 #[.agg #[.int .i64 A, .int .i64 S, .int .i64 q, .int .i64 h, .int .i64 k], .agg #[.int .i64 cd, .int .i64 ac, .int .i64 as_, .int .i64 qt, .int .i64 nm, .int .i64 id, lv, pv]] w fun e w' => e = .returned (errV 13) ∧ Below w.heap.size w w' := by
  have HF := hide (fun W : World => formOf_bad cd W hcd)
  clear hcd
  have B0 := hide (two_below w (.cells #[.int .i64 A, .int .i64 S, .int .i64 q, .int .i64 h, .int .i64 k] 77) (.cells #[.int .i64 cd, .int .i64 ac, .int .i64 as_, .int .i64 qt, .int .i64 nm, .int .i64 id, lv, pv] 25))
  have X0 := hide (two_new w (.cells #[.int .i64 A, .int .i64 S, .int .i64 q, .int .i64 h, .int .i64 k] 77) (.cells #[.int .i64 cd, .int .i64 ac, .int .i64 as_, .int .i64 qt, .int .i64 nm, .int .i64 id, lv, pv] 25))
  obtain ⟨x0, x1, x2, x3, x4⟩ := five_cells X0.out.1 rfl
  obtain ⟨y0, y1, y2, y3, y4, y5, y6, y7⟩ := eight_cells X0.out.2 rfl
  go_enter Tryz.func35, Tryz.ntmps35
  go_wp2_with fail
  refine (HF.out _).mono ?_
  rintro e w1 ⟨rfl, hb⟩
  have HB := hide (B0.out.trans (hb.mono B0.out.size))
  clear hb x0 x1 x2 x3 x4 y0 y1 y2 y3 y4 y5 y6 y7
  have HR := hide (World.setRow_alloc_new w1 #[.int .i64 0, .int .i64 0, .nilFunc, .nilFunc, .nilFunc] #[.int .i64 0, .int .i64 0, .nilFunc, .nilFunc, .nilFunc] 95)
  have Z9 := hide (alloc_new w1 (.cells #[.int .i64 0, .int .i64 0, .nilFunc, .nilFunc, .nilFunc] 95))
  have HB1 := hide (HB.out.alloc HB.out.size (.cells #[.int .i64 0, .int .i64 0, .nilFunc, .nilFunc, .nilFunc] 95))
  go_wp2_with (first
    | (refine wpList_store_row rfl 95 _ _ rfl w1.heap.size #[.int .i64 0, .int .i64 0, .nilFunc, .nilFunc, .nilFunc] rfl rfl 95 _ Z9.out ?s2 ?s3 ?s4 ?_)
    | go_in)
  case s2 => kernel_rfl
  case s3 => rfl
  case s4 => kernel_rfl
  go_ret
  exact ⟨rfl, by rw [HR.out]; exact HB1.out⟩
/-- An operation as a value: its two rows are those of lv and pv. -/
def opV (o : OpX) (lv pv : Value) : Value := .agg #[.int .i64 o.code, .int .i64 o.acc, .int .i64 o.ass, .int .i64 o.qty, .int .i64 o.name, .int .i64 o.id, lv, pv]
theorem chk_1 {A S : Int} {o : OpX} (h : o.code = 1) : chk A S o = hdE A S o.acc o.ass o.qty := by unfold chk; simp [h]
theorem chk_2 {A S : Int} {o : OpX} (h : o.code = 2) : chk A S o = hdE A S o.acc o.ass o.qty := by unfold chk; simp [h]
theorem chk_3 {A S : Int} {o : OpX} (h : o.code = 3) : chk A S o = mkE A S o.acc o.ass o.qty o.name := by unfold chk; simp [h]
theorem chk_4 {A S : Int} {o : OpX} (h : o.code = 4) : chk A S o = mkE A S o.acc o.ass o.qty o.name := by unfold chk; simp [h]
theorem chk_5 {A S : Int} {o : OpX} (h : o.code = 5) : chk A S o = sbE A S o.id o.legs := by unfold chk; simp [h]
theorem chk_6 {A S : Int} {o : OpX} (h : o.code = 6) : chk A S o = idE o.id := by unfold chk; simp [h]
theorem chk_7 {A S : Int} {o : OpX} (h : o.code = 7) : chk A S o = idE o.id := by unfold chk; simp [h]
theorem chk_8 {A S : Int} {o : OpX} (h : o.code = 8) : chk A S o = snE A S o.pairs := by unfold chk; simp [h]
theorem chk_0 {A S : Int} {o : OpX} (h : ¬ (1 ≤ o.code ∧ o.code ≤ 8)) : chk A S o = 13 := by
  unfold chk
  rw [if_neg (by omega), if_neg (by omega), if_neg (by omega), if_neg (by omega), if_neg (by omega)]
theorem fmV_1 : fmV 1 = .agg #[.int .i64 3, .int .i64 0, .func (.func 89) #[] #[], .func (.func 90) #[] #[], .func (.func 91) #[] #[]] := by kernel_rfl
theorem fmV_2 : fmV 2 = .agg #[.int .i64 3, .int .i64 0, .func (.func 89) #[] #[], .func (.func 90) #[] #[], .func (.func 91) #[] #[]] := by kernel_rfl
theorem fmV_3 : fmV 3 = .agg #[.int .i64 4, .int .i64 0, .func (.func 92) #[] #[], .func (.func 93) #[] #[], .func (.func 94) #[] #[]] := by kernel_rfl
theorem fmV_4 : fmV 4 = .agg #[.int .i64 4, .int .i64 0, .func (.func 92) #[] #[], .func (.func 93) #[] #[], .func (.func 94) #[] #[]] := by kernel_rfl
theorem fmV_5 : fmV 5 = .agg #[.int .i64 1, .int .i64 5, .func (.func 95) #[] #[], .func (.func 96) #[] #[], .func (.func 97) #[] #[]] := by kernel_rfl
theorem fmV_6 : fmV 6 = .agg #[.int .i64 1, .int .i64 0, .func (.func 98) #[] #[], .func (.func 99) #[] #[], .func (.func 100) #[] #[]] := by kernel_rfl
theorem fmV_7 : fmV 7 = .agg #[.int .i64 1, .int .i64 0, .func (.func 98) #[] #[], .func (.func 99) #[] #[], .func (.func 100) #[] #[]] := by kernel_rfl
theorem fmV_8 : fmV 8 = .agg #[.int .i64 0, .int .i64 2, .func (.func 101) #[] #[], .func (.func 102) #[] #[], .func (.func 103) #[] #[]] := by kernel_rfl
set_option maxRecDepth 100000 in
set_option maxHeartbeats 2000000 in
theorem check_any (A S q h k : Int) (o : OpX) (lv pv : Value) (w : World) (hL : LG.RM w lv o.legs) (hP : KY.RM w pv o.pairs) (hl : o.legs.length ≤ 4611686018427387904) (hp : o.pairs.length ≤ 4611686018427387904) :
    Calls Tryz.prog 35 #[.agg #[.int .i64 A, .int .i64 S, .int .i64 q, .int .i64 h, .int .i64 k], opV o lv pv] w fun e w' => e = .returned (errV (chk A S o)) ∧ Below w.heap.size w w' := by
  unfold opV
  by_cases hc : 1 ≤ o.code ∧ o.code ≤ 8
  · obtain e | e | e | e | e | e | e | e : o.code = 1 ∨ o.code = 2 ∨ o.code = 3 ∨ o.code = 4 ∨ o.code = 5 ∨ o.code = 6 ∨ o.code = 7 ∨ o.code = 8 := by omega
    · rw [chk_1 e]
      exact check_via A S q h k o.code o.acc o.ass o.qty o.name o.id _ _ lv pv _ 1 _ _ _ w e (by omega) (by omega) fmV_1 (fun _ _ => by kernel_rfl) (fun W hb => held_any A S q h k o.code o.acc o.ass o.qty o.name o.id lv pv W)
    · rw [chk_2 e]
      exact check_via A S q h k o.code o.acc o.ass o.qty o.name o.id _ _ lv pv _ 2 _ _ _ w e (by omega) (by omega) fmV_2 (fun _ _ => by kernel_rfl) (fun W hb => held_any A S q h k o.code o.acc o.ass o.qty o.name o.id lv pv W)
    · rw [chk_3 e]
      exact check_via A S q h k o.code o.acc o.ass o.qty o.name o.id _ _ lv pv _ 3 _ _ _ w e (by omega) (by omega) fmV_3 (fun _ _ => by kernel_rfl) (fun W hb => marked_any A S q h k o.code o.acc o.ass o.qty o.name o.id lv pv W)
    · rw [chk_4 e]
      exact check_via A S q h k o.code o.acc o.ass o.qty o.name o.id _ _ lv pv _ 4 _ _ _ w e (by omega) (by omega) fmV_4 (fun _ _ => by kernel_rfl) (fun W hb => marked_any A S q h k o.code o.acc o.ass o.qty o.name o.id lv pv W)
    · rw [chk_5 e]
      exact check_via A S q h k o.code o.acc o.ass o.qty o.name o.id _ _ lv pv _ 5 _ _ _ w e (by omega) (by omega) fmV_5 (fun _ _ => by kernel_rfl) (fun W hb => submitted_any A S q h k o.code o.acc o.ass o.qty o.name o.id lv pv o.legs W (hL.later hb) hl)
    · rw [chk_6 e]
      exact check_via A S q h k o.code o.acc o.ass o.qty o.name o.id _ _ lv pv _ 6 _ _ _ w e (by omega) (by omega) fmV_6 (fun _ _ => by kernel_rfl) (fun W hb => identified_any A S q h k o.code o.acc o.ass o.qty o.name o.id lv pv W)
    · rw [chk_7 e]
      exact check_via A S q h k o.code o.acc o.ass o.qty o.name o.id _ _ lv pv _ 7 _ _ _ w e (by omega) (by omega) fmV_7 (fun _ _ => by kernel_rfl) (fun W hb => identified_any A S q h k o.code o.acc o.ass o.qty o.name o.id lv pv W)
    · rw [chk_8 e]
      exact check_via A S q h k o.code o.acc o.ass o.qty o.name o.id _ _ lv pv _ 8 _ _ _ w e (by omega) (by omega) fmV_8 (fun _ _ => by kernel_rfl) (fun W hb => paired_any A S q h k o.code o.acc o.ass o.qty o.name o.id lv pv o.pairs W (hP.later hb) hp)
  · rw [chk_0 hc]
    exact check_bad A S q h k o.code o.acc o.ass o.qty o.name o.id lv pv w hc
/-- What is wrong with a configuration. -/
def ftE (A S q h k : Int) : Int := if (1 ≤ A ∧ A ≤ 65536) ∧ (1 ≤ S ∧ S ≤ 65536) ∧ (0 ≤ q ∧ q ≤ 256) ∧ (1 ≤ h ∧ h ≤ 64) ∧ (0 ≤ k ∧ k ≤ 8) then 0 else 1
theorem ftE_b (A S q h k : Int) : ftE A S q h k = if ((decide (1 ≤ A) && decide (A ≤ 65536)) && (decide (1 ≤ S) && decide (S ≤ 65536)) && (decide (0 ≤ q) && decide (q ≤ 256)) && (decide (1 ≤ h) && decide (h ≤ 64)) && (decide (0 ≤ k) && decide (k ≤ 8))) = true then 0 else 1 := by
  unfold ftE
  by_cases hh : (1 ≤ A ∧ A ≤ 65536) ∧ (1 ≤ S ∧ S ≤ 65536) ∧ (0 ≤ q ∧ q ≤ 256) ∧ (1 ≤ h ∧ h ≤ 64) ∧ (0 ≤ k ∧ k ≤ 8)
  · rw [if_pos hh, if_pos (by simp; omega)]
  · rw [if_neg hh, if_neg (by simp only [Bool.and_eq_true, decide_eq_true_eq]; omega)]
end Go.Proofs.YtdjhbecbbmdimaaGreatDoor
