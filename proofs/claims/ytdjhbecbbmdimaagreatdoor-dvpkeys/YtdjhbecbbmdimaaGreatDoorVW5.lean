/-
  My own text: layer 17: the view's Get (printed by mkvw5.py).
-/
import Derived.Test.YtdjhbecbbmdimaaGreatDoorVW4
namespace Go.Proofs.YtdjhbecbbmdimaaGreatDoor
open Go.RowKit

set_option maxRecDepth 100000 in
set_option maxHeartbeats 8000000 in
theorem vget_any (g : Nat) (w : World) (F H : Nat → Prop) (x : VX) (q0 q1 : Int) (hV : VSt g w F H x) (hk : x.k < 4000000) :
    Calls Tryz.prog 149 #[.pointer (some ⟨g, 0, none⟩), .agg #[.int .i64 q0, .int .i64 q1]] w fun e w' => ∃ mv lv, e = .returned (.agg #[.int .i64 (vbk x (q0, q1)).av, mv, .int .i64 (vbk x (q0, q1)).st, lv]) ∧ BL.RM w' mv (vbk x (q0, q1)).ml ∧ LG.RM w' lv (vbk x (q0, q1)).ll ∧ VSt g w' (nF F w w') (nF H w w') (vgx x (q0, q1)) ∧ FrB F w w' := by
  obtain ⟨r, TL, WL, hr, hRS, hWT, hLN⟩ := hV
  have HKK := hide hk
  have HRS := hide hRS
  have HWT := hide hWT
  have HLN := hide hLN
  have hB0 := two_below w (.cells #[.int .i64 q0, .int .i64 q1] 39) (.cells #[.int .i64 0, .slice none 0 0, .int .i64 0, .slice none 0 0] 64)
  have hN0 := two_new w (.cells #[.int .i64 q0, .int .i64 q1] 39) (.cells #[.int .i64 0, .slice none 0 0, .int .i64 0, .slice none 0 0] 64)
  have HNO : Hid (¬ Chg g r (w.heap.size)) := hide (fun k => by have := hr.vv.lt k; omega)
  have HNR : Hid (¬ Chg g r (w.heap.size + 1)) := hide (fun k => by have := hr.vv.lt k; omega)
  have HBw : Hid (∀ b, Chg g r b → b < w.heap.size) := hide (fun b k => hr.vv.lt k)
  have HR0 := hide (hr.below hB0)
  have NO := hide hN0.1
  have NR := hide hN0.2
  have HL0 : Hid (∀ c, (c ∈ x.C ∨ c ∈ TL ∨ c ∈ WL) → ∀ b, own2 c b → b < w.heap.size) := hide (fun c hc b k => by
    have h := (hr.vc.ch c hc b k).2
    rw [nF_self] at h
    exact hr.low b h)
  clear hk hRS hWT hLN hr hB0 hN0
  go_enter Tryz.func149, Tryz.ntmps149
  go_wp2_with fail
  generalize (w.alloc (.cells #[.int .i64 q0, .int .i64 q1] 39)).alloc (.cells #[.int .i64 0, .slice none 0 0, .int .i64 0, .slice none 0 0] 64) = V0 at HR0 NO NR ⊢
  obtain ⟨D1, hD1⟩ : ∃ xw, World.drew V0 = xw := ⟨_, rfl⟩
  have hbD1 : Below V0.heap.size V0 D1 := by rw [← hD1]; exact (Below.refl _ _).drew
  have HRD1 := hide (HR0.out.below hbD1)
  have NGD1 := hide HRD1.out.vv.blk
  have NOD1 := hide (blk_later NO.out hbD1)
  have NRD1 := hide (blk_later NR.out hbD1)
  have HSZD1V0 : Hid (V0.heap.size ≤ D1.heap.size) := hide hbD1.size
  refine z_begins (S := fun W : World => (W.cell? ⟨g, 4, none⟩ = some ((r 4).v)) ∧ (W.cell? ⟨w.heap.size, 0, none⟩ = some (.int .i64 q0) ∧ W.cell? ⟨w.heap.size, 1, none⟩ = some (.int .i64 q1)) ∧ (W.cell? ⟨w.heap.size + 1, 0, none⟩ = some (.int .i64 0) ∧ W.cell? ⟨w.heap.size + 1, 1, none⟩ = some (.slice none 0 0) ∧ W.cell? ⟨w.heap.size + 1, 2, none⟩ = some (.int .i64 0) ∧ W.cell? ⟨w.heap.size + 1, 3, none⟩ = some (.slice none 0 0))) 10 11 #[false, false, false, false, false, false, false, false, false, false, false] (by kernel_rfl) (by kernel_rfl) (by kernel_rfl) (by rw [hD1]; exact ⟨((eight_cells NGD1.out rfl).2.2.2.2.1), (pair_cells NOD1.out rfl), (four_cells NRD1.out rfl)⟩) (fun hHeld => ?_)
  rw [hD1] at hHeld ⊢
  clear hD1 hbD1
  refine zk (v := ?_) 0 7 #[true, false, false, false, false, false, false, false, false, false, false] rfl rfl (by kernel_rfl) (by kernel_rfl) (by kernel_rfl) (by kernel_rfl) (fun _ _ _ h => h) (by kernel_rfl) (by rfl) ?hy hHeld ?_
  case hy => rintro W ⟨s1, ⟨s2, s3⟩, ⟨s4, s5, s6, s7⟩⟩; first | (go_simp; done) | (go_simp; with_reducible rfl)
  simp only [List.setIfInBounds_toArray, List.set_cons_zero, List.set_cons_succ]
  refine zk (v := ?_) 1 8 #[true, true, false, false, false, false, false, false, false, false, false] rfl rfl (by kernel_rfl) (by kernel_rfl) (by kernel_rfl) (by kernel_rfl) (fun _ _ _ h => h) (by kernel_rfl) (by rfl) ?hy hHeld ?_
  case hy => rintro W ⟨s1, ⟨s2, s3⟩, ⟨s4, s5, s6, s7⟩⟩; first | (go_simp; done) | (go_simp; with_reducible rfl)
  simp only [List.setIfInBounds_toArray, List.set_cons_zero, List.set_cons_succ]
  refine zk (v := ?_) 2 9 #[true, true, true, false, false, false, false, false, false, false, false] rfl rfl (by kernel_rfl) (by kernel_rfl) (by kernel_rfl) (by kernel_rfl) (fun _ _ _ h => h) (by kernel_rfl) (by rfl) ?hy hHeld ?_
  case hy => rintro W ⟨s1, ⟨s2, s3⟩, ⟨s4, s5, s6, s7⟩⟩; first | (go_simp; done) | (go_simp; with_reducible rfl)
  simp only [List.setIfInBounds_toArray, List.set_cons_zero, List.set_cons_succ]
  refine zk (v := ?_) 3 10 #[true, true, true, true, false, false, false, false, false, false, false] rfl rfl (by kernel_rfl) (by kernel_rfl) (by kernel_rfl) (by kernel_rfl) (fun _ _ _ h => h) (by kernel_rfl) (by rfl) ?hy hHeld ?_
  case hy => rintro W ⟨s1, ⟨s2, s3⟩, ⟨s4, s5, s6, s7⟩⟩; first | (go_simp; done) | (go_simp; with_reducible rfl)
  simp only [List.setIfInBounds_toArray, List.set_cons_zero, List.set_cons_succ]
  refine zk (v := ?_) 4 11 #[true, true, true, true, true, false, false, false, false, false, false] rfl rfl (by kernel_rfl) (by kernel_rfl) (by kernel_rfl) (by kernel_rfl) (fun _ _ _ h => h) (by kernel_rfl) (by rfl) ?hy hHeld ?_
  case hy => rintro W ⟨s1, ⟨s2, s3⟩, ⟨s4, s5, s6, s7⟩⟩; first | (go_simp; done) | (go_simp; with_reducible rfl)
  simp only [List.setIfInBounds_toArray, List.set_cons_zero, List.set_cons_succ]
  refine zk (v := ?_) 5 12 #[true, true, true, true, true, true, false, false, false, false, false] rfl rfl (by kernel_rfl) (by kernel_rfl) (by kernel_rfl) (by kernel_rfl) (fun _ _ _ h => h) (by kernel_rfl) (by rfl) ?hy hHeld ?_
  case hy => rintro W ⟨s1, ⟨s2, s3⟩, ⟨s4, s5, s6, s7⟩⟩; first | (go_simp; done) | (go_simp; with_reducible rfl)
  simp only [List.setIfInBounds_toArray, List.set_cons_zero, List.set_cons_succ]
  have hbA1 := (Below.refl D1.heap.size D1).alloc (Nat.le_refl _) (.cells #[.int .i64 q0, .int .i64 q1] 39)
  have NGA1 := hide (blk_later NGD1.out hbA1)
  have NOA1 := hide (blk_later NOD1.out hbA1)
  have NRA1 := hide (blk_later NRD1.out hbA1)
  obtain ⟨i1, hi1, hz10, hz11, hz12⟩ := info_parts KY.Tryz.infoMk
  obtain ⟨v1, w1, hrun1, hoth1, hft1, hch1, hVR1⟩ := HRD1.out.app 4 (by decide) (by decide) HRS.out.s4 23 23 i1 _ 16 Tryz.underlying23 hi1 hz10 hz11 hz12 rfl (by decide) (by decide) [.int .i64 q0, .int .i64 q1] rfl (by intro u hu; simp at hu; rcases hu with rfl | rfl <;> rfl) (by have := HLN.out.2.2.1; have := HKK.out; omega) (.cells #[.int .i64 q0, .int .i64 q1] 39) rfl HRD1.out.vc
  obtain ⟨a1, c1, hv1⟩ : ∃ a c, v1 = .slice a (x.A.length + 1) c := by have h := hVR1.vv.own 4; rw [upR_same] at h; exact owns_sl h
  subst hv1
  have NGw1 := hide ((hoth1 g (HRD1.out.vv.lt (.inl rfl)) (HRD1.out.vv.ng 4)).trans NGD1.out)
  have NOw1 := hide ((hoth1 (w.heap.size) (Array.getElem?_eq_some_iff.1 NOD1.out).1 (fun e => HNO.out (.inr ⟨4, e⟩))).trans NOD1.out)
  have NRw1 := hide ((hoth1 (w.heap.size + 1) (Array.getElem?_eq_some_iff.1 NRD1.out).1 (fun e => HNR.out (.inr ⟨4, e⟩))).trans NRD1.out)
  have HRUN1 := hide hrun1
  clear hi1 hz10 hz11 hz12 hrun1
  refine z_ready 6 #[true, true, true, true, true, true, true, false, false, false, false] rfl (by kernel_rfl) (by kernel_rfl) (by rfl) (fun K hK => ?_)
  go_simp
  refine hK.out _ _ (fun _ => ⟨((eight_cells NGA1.out rfl).2.2.2.2.1), (pair_cells NOA1.out rfl), (four_cells NRA1.out rfl)⟩) (fun hHeld => ?_)
  clear hK K
  refine z_ready 7 #[true, true, true, true, true, true, true, true, false, false, false] rfl (by kernel_rfl) (by kernel_rfl) (by rfl) (fun K hK => ?_)
  refine op_append_gen _ _ rfl _ ⟨D1.heap.size, 0, none⟩ 1 1 rfl rfl _ w1 HRUN1.out ?_
  simp only [Act.put, List.setIfInBounds_toArray]
  refine hK.out _ _ (fun _ => ⟨((eight_cells NGw1.out rfl).2.2.2.2.1), (pair_cells NOw1.out rfl), (four_cells NRw1.out rfl)⟩) (fun hHeld => ?_)
  clear hK K
  refine z_ready 8 #[true, true, true, true, true, true, true, true, true, false, false] rfl (by kernel_rfl) (by kernel_rfl) (by rfl) (fun K hK => ?_)
  go_simp
  refine hK.out _ _ (fun _ => ⟨((eight_cells NGw1.out rfl).2.2.2.2.1), (pair_cells NOw1.out rfl), (four_cells NRw1.out rfl)⟩) (fun hHeld => ?_)
  clear hK K
  refine z_ready 9 #[true, true, true, true, true, true, true, true, true, true, false] rfl (by kernel_rfl) (by kernel_rfl) (by rfl) (fun K hK => ?_)
  go_simp
  refine hK.out _ _ (fun _ => ⟨((eight_cells NGw1.out rfl).2.2.2.2.1), (pair_cells NOw1.out rfl), (four_cells NRw1.out rfl)⟩) (fun hHeld => ?_)
  clear hK K
  have hfz1 := nofz NGw1.out 4
  have hcx1 := (eight_cells NGw1.out rfl).2.2.2.2.1
  obtain ⟨W1, hW1⟩ : ∃ xw, World.setCell w1 ⟨g, 4, none⟩ (.slice a1 (x.A.length + 1) c1) = xw := ⟨_, rfl⟩
  rw [hW1] at hft1 hVR1
  obtain ⟨r1, hr1⟩ : ∃ xr, upR r 4 ⟨39, 2, .slice a1 (x.A.length + 1) c1, x.A.length + 1, KY.mc x.A ++ [.int .i64 q0, .int .i64 q1]⟩ = xr := ⟨_, rfl⟩
  rw [hr1] at hch1 hVR1
  have HV1 := hide hVR1
  have HF1 := hide hft1
  have HC1 := hide hch1
  have HUP1 := hide hr1
  have NO1 := hide ((hft1.block (w.heap.size) (Array.getElem?_eq_some_iff.1 NOD1.out).1 (HNO.out)).trans NOD1.out)
  have NR1 := hide ((hft1.block (w.heap.size + 1) (Array.getElem?_eq_some_iff.1 NRD1.out).1 (HNR.out)).trans NRD1.out)
  have HS1 : Hid (V0.heap.size ≤ W1.heap.size) := hide (Nat.le_trans HSZD1V0.out hft1.size)
  have HX1 := HSZD1V0
  clear hr1 hVR1 hft1 hch1 hoth1 hbA1
  refine z_ready 10 #[true, true, true, true, true, true, true, true, true, true, true] rfl (by kernel_rfl) (by kernel_rfl) (by rfl) (fun K hK => ?_)
  go_simp
  refine hK.out _ _ (fun h => absurd rfl h) (fun _ => ?_)
  clear hK K
  refine z_done (by kernel_rfl) ?_ _
  clear hW1 hfz1 hcx1 HRUN1 NGw1 NGA1 NGD1 HRD1 NOw1 NOA1 NOD1 NRw1 NRA1 NRD1
  try clear hHeld

  have HRS1 : Hid (RS (vgx x (q0, q1)) TL WL r1) := hide (by rw [← HUP1.out]; exact HRS.out.pA q0 q1 _ (x.k + 1))
  have HNO1 : Hid (¬ Chg g r1 (w.heap.size)) := hide (fun k => (HC1.out _ k).elim HNO.out (fun k2 => by have := (Array.getElem?_eq_some_iff.1 NO.out).1; have := HX1.out; omega))
  have HNR1 : Hid (¬ Chg g r1 (w.heap.size + 1)) := hide (fun k => (HC1.out _ k).elim HNR.out (fun k2 => by have := (Array.getElem?_eq_some_iff.1 NR.out).1; have := HX1.out; omega))
  obtain ⟨ka, kc, hk0⟩ : ∃ a c, (r1 0).v = .slice a x.K.length c := by have h := HV1.out.vv.own 0; rw [HRS1.out.s0.2.2.1] at h; exact owns_sl h
  obtain ⟨ca, cp, hk1⟩ : ∃ a c, (r1 1).v = .slice a x.C.length c := by have h := HV1.out.vv.own 1; rw [HRS1.out.s1.2.2.1] at h; exact owns_sl h
  have hng := HV1.out.vv.blk
  rw [hk0, hk1] at hng
  have NG1 := hide hng
  have HKR : Hid (KY.RM W1 (.slice ka x.K.length kc) x.K) := hide (KY.OM.rm (B := 0) (by
    have h := HV1.out.vv.own 0
    obtain ⟨s1, s2, s3, s4⟩ := HRS1.out.s0
    rw [s1, s2, s3, s4, hk0] at h
    exact h))
  have HCO : Hid (W1.ownsRow 0 64 4 (.slice ca x.C.length cp) x.C.length (cc x.C)) := hide (by
    have h := HV1.out.vv.own 1
    obtain ⟨s1, s2, s3, s4⟩ := HRS1.out.s1
    rw [s1, s2, s3, s4, hk1] at h
    exact h)
  have HK0 := hide hk0
  have HK1 := hide hk1
  clear hng hk0 hk1 HR0 HNO HNR HRS
  have B1 := hide (Below.refl W1.heap.size W1)
  go_wp2_with fail
  go_loopw [5] (fun i wr => ∃ j : Nat, j ≤ x.K.length ∧ i = .int .i64 (j : Int) ∧ Hid (∀ m, m < j → x.K[m]? ≠ some (q0, q1)) ∧ Hid (Below W1.heap.size W1 wr)) (fun i _ => x.K.length - (intOf i).toNat)
  case atStart => exact ⟨0, Nat.zero_le _, rfl, hide (fun m hm => by omega), B1⟩
  case round =>
    clear B1
    obtain ⟨j, hj, rfl, HNF, HB⟩ := hrel
    have HVr := hide (HV1.out.below HB.out)
    have NGr := hide (blk_later NG1.out HB.out)
    have NOr := hide (blk_later NO1.out HB.out)
    have NRr := hide (blk_later NR1.out HB.out)
    obtain ⟨y0, y1, y2, y3, y4, y5, y6, y7⟩ := eight_cells NGr.out rfl
    obtain ⟨x0, x1⟩ := pair_cells NOr.out rfl
    obtain ⟨u0, u1, u2, u3⟩ := four_cells NRr.out rfl
    by_cases hlt : j < x.K.length
    · obtain ⟨⟨k0, k1⟩, hx⟩ : ∃ p, x.K[j]? = some p := ⟨_, List.getElem?_eq_getElem hlt⟩
      obtain ⟨_, _, he0, _, hkr⟩ := HKR.out
      cases he0
      obtain ⟨kb, ko, rfl, hkl, hkc⟩ := hkr.resolve_left (fun h => by rw [h] at hlt; simp at hlt)
      have z0 : wr.cell? ⟨kb, ko + j * 2, none⟩ = some (.int .i64 k0) := (HB.out.cell (p := ⟨kb, _, none⟩) hkl).trans (hkc j _ hx).1
      have z1 : wr.cell? ⟨kb, ko + j * 2 + 1, none⟩ = some (.int .i64 k1) := (HB.out.cell (p := ⟨kb, _, none⟩) hkl).trans (hkc j _ hx).2
      have z1' : wr.cell? ⟨kb, ko + (j * 2 + 1), none⟩ = some (.int .i64 k1) := z1
      have hd : decide ((j : Int) < (x.K.length : Int)) = true := by rw [decide_eq_true_eq]; omega
      have k0' : (0 : Int) ≤ (j : Int) := by omega
      have k1' : (j : Int) < (x.K.length : Int) := by omega
      have wk : wrap64 ((j : Int) + 1) = (j : Int) + 1 := by have := HLN.out.2.1; have := HKK.out; unfold wrap64; omega
      have HX := hide hx
      have HJ := hide hlt
      have ev := KY.eqMk k0 k1 q0 q1
      clear hkc hx hkr hlt
      cases hE : (k0 == q0 && k1 == q1) with
      | false =>
        rw [hE] at ev
        have HNE : Hid (¬ (k0, k1) = (q0, q1)) := hide (fun e => by
          rw [Prod.mk.injEq] at e
          rw [e.1, e.2] at hE
          simp at hE)
        clear hE
        go_wp2_with fail
        go_quiet (fail)
        have HB2 := hide (below_dN HB.out nq)
        go_wp2_with fail
        go_roundw
        case rel => exact ⟨j + 1, by have := HJ.out; omega, by go_num, hide (fun m hm => by
          by_cases e : m = j
          · subst e; rw [HX.out]; intro k; exact HNE.out (Option.some.inj k)
          · exact HNF.out m (by omega)), HB2⟩
        case measure => have := HJ.out; first | (rw [wk]; simp [intOf]; omega) | (simp [intOf]; omega)
      | true =>
        rw [hE] at ev
        have HIX : Hid (ix x.K (q0, q1) = j) := hide (ix_at HNF.out (by
          simp only [Bool.and_eq_true, beq_iff_eq] at hE
          rw [HX.out, hE.1, hE.2]))
        clear hE
        obtain ⟨c, hc⟩ : ∃ c, x.C[j]? = some c := ⟨_, List.getElem?_eq_getElem (by rw [HLN.out.1]; exact HJ.out)⟩
        have HBK : Hid (vbk x (q0, q1) = c.cx) := hide (by unfold vbk; rw [HIX.out, hc]; rfl)
        obtain ⟨cav, cml, cmv, cst, cll, clv⟩ := c
        have hcr := HV1.out.vc.cl _ (List.mem_of_getElem? hc)
        obtain ⟨ma, mc, hmv⟩ := BL.rm_lt hcr.1.1
        simp only at hmv
        subst hmv
        obtain ⟨la, lc, hlv⟩ := LG.rm_lt hcr.1.2.1
        simp only at hlv
        subst hlv
        have HCC := hide hc
        have HCRc := hide hcr
        clear hc hcr
        go_wp2_with fail
        go_quiet (fail)
        have hbx := below_dN HB.out nq
        obtain ⟨X0, hX0⟩ : ∃ xw, World.drewN wr nq = xw := ⟨_, rfl⟩
        rw [hX0] at hbx ⊢
        have HBx := hide hbx
        clear hX0 hbx HVr NGr NOr NRr y0 y1 y2 y3 y4 y5 y6 y7 x0 x1 u0 u1 u2 u3 z0 z1 z1' HB ev
        have HVx := hide (HV1.out.below HBx.out)
        have NGx := hide (blk_later NG1.out HBx.out)
        have NOx := hide (blk_later NO1.out HBx.out)
        have NRx := hide (blk_later NR1.out HBx.out)
        obtain ⟨y0, y1, y2, y3, y4, y5, y6, y7⟩ := eight_cells NGx.out rfl
        obtain ⟨cb, hca⟩ : ∃ cb, ca = some ⟨cb, 0, none⟩ := by
          rcases HCO.out.2 with ⟨_, h0⟩ | ⟨cb, cap, cur, hv, _⟩
          · have := HLN.out.1; have := HJ.out; omega
          · injection hv with e1 e2 e3; exact ⟨cb, e1⟩
        subst hca
        have hcl : cb < W1.heap.size := (World.ownsRow.lt HCO.out cb rfl).2
        have hC4 : ∀ i, i < 4 → W1.cell? ⟨cb, j * 4 + i, none⟩ = (Cl.vs ⟨cav, cml, .slice ma cml.length mc, cst, cll, .slice la cll.length lc⟩)[i]? := fun i hi => by
          rw [World.ownsRow.cellAt HCO.out (j * 4 + i) (by have := HLN.out.1; have := HJ.out; omega)]
          exact cc_at HCC.out hi
        have HCL := hide hcl
        have HC4 := hide hC4
        have z0 : X0.cell? ⟨cb, j * 4, none⟩ = some (.int .i64 cav) := (HBx.out.cell (p := ⟨cb, _, none⟩) hcl).trans (hC4 0 (by decide))
        have z1 : X0.cell? ⟨cb, j * 4 + 1, none⟩ = some (.slice ma cml.length mc) := (HBx.out.cell (p := ⟨cb, _, none⟩) hcl).trans (hC4 1 (by decide))
        have z2 : X0.cell? ⟨cb, j * 4 + 2, none⟩ = some (.int .i64 cst) := (HBx.out.cell (p := ⟨cb, _, none⟩) hcl).trans (hC4 2 (by decide))
        have z3 : X0.cell? ⟨cb, j * 4 + 3, none⟩ = some (.slice la cll.length lc) := (HBx.out.cell (p := ⟨cb, _, none⟩) hcl).trans (hC4 3 (by decide))
        have hcx := HCRc.out.1.later HBx.out
        have HCRx := hide hcx
        have HLT := hide (lent_any cav cst _ _ cml cll X0 hcx.1 hcx.2.1 HCRc.out.2.1 HCRc.out.2.2)
        have k2' : (j : Int) < (x.C.length : Int) := by have := HLN.out.1; omega
        clear hcl hC4 hcx
        go_wp2_with fail
        refine HLT.out.mono ?_
        rintro e w3 ⟨gm, cm, gl, cl, rfl, hm3, hl3, hb3⟩
        have HV3 := hide (HVx.out.below hb3)
        have NG3 := hide (blk_later NGx.out hb3)
        have NO3 := hide (blk_later NOx.out hb3)
        have NR3 := hide (blk_later NRx.out hb3)
        have HM3 := hide hm3
        have HL3 := hide hl3
        have HB3 := hide hb3
        clear hm3 hl3 hb3 HLT z0 z1 z2 z3 y0 y1 y2 y3 y4 y5 y6 y7 HVx NGx NOx NRx
        go_wp2_with fail
        have hb4 := (Below.refl w3.heap.size w3).alloc (Nat.le_refl _) (.cells #[.int .i64 cav, .slice (some ⟨gm, 0, none⟩) cml.length cm, .int .i64 cst, .slice (some ⟨gl, 0, none⟩) cll.length cl] 64)
        have NQ := hide (alloc_new w3 (.cells #[.int .i64 cav, .slice (some ⟨gm, 0, none⟩) cml.length cm, .int .i64 cst, .slice (some ⟨gl, 0, none⟩) cll.length cl] 64))
        have HV4 := hide (HV3.out.below hb4)
        have NO4 := hide (blk_later NO3.out hb4)
        have NR4 := hide (blk_later NR3.out hb4)
        have HM4 := hide (HM3.out.later hb4)
        have HL4 := hide (HL3.out.later hb4)
        have HTQ : Hid (∀ b, own2 (⟨cav, cml, .slice (some ⟨gm, 0, none⟩) cml.length cm, cst, cll, .slice (some ⟨gl, 0, none⟩) cll.length cl⟩ : Cl) b → W1.heap.size ≤ b ∧ b < w3.heap.size) := hide (fun b k => by
          have h0 := HBx.out.size
          rcases k with k | k
          · cases k; have h1 : X0.heap.size ≤ gm := HM3.out.base; have h2 := HM3.out.parts.1; show W1.heap.size ≤ gm ∧ gm < w3.heap.size; omega
          · cases k; have h1 : X0.heap.size ≤ gl := HL3.out.base; have h2 := HL3.out.parts.1; show W1.heap.size ≤ gl ∧ gl < w3.heap.size; omega)
        have HQ0 : Hid (W1.heap.size ≤ w3.heap.size) := hide (Nat.le_trans HBx.out.size HB3.out.size)
        have HNQ : Hid (¬ Chg g r1 (w3.heap.size)) := hide (fun k => by have := HV1.out.vv.lt k; have := HQ0.out; omega)
        generalize hW4 : w3.alloc (.cells #[.int .i64 cav, .slice (some ⟨gm, 0, none⟩) cml.length cm, .int .i64 cst, .slice (some ⟨gl, 0, none⟩) cll.length cl] 64) = W4 at hb4 NQ HV4 NO4 NR4 HM4 HL4 ⊢
        have HS4 : Hid (w3.heap.size < W4.heap.size) := hide (Array.getElem?_eq_some_iff.1 NQ.out).1
        clear hW4 hb4 HV3 NO3 NR3
        have NR := NR4
        clear NR4
        obtain ⟨D7, hD7⟩ : ∃ xw, World.drew W4 = xw := ⟨_, rfl⟩
        have hbD7 : Below W4.heap.size W4 D7 := by rw [← hD7]; exact (Below.refl _ _).drew
        have HRD7 := hide (HV4.out.below hbD7)
        have NGD7 := hide HRD7.out.vv.blk
        have NQD7 := hide (blk_later NQ.out hbD7)
        have NRD7 := hide (blk_later NR.out hbD7)
        have HD7 : Hid (∀ b, b < W4.heap.size → D7.heap[b]? = W4.heap[b]?) := hide (fun b hb => hbD7.block b hb)
        have HSZD7W4 : Hid (W4.heap.size ≤ D7.heap.size) := hide hbD7.size
        refine z_begins (S := fun W : World => (W.cell? ⟨g, 2, none⟩ = some ((r1 2).v)) ∧ (W.cell? ⟨w3.heap.size, 0, none⟩ = some (.int .i64 cav) ∧ W.cell? ⟨w3.heap.size, 1, none⟩ = some (.slice (some ⟨gm, 0, none⟩) cml.length cm) ∧ W.cell? ⟨w3.heap.size, 2, none⟩ = some (.int .i64 cst) ∧ W.cell? ⟨w3.heap.size, 3, none⟩ = some (.slice (some ⟨gl, 0, none⟩) cll.length cl)) ∧ (W.cell? ⟨w.heap.size + 1, 0, none⟩ = some (.int .i64 0) ∧ W.cell? ⟨w.heap.size + 1, 1, none⟩ = some (.slice none 0 0) ∧ W.cell? ⟨w.heap.size + 1, 2, none⟩ = some (.int .i64 0) ∧ W.cell? ⟨w.heap.size + 1, 3, none⟩ = some (.slice none 0 0))) 10 11 #[false, false, false, false, false, false, false, false, false, false, false] (by kernel_rfl) (by kernel_rfl) (by kernel_rfl) (by rw [hD7]; exact ⟨((eight_cells NGD7.out rfl).2.2.1), (four_cells NQD7.out rfl), (four_cells NRD7.out rfl)⟩) (fun hHeld => ?_)
        rw [hD7] at hHeld ⊢
        clear hD7 hbD7
        refine zk (v := ?_) 0 43 #[true, false, false, false, false, false, false, false, false, false, false] rfl rfl (by kernel_rfl) (by kernel_rfl) (by kernel_rfl) (by kernel_rfl) (fun _ _ _ h => h) (by kernel_rfl) (by rfl) ?hy hHeld ?_
        case hy => rintro W ⟨s1, ⟨s2, s3, s4, s5⟩, ⟨s6, s7, s8, s9⟩⟩; first | (go_simp; done) | (go_simp; with_reducible rfl)
        simp only [List.setIfInBounds_toArray, List.set_cons_zero, List.set_cons_succ]
        refine zk (v := ?_) 1 44 #[true, true, false, false, false, false, false, false, false, false, false] rfl rfl (by kernel_rfl) (by kernel_rfl) (by kernel_rfl) (by kernel_rfl) (fun _ _ _ h => h) (by kernel_rfl) (by rfl) ?hy hHeld ?_
        case hy => rintro W ⟨s1, ⟨s2, s3, s4, s5⟩, ⟨s6, s7, s8, s9⟩⟩; first | (go_simp; done) | (go_simp; with_reducible rfl)
        simp only [List.setIfInBounds_toArray, List.set_cons_zero, List.set_cons_succ]
        refine zk (v := ?_) 2 45 #[true, true, true, false, false, false, false, false, false, false, false] rfl rfl (by kernel_rfl) (by kernel_rfl) (by kernel_rfl) (by kernel_rfl) (fun _ _ _ h => h) (by kernel_rfl) (by rfl) ?hy hHeld ?_
        case hy => rintro W ⟨s1, ⟨s2, s3, s4, s5⟩, ⟨s6, s7, s8, s9⟩⟩; first | (go_simp; done) | (go_simp; with_reducible rfl)
        simp only [List.setIfInBounds_toArray, List.set_cons_zero, List.set_cons_succ]
        refine zk (v := ?_) 3 46 #[true, true, true, true, false, false, false, false, false, false, false] rfl rfl (by kernel_rfl) (by kernel_rfl) (by kernel_rfl) (by kernel_rfl) (fun _ _ _ h => h) (by kernel_rfl) (by rfl) ?hy hHeld ?_
        case hy => rintro W ⟨s1, ⟨s2, s3, s4, s5⟩, ⟨s6, s7, s8, s9⟩⟩; first | (go_simp; done) | (go_simp; with_reducible rfl)
        simp only [List.setIfInBounds_toArray, List.set_cons_zero, List.set_cons_succ]
        refine zk (v := ?_) 4 47 #[true, true, true, true, true, false, false, false, false, false, false] rfl rfl (by kernel_rfl) (by kernel_rfl) (by kernel_rfl) (by kernel_rfl) (fun _ _ _ h => h) (by kernel_rfl) (by rfl) ?hy hHeld ?_
        case hy => rintro W ⟨s1, ⟨s2, s3, s4, s5⟩, ⟨s6, s7, s8, s9⟩⟩; first | (go_simp; done) | (go_simp; with_reducible rfl)
        simp only [List.setIfInBounds_toArray, List.set_cons_zero, List.set_cons_succ]
        refine zk (v := ?_) 5 48 #[true, true, true, true, true, true, false, false, false, false, false] rfl rfl (by kernel_rfl) (by kernel_rfl) (by kernel_rfl) (by kernel_rfl) (fun _ _ _ h => h) (by kernel_rfl) (by rfl) ?hy hHeld ?_
        case hy => rintro W ⟨s1, ⟨s2, s3, s4, s5⟩, ⟨s6, s7, s8, s9⟩⟩; first | (go_simp; done) | (go_simp; with_reducible rfl)
        simp only [List.setIfInBounds_toArray, List.set_cons_zero, List.set_cons_succ]
        have hbA7 := (Below.refl D7.heap.size D7).alloc (Nat.le_refl _) (.cells #[.int .i64 cav, .slice (some ⟨gm, 0, none⟩) cml.length cm, .int .i64 cst, .slice (some ⟨gl, 0, none⟩) cll.length cl] 64)
        have NGA7 := hide (blk_later NGD7.out hbA7)
        have NQA7 := hide (blk_later NQD7.out hbA7)
        have NRA7 := hide (blk_later NRD7.out hbA7)
        obtain ⟨i7, hi7, hz70, hz71, hz72⟩ := info_parts Tryz.infoC17
        obtain ⟨v7, w7, hrun7, hoth7, hft7, hch7, hVR7⟩ := HRD7.out.app 2 (by decide) (by decide) HRS1.out.s2 47 47 i7 _ 64 Tryz.underlying47 hi7 hz70 hz71 hz72 rfl (by decide) (by decide) [.int .i64 cav, .slice (some ⟨gm, 0, none⟩) cml.length cm, .int .i64 cst, .slice (some ⟨gl, 0, none⟩) cll.length cl] rfl (by intro u hu; simp at hu; rcases hu with rfl | rfl | rfl | rfl <;> rfl) (by have := HLN.out.2.2.2.1; have := HKK.out; omega) (.cells #[.int .i64 cav, .slice (some ⟨gm, 0, none⟩) cml.length cm, .int .i64 cst, .slice (some ⟨gl, 0, none⟩) cll.length cl] 64) rfl (HRD7.out.vc.addT HWT.out (⟨cav, cml, .slice (some ⟨gm, 0, none⟩) cml.length cm, cst, cll, .slice (some ⟨gl, 0, none⟩) cll.length cl⟩ : Cl) (fun b k => ⟨fun kk => by have := HTQ.out b k; have := HV1.out.vv.lt kk; omega, .inr ⟨by have := HTQ.out b k; have := HV1.out.fr.size; omega, by have := HTQ.out b k; have := HS4.out; have := HSZD7W4.out; omega⟩⟩))
        obtain ⟨a7, c7, hv7⟩ : ∃ a c, v7 = .slice a (TL.length + 1) c := by have h := hVR7.vv.own 2; rw [upR_same] at h; exact owns_sl h
        subst hv7
        have NGw7 := hide ((hoth7 g (HRD7.out.vv.lt (.inl rfl)) (HRD7.out.vv.ng 2)).trans NGD7.out)
        have NQw7 := hide ((hoth7 (w3.heap.size) (Array.getElem?_eq_some_iff.1 NQD7.out).1 (fun e => HNQ.out (.inr ⟨2, e⟩))).trans NQD7.out)
        have NRw7 := hide ((hoth7 (w.heap.size + 1) (Array.getElem?_eq_some_iff.1 NRD7.out).1 (fun e => HNR1.out (.inr ⟨2, e⟩))).trans NRD7.out)
        have HRUN7 := hide hrun7
        clear hi7 hz70 hz71 hz72 hrun7
        refine z_ready 6 #[true, true, true, true, true, true, true, false, false, false, false] rfl (by kernel_rfl) (by kernel_rfl) (by rfl) (fun K hK => ?_)
        go_simp
        refine hK.out _ _ (fun _ => ⟨((eight_cells NGA7.out rfl).2.2.1), (four_cells NQA7.out rfl), (four_cells NRA7.out rfl)⟩) (fun hHeld => ?_)
        clear hK K
        refine z_ready 7 #[true, true, true, true, true, true, true, true, false, false, false] rfl (by kernel_rfl) (by kernel_rfl) (by rfl) (fun K hK => ?_)
        refine op_append_gen _ _ rfl _ ⟨D7.heap.size, 0, none⟩ 1 1 rfl rfl _ w7 HRUN7.out ?_
        simp only [Act.put, List.setIfInBounds_toArray]
        refine hK.out _ _ (fun _ => ⟨((eight_cells NGw7.out rfl).2.2.1), (four_cells NQw7.out rfl), (four_cells NRw7.out rfl)⟩) (fun hHeld => ?_)
        clear hK K
        refine z_ready 8 #[true, true, true, true, true, true, true, true, true, false, false] rfl (by kernel_rfl) (by kernel_rfl) (by rfl) (fun K hK => ?_)
        go_simp
        refine hK.out _ _ (fun _ => ⟨((eight_cells NGw7.out rfl).2.2.1), (four_cells NQw7.out rfl), (four_cells NRw7.out rfl)⟩) (fun hHeld => ?_)
        clear hK K
        refine z_ready 9 #[true, true, true, true, true, true, true, true, true, true, false] rfl (by kernel_rfl) (by kernel_rfl) (by rfl) (fun K hK => ?_)
        go_simp
        refine hK.out _ _ (fun _ => ⟨((eight_cells NGw7.out rfl).2.2.1), (four_cells NQw7.out rfl), (four_cells NRw7.out rfl)⟩) (fun hHeld => ?_)
        clear hK K
        have hfz7 := nofz NGw7.out 2
        have hcx7 := (eight_cells NGw7.out rfl).2.2.1
        obtain ⟨W7, hW7⟩ : ∃ xw, World.setCell w7 ⟨g, 2, none⟩ (.slice a7 (TL.length + 1) c7) = xw := ⟨_, rfl⟩
        rw [hW7] at hft7 hVR7
        obtain ⟨r7, hr7⟩ : ∃ xr, upR r1 2 ⟨64, 4, .slice a7 (TL.length + 1) c7, TL.length + 1, cc TL ++ [.int .i64 cav, .slice (some ⟨gm, 0, none⟩) cml.length cm, .int .i64 cst, .slice (some ⟨gl, 0, none⟩) cll.length cl]⟩ = xr := ⟨_, rfl⟩
        rw [hr7] at hch7 hVR7
        have HV7 := hide hVR7
        have HF7 := hide hft7
        have HC7 := hide hch7
        have HUP7 := hide hr7
        have NQ7 := hide ((hft7.block (w3.heap.size) (Array.getElem?_eq_some_iff.1 NQD7.out).1 (HNQ.out)).trans NQD7.out)
        have NR7 := hide ((hft7.block (w.heap.size + 1) (Array.getElem?_eq_some_iff.1 NRD7.out).1 (HNR1.out)).trans NRD7.out)
        have HS7 : Hid (W4.heap.size ≤ W7.heap.size) := hide (Nat.le_trans HSZD7W4.out hft7.size)
        have HX7 := HSZD7W4
        clear hr7 hVR7 hft7 hch7 hoth7 hbA7
        refine z_ready 10 #[true, true, true, true, true, true, true, true, true, true, true] rfl (by kernel_rfl) (by kernel_rfl) (by rfl) (fun K hK => ?_)
        go_simp
        refine hK.out _ _ (fun h => absurd rfl h) (fun _ => ?_)
        clear hK K
        refine z_done (by kernel_rfl) ?_ _
        clear hW7 hfz7 hcx7 HRUN7 NGw7 NGA7 NGD7 HRD7 NQw7 NQA7 NQD7 NRw7 NRA7 NRD7
        try clear hHeld

        clear HV4 NO4
        have HRS7 : Hid (RS (vgx x (q0, q1)) (TL ++ [(⟨cav, cml, .slice (some ⟨gm, 0, none⟩) cml.length cm, cst, cll, .slice (some ⟨gl, 0, none⟩) cll.length cl⟩ : Cl)]) WL r7) := hide (by rw [← HUP7.out]; exact HRS1.out.pT (⟨cav, cml, .slice (some ⟨gm, 0, none⟩) cml.length cm, cst, cll, .slice (some ⟨gl, 0, none⟩) cll.length cl⟩ : Cl) _)
        have hk7 : (r7 1).v = .slice (some ⟨cb, 0, none⟩) x.C.length cp := by rw [← HUP7.out, upR_ne _ _ (by decide)]; exact HK1.out
        have Hr71 := hide hk7
        have HCO7 : Hid (W7.ownsRow 0 64 4 (.slice (some ⟨cb, 0, none⟩) x.C.length cp) x.C.length (cc x.C)) := hide (by
          have h := HV7.out.vv.own 1
          obtain ⟨s1, s2, s3, s4⟩ := HRS7.out.s1
          rw [s1, s2, s3, s4, hk7] at h
          exact h)
        have HC47 : Hid (∀ i, i < 4 → W7.cell? ⟨cb, j * 4 + i, none⟩ = (Cl.vs ⟨cav, cml, .slice ma cml.length mc, cst, cll, .slice la cll.length lc⟩)[i]?) := hide (fun i hi => by
          rw [World.ownsRow.cellAt HCO7.out (j * 4 + i) (by have := HLN.out.1; have := HJ.out; omega)]
          exact cc_at HCC.out hi)
        have HM7 : Hid (BL.LentM W7 0 gm cm cml) := hide ⟨Nat.zero_le _, owns_dn (owns_blk HM4.out.own (fun b hb => by
          cases hb
          have h1 := HTQ.out gm (.inl rfl)
          exact HF7.out.block gm (by have := HX7.out; have := HS4.out; omega) (fun k => by have := HV1.out.vv.lt k; omega)|>.trans (HD7.out gm (by have := HS4.out; omega)))) (fun _ _ => Nat.zero_le _)⟩
        have HL7 : Hid (LG.LentM W7 0 gl cl cll) := hide ⟨Nat.zero_le _, owns_dn (owns_blk HL4.out.own (fun b hb => by
          cases hb
          have h1 := HTQ.out gl (.inr rfl)
          exact HF7.out.block gl (by have := HX7.out; have := HS4.out; omega) (fun k => by have := HV1.out.vv.lt k; omega)|>.trans (HD7.out gl (by have := HS4.out; omega)))) (fun _ _ => Nat.zero_le _)⟩
        have HNR7 : Hid (¬ Chg g r7 (w.heap.size + 1)) := hide (fun k => (HC7.out _ k).elim HNR1.out (fun k2 => by have := (Array.getElem?_eq_some_iff.1 NR.out).1; have := HX7.out; omega))
        have HNQ7 : Hid (¬ Chg g r7 (w3.heap.size)) := hide (fun k => (HC7.out _ k).elim HNQ.out (fun k2 => by have := HS4.out; have := HX7.out; omega))
        have HCR7 : Hid (CR W7 ⟨cav, cml, .slice ma cml.length mc, cst, cll, .slice la cll.length lc⟩) := hide (HV7.out.vc.cl _ (List.mem_of_getElem? HCC.out)).1
        clear hk7 NR NQ
        have NR := NR7
        have NQ := NQ7
        clear NR7 NQ7
        go_wp2_with fail
        obtain ⟨D8, hD8⟩ : ∃ xw, World.drew W7 = xw := ⟨_, rfl⟩
        have hbD8 : Below W7.heap.size W7 D8 := by rw [← hD8]; exact (Below.refl _ _).drew
        have HRD8 := hide (HV7.out.below hbD8)
        have NGD8 := hide HRD8.out.vv.blk
        rw [show (r7 1).v = .slice (some ⟨cb, 0, none⟩) x.C.length cp from Hr71.out] at NGD8
        have NQD8 := hide (blk_later NQ.out hbD8)
        have NRD8 := hide (blk_later NR.out hbD8)
        have RD8_0_0 := hide ((hbD8.cell (p := ⟨cb, j * 4, none⟩) ((World.ownsRow.lt HCO7.out cb rfl).2)).trans (HC47.out 0 (by decide)))
        have RD8_0_1 := hide ((hbD8.cell (p := ⟨cb, j * 4 + 1, none⟩) ((World.ownsRow.lt HCO7.out cb rfl).2)).trans (HC47.out 1 (by decide)))
        have RD8_0_2 := hide ((hbD8.cell (p := ⟨cb, j * 4 + 2, none⟩) ((World.ownsRow.lt HCO7.out cb rfl).2)).trans (HC47.out 2 (by decide)))
        have RD8_0_3 := hide ((hbD8.cell (p := ⟨cb, j * 4 + 3, none⟩) ((World.ownsRow.lt HCO7.out cb rfl).2)).trans (HC47.out 3 (by decide)))
        have HMD := hide (HM7.out.later hbD8)
        have HLD := hide (HL7.out.later hbD8)
        have HCD8 := hide (HCR7.out.later hbD8)
        have HSZD8W7 : Hid (W7.heap.size ≤ D8.heap.size) := hide hbD8.size
        refine z_begins (S := fun W : World => (W.cell? ⟨g, 3, none⟩ = some ((r7 3).v) ∧ W.cell? ⟨g, 1, none⟩ = some (.slice (some ⟨cb, 0, none⟩) x.C.length cp)) ∧ (W.cell? ⟨w3.heap.size, 0, none⟩ = some (.int .i64 cav) ∧ W.cell? ⟨w3.heap.size, 1, none⟩ = some (.slice (some ⟨gm, 0, none⟩) cml.length cm) ∧ W.cell? ⟨w3.heap.size, 2, none⟩ = some (.int .i64 cst) ∧ W.cell? ⟨w3.heap.size, 3, none⟩ = some (.slice (some ⟨gl, 0, none⟩) cll.length cl)) ∧ (W.cell? ⟨w.heap.size + 1, 0, none⟩ = some (.int .i64 0) ∧ W.cell? ⟨w.heap.size + 1, 1, none⟩ = some (.slice none 0 0) ∧ W.cell? ⟨w.heap.size + 1, 2, none⟩ = some (.int .i64 0) ∧ W.cell? ⟨w.heap.size + 1, 3, none⟩ = some (.slice none 0 0)) ∧ (W.cell? ⟨cb, j * 4, none⟩ = some (.int .i64 cav) ∧ W.cell? ⟨cb, j * 4 + 1, none⟩ = some (.slice ma cml.length mc) ∧ W.cell? ⟨cb, j * 4 + 2, none⟩ = some (.int .i64 cst) ∧ W.cell? ⟨cb, j * 4 + 3, none⟩ = some (.slice la cll.length lc))) 17 18 #[false, false, false, false, false, false, false, false, false, false, false, false, false, false, false, false, false, false] (by kernel_rfl) (by kernel_rfl) (by kernel_rfl) (by rw [hD8]; exact ⟨⟨((eight_cells NGD8.out rfl).2.2.2.1), ((eight_cells NGD8.out rfl).2.1)⟩, (four_cells NQD8.out rfl), (four_cells NRD8.out rfl), ⟨RD8_0_0.out, RD8_0_1.out, RD8_0_2.out, RD8_0_3.out⟩⟩) (fun hHeld => ?_)
        rw [hD8] at hHeld ⊢
        clear hD8 hbD8
        refine zk (v := ?_) 0 53 #[true, false, false, false, false, false, false, false, false, false, false, false, false, false, false, false, false, false] rfl rfl (by kernel_rfl) (by kernel_rfl) (by kernel_rfl) (by kernel_rfl) (fun _ _ _ h => h) (by kernel_rfl) (by rfl) ?hy hHeld ?_
        case hy => rintro W ⟨⟨s1, s2⟩, ⟨s3, s4, s5, s6⟩, ⟨s7, s8, s9, s10⟩, ⟨s11, s12, s13, s14⟩⟩; first | (go_simp; done) | (go_simp; with_reducible rfl)
        simp only [List.setIfInBounds_toArray, List.set_cons_zero, List.set_cons_succ]
        refine zk (v := ?_) 1 54 #[true, true, false, false, false, false, false, false, false, false, false, false, false, false, false, false, false, false] rfl rfl (by kernel_rfl) (by kernel_rfl) (by kernel_rfl) (by kernel_rfl) (fun _ _ _ h => h) (by kernel_rfl) (by rfl) ?hy hHeld ?_
        case hy => rintro W ⟨⟨s1, s2⟩, ⟨s3, s4, s5, s6⟩, ⟨s7, s8, s9, s10⟩, ⟨s11, s12, s13, s14⟩⟩; first | (go_simp; done) | (go_simp; with_reducible rfl)
        simp only [List.setIfInBounds_toArray, List.set_cons_zero, List.set_cons_succ]
        refine zk (v := ?_) 2 55 #[true, true, true, false, false, false, false, false, false, false, false, false, false, false, false, false, false, false] rfl rfl (by kernel_rfl) (by kernel_rfl) (by kernel_rfl) (by kernel_rfl) (fun _ _ _ h => h) (by kernel_rfl) (by rfl) ?hy hHeld ?_
        case hy => rintro W ⟨⟨s1, s2⟩, ⟨s3, s4, s5, s6⟩, ⟨s7, s8, s9, s10⟩, ⟨s11, s12, s13, s14⟩⟩; first | (go_simp; done) | (go_simp; with_reducible rfl)
        simp only [List.setIfInBounds_toArray, List.set_cons_zero, List.set_cons_succ]
        refine zk (v := ?_) 3 56 #[true, true, true, true, false, false, false, false, false, false, false, false, false, false, false, false, false, false] rfl rfl (by kernel_rfl) (by kernel_rfl) (by kernel_rfl) (by kernel_rfl) (fun _ _ _ h => h) (by kernel_rfl) (by rfl) ?hy hHeld ?_
        case hy => rintro W ⟨⟨s1, s2⟩, ⟨s3, s4, s5, s6⟩, ⟨s7, s8, s9, s10⟩, ⟨s11, s12, s13, s14⟩⟩; first | (go_simp; done) | (go_simp; with_reducible rfl)
        simp only [List.setIfInBounds_toArray, List.set_cons_zero, List.set_cons_succ]
        refine zk (v := ?_) 4 57 #[true, true, true, true, true, false, false, false, false, false, false, false, false, false, false, false, false, false] rfl rfl (by kernel_rfl) (by kernel_rfl) (by kernel_rfl) (by kernel_rfl) (fun _ _ _ h => h) (by kernel_rfl) (by rfl) ?hy hHeld ?_
        case hy => rintro W ⟨⟨s1, s2⟩, ⟨s3, s4, s5, s6⟩, ⟨s7, s8, s9, s10⟩, ⟨s11, s12, s13, s14⟩⟩; first | (go_simp; done) | (go_simp; with_reducible rfl)
        simp only [List.setIfInBounds_toArray, List.set_cons_zero, List.set_cons_succ]
        refine zk (v := ?_) 5 58 #[true, true, true, true, true, true, false, false, false, false, false, false, false, false, false, false, false, false] rfl rfl (by kernel_rfl) (by kernel_rfl) (by kernel_rfl) (by kernel_rfl) (fun _ _ _ h => h) (by kernel_rfl) (by rfl) ?hy hHeld ?_
        case hy => rintro W ⟨⟨s1, s2⟩, ⟨s3, s4, s5, s6⟩, ⟨s7, s8, s9, s10⟩, ⟨s11, s12, s13, s14⟩⟩; first | (go_simp; done) | (go_simp; with_reducible rfl)
        simp only [List.setIfInBounds_toArray, List.set_cons_zero, List.set_cons_succ]
        refine zk (v := ?_) 6 59 #[true, true, true, true, true, true, true, false, false, false, false, false, false, false, false, false, false, false] rfl rfl (by kernel_rfl) (by kernel_rfl) (by kernel_rfl) (by kernel_rfl) (fun _ _ _ h => h) (by kernel_rfl) (by rfl) ?hy hHeld ?_
        case hy => rintro W ⟨⟨s1, s2⟩, ⟨s3, s4, s5, s6⟩, ⟨s7, s8, s9, s10⟩, ⟨s11, s12, s13, s14⟩⟩; first | (go_simp; done) | (go_simp; with_reducible rfl)
        simp only [List.setIfInBounds_toArray, List.set_cons_zero, List.set_cons_succ]
        refine zk (v := ?_) 7 60 #[true, true, true, true, true, true, true, true, false, false, false, false, false, false, false, false, false, false] rfl rfl (by kernel_rfl) (by kernel_rfl) (by kernel_rfl) (by kernel_rfl) (fun _ _ _ h => h) (by kernel_rfl) (by rfl) ?hy hHeld ?_
        case hy => rintro W ⟨⟨s1, s2⟩, ⟨s3, s4, s5, s6⟩, ⟨s7, s8, s9, s10⟩, ⟨s11, s12, s13, s14⟩⟩; first | (go_simp; done) | (go_simp; with_reducible rfl)
        simp only [List.setIfInBounds_toArray, List.set_cons_zero, List.set_cons_succ]
        refine zk (v := ?_) 8 61 #[true, true, true, true, true, true, true, true, true, false, false, false, false, false, false, false, false, false] rfl rfl (by kernel_rfl) (by kernel_rfl) (by kernel_rfl) (by kernel_rfl) (fun _ _ _ h => h) (by kernel_rfl) (by rfl) ?hy hHeld ?_
        case hy => rintro W ⟨⟨s1, s2⟩, ⟨s3, s4, s5, s6⟩, ⟨s7, s8, s9, s10⟩, ⟨s11, s12, s13, s14⟩⟩; first | (go_simp; done) | (go_simp; with_reducible rfl)
        simp only [List.setIfInBounds_toArray, List.set_cons_zero, List.set_cons_succ]
        refine zk (v := ?_) 9 62 #[true, true, true, true, true, true, true, true, true, true, false, false, false, false, false, false, false, false] rfl rfl (by kernel_rfl) (by kernel_rfl) (by kernel_rfl) (by kernel_rfl) (fun _ _ _ h => h) (by kernel_rfl) (by rfl) ?hy hHeld ?_
        case hy => rintro W ⟨⟨s1, s2⟩, ⟨s3, s4, s5, s6⟩, ⟨s7, s8, s9, s10⟩, ⟨s11, s12, s13, s14⟩⟩; first | (go_simp; done) | (go_simp; with_reducible rfl)
        simp only [List.setIfInBounds_toArray, List.set_cons_zero, List.set_cons_succ]
        refine zk (v := ?_) 10 63 #[true, true, true, true, true, true, true, true, true, true, true, false, false, false, false, false, false, false] rfl rfl (by kernel_rfl) (by kernel_rfl) (by kernel_rfl) (by kernel_rfl) (fun _ _ _ h => h) (by kernel_rfl) (by rfl) ?hy hHeld ?_
        case hy => rintro W ⟨⟨s1, s2⟩, ⟨s3, s4, s5, s6⟩, ⟨s7, s8, s9, s10⟩, ⟨s11, s12, s13, s14⟩⟩; first | (go_simp; done) | (go_simp; with_reducible rfl)
        simp only [List.setIfInBounds_toArray, List.set_cons_zero, List.set_cons_succ]
        refine zk (v := ?_) 11 64 #[true, true, true, true, true, true, true, true, true, true, true, true, false, false, false, false, false, false] rfl rfl (by kernel_rfl) (by kernel_rfl) (by kernel_rfl) (by kernel_rfl) (fun _ _ _ h => h) (by kernel_rfl) (by rfl) ?hy hHeld ?_
        case hy => rintro W ⟨⟨s1, s2⟩, ⟨s3, s4, s5, s6⟩, ⟨s7, s8, s9, s10⟩, ⟨s11, s12, s13, s14⟩⟩; first | (go_simp; done) | (go_simp; with_reducible rfl)
        simp only [List.setIfInBounds_toArray, List.set_cons_zero, List.set_cons_succ]
        refine z_ready 12 #[true, true, true, true, true, true, true, true, true, true, true, true, true, false, false, false, false, false] rfl (by kernel_rfl) (by kernel_rfl) (by rfl) (fun K hK => ?_)
        refine op_call_fn 153 #[.agg #[.int .i64 cav, .slice ma cml.length mc, .int .i64 cst, .slice la cll.length lc]] (by kernel_rfl) ?_
        refine (copyCell_any cav cst _ _ cml cll _ HCD8.out.1 HCD8.out.2.1 HCRc.out.2.1 HCRc.out.2.2).mono ?_
        rintro e E8 ⟨mv8, lv8, rfl, hm8, hl8, hbc⟩
        refine ⟨_, rfl, ?_⟩
        go_simp
        have HME := hide hm8
        have HLE := hide hl8
        obtain ⟨ua, uc, hmu⟩ := BL.rm_lt (BL.OM.rm hm8)
        subst hmu
        obtain ⟨va, vc, hlu⟩ := LG.rm_lt hl8.rm
        subst hlu
        have HUQ : Hid (∀ b, own2 (⟨cav, cml, .slice ua cml.length uc, cst, cll, .slice va cll.length vc⟩ : Cl) b → D8.heap.size ≤ b ∧ b < E8.heap.size) := hide (fun b k => k.elim (fun k => World.ownsRow.lt HME.out b k) (fun k => World.ownsRow.lt HLE.out b k))
        have HMD8 := hide (HMD.out.later hbc)
        have HLD8 := hide (HLD.out.later hbc)
        clear hm8 hl8
        have HRE8 := hide (HRD8.out.below hbc)
        have NGE8 := hide (blk_later NGD8.out hbc)
        have NQE8 := hide (blk_later NQD8.out hbc)
        have NRE8 := hide (blk_later NRD8.out hbc)
        have RE8_0_0 := hide ((hbc.cell (p := ⟨cb, j * 4, none⟩) (Nat.lt_of_lt_of_le ((World.ownsRow.lt HCO7.out cb rfl).2) (by have := HSZD8W7.out; omega))).trans RD8_0_0.out)
        have RE8_0_1 := hide ((hbc.cell (p := ⟨cb, j * 4 + 1, none⟩) (Nat.lt_of_lt_of_le ((World.ownsRow.lt HCO7.out cb rfl).2) (by have := HSZD8W7.out; omega))).trans RD8_0_1.out)
        have RE8_0_2 := hide ((hbc.cell (p := ⟨cb, j * 4 + 2, none⟩) (Nat.lt_of_lt_of_le ((World.ownsRow.lt HCO7.out cb rfl).2) (by have := HSZD8W7.out; omega))).trans RD8_0_2.out)
        have RE8_0_3 := hide ((hbc.cell (p := ⟨cb, j * 4 + 3, none⟩) (Nat.lt_of_lt_of_le ((World.ownsRow.lt HCO7.out cb rfl).2) (by have := HSZD8W7.out; omega))).trans RD8_0_3.out)
        have HSZE8W7 : Hid (W7.heap.size ≤ E8.heap.size) := hide (Nat.le_trans HSZD8W7.out hbc.size)
        clear hbc
        refine hK.out _ _ (fun _ => ⟨⟨((eight_cells NGE8.out rfl).2.2.2.1), ((eight_cells NGE8.out rfl).2.1)⟩, (four_cells NQE8.out rfl), (four_cells NRE8.out rfl), ⟨RE8_0_0.out, RE8_0_1.out, RE8_0_2.out, RE8_0_3.out⟩⟩) (fun hHeld => ?_)
        clear hK K
        have hbA8 := (Below.refl E8.heap.size E8).alloc (Nat.le_refl _) (.cells #[.int .i64 cav, .slice ua cml.length uc, .int .i64 cst, .slice va cll.length vc] 64)
        have NGA8 := hide (blk_later NGE8.out hbA8)
        have NQA8 := hide (blk_later NQE8.out hbA8)
        have NRA8 := hide (blk_later NRE8.out hbA8)
        have RA8_0_0 := hide ((hbA8.cell (p := ⟨cb, j * 4, none⟩) (Nat.lt_of_lt_of_le ((World.ownsRow.lt HCO7.out cb rfl).2) (by have := HSZE8W7.out; omega))).trans RE8_0_0.out)
        have RA8_0_1 := hide ((hbA8.cell (p := ⟨cb, j * 4 + 1, none⟩) (Nat.lt_of_lt_of_le ((World.ownsRow.lt HCO7.out cb rfl).2) (by have := HSZE8W7.out; omega))).trans RE8_0_1.out)
        have RA8_0_2 := hide ((hbA8.cell (p := ⟨cb, j * 4 + 2, none⟩) (Nat.lt_of_lt_of_le ((World.ownsRow.lt HCO7.out cb rfl).2) (by have := HSZE8W7.out; omega))).trans RE8_0_2.out)
        have RA8_0_3 := hide ((hbA8.cell (p := ⟨cb, j * 4 + 3, none⟩) (Nat.lt_of_lt_of_le ((World.ownsRow.lt HCO7.out cb rfl).2) (by have := HSZE8W7.out; omega))).trans RE8_0_3.out)
        obtain ⟨i8, hi8, hz80, hz81, hz82⟩ := info_parts Tryz.infoC17
        obtain ⟨v8, w8, hrun8, hoth8, hft8, hch8, hVR8⟩ := HRE8.out.app 3 (by decide) (by decide) HRS7.out.s3 47 47 i8 _ 64 Tryz.underlying47 hi8 hz80 hz81 hz82 rfl (by decide) (by decide) [.int .i64 cav, .slice ua cml.length uc, .int .i64 cst, .slice va cll.length vc] rfl (by intro u hu; simp at hu; rcases hu with rfl | rfl | rfl | rfl <;> rfl) (by have := HLN.out.2.2.2.2.1; have := HKK.out; omega) (.cells #[.int .i64 cav, .slice ua cml.length uc, .int .i64 cst, .slice va cll.length vc] 64) rfl ((HRE8.out.vc).addW HWT.out (⟨cav, cml, .slice ua cml.length uc, cst, cll, .slice va cll.length vc⟩ : Cl) (fun b k => ⟨fun kk => by have := HUQ.out b k; have := HV7.out.vv.lt kk; have := HSZD8W7.out; omega, .inr ⟨by have := HUQ.out b k; have := HV7.out.fr.size; have := HSZD8W7.out; omega, by have := HUQ.out b k; omega⟩⟩) ⟨⟨rfl, rfl, rfl, rfl⟩, ⟨BL.OM.rm HME.out, HLE.out.rm, fun b k => (HUQ.out b k).2⟩, ⟨gm, cm, rfl, HMD8.out⟩, ⟨gl, cl, rfl, HLD8.out⟩⟩)
        obtain ⟨a8, c8, hv8⟩ : ∃ a c, v8 = .slice a (WL.length + 1) c := by have h := hVR8.vv.own 3; rw [upR_same] at h; exact owns_sl h
        subst hv8
        have NGw8 := hide ((hoth8 g (HRE8.out.vv.lt (.inl rfl)) (HRE8.out.vv.ng 3)).trans NGE8.out)
        have NQw8 := hide ((hoth8 (w3.heap.size) (Array.getElem?_eq_some_iff.1 NQE8.out).1 (fun e => HNQ7.out (.inr ⟨3, e⟩))).trans NQE8.out)
        have NRw8 := hide ((hoth8 (w.heap.size + 1) (Array.getElem?_eq_some_iff.1 NRE8.out).1 (fun e => HNR7.out (.inr ⟨3, e⟩))).trans NRE8.out)
        have Rw8_0_0 := hide ((World.cell?_of_block (a := ⟨cb, j * 4, none⟩) (hoth8 (cb) (Nat.lt_of_lt_of_le ((World.ownsRow.lt HCO7.out cb rfl).2) HSZE8W7.out) (HV7.out.vv.ap 1 3 (by decide) cb (by rw [Hr71.out]; rfl)))).trans RE8_0_0.out)
        have Rw8_0_1 := hide ((World.cell?_of_block (a := ⟨cb, j * 4 + 1, none⟩) (hoth8 (cb) (Nat.lt_of_lt_of_le ((World.ownsRow.lt HCO7.out cb rfl).2) HSZE8W7.out) (HV7.out.vv.ap 1 3 (by decide) cb (by rw [Hr71.out]; rfl)))).trans RE8_0_1.out)
        have Rw8_0_2 := hide ((World.cell?_of_block (a := ⟨cb, j * 4 + 2, none⟩) (hoth8 (cb) (Nat.lt_of_lt_of_le ((World.ownsRow.lt HCO7.out cb rfl).2) HSZE8W7.out) (HV7.out.vv.ap 1 3 (by decide) cb (by rw [Hr71.out]; rfl)))).trans RE8_0_2.out)
        have Rw8_0_3 := hide ((World.cell?_of_block (a := ⟨cb, j * 4 + 3, none⟩) (hoth8 (cb) (Nat.lt_of_lt_of_le ((World.ownsRow.lt HCO7.out cb rfl).2) HSZE8W7.out) (HV7.out.vv.ap 1 3 (by decide) cb (by rw [Hr71.out]; rfl)))).trans RE8_0_3.out)
        have HRUN8 := hide hrun8
        clear hi8 hz80 hz81 hz82 hrun8
        refine z_ready 13 #[true, true, true, true, true, true, true, true, true, true, true, true, true, true, false, false, false, false] rfl (by kernel_rfl) (by kernel_rfl) (by rfl) (fun K hK => ?_)
        go_simp
        refine hK.out _ _ (fun _ => ⟨⟨((eight_cells NGA8.out rfl).2.2.2.1), ((eight_cells NGA8.out rfl).2.1)⟩, (four_cells NQA8.out rfl), (four_cells NRA8.out rfl), ⟨RA8_0_0.out, RA8_0_1.out, RA8_0_2.out, RA8_0_3.out⟩⟩) (fun hHeld => ?_)
        clear hK K
        refine z_ready 14 #[true, true, true, true, true, true, true, true, true, true, true, true, true, true, true, false, false, false] rfl (by kernel_rfl) (by kernel_rfl) (by rfl) (fun K hK => ?_)
        refine op_append_gen _ _ rfl _ ⟨E8.heap.size, 0, none⟩ 1 1 rfl rfl _ w8 HRUN8.out ?_
        simp only [Act.put, List.setIfInBounds_toArray]
        refine hK.out _ _ (fun _ => ⟨⟨((eight_cells NGw8.out rfl).2.2.2.1), ((eight_cells NGw8.out rfl).2.1)⟩, (four_cells NQw8.out rfl), (four_cells NRw8.out rfl), ⟨Rw8_0_0.out, Rw8_0_1.out, Rw8_0_2.out, Rw8_0_3.out⟩⟩) (fun hHeld => ?_)
        clear hK K
        refine z_ready 15 #[true, true, true, true, true, true, true, true, true, true, true, true, true, true, true, true, false, false] rfl (by kernel_rfl) (by kernel_rfl) (by rfl) (fun K hK => ?_)
        go_simp
        refine hK.out _ _ (fun _ => ⟨⟨((eight_cells NGw8.out rfl).2.2.2.1), ((eight_cells NGw8.out rfl).2.1)⟩, (four_cells NQw8.out rfl), (four_cells NRw8.out rfl), ⟨Rw8_0_0.out, Rw8_0_1.out, Rw8_0_2.out, Rw8_0_3.out⟩⟩) (fun hHeld => ?_)
        clear hK K
        refine z_ready 16 #[true, true, true, true, true, true, true, true, true, true, true, true, true, true, true, true, true, false] rfl (by kernel_rfl) (by kernel_rfl) (by rfl) (fun K hK => ?_)
        go_simp
        refine hK.out _ _ (fun _ => ⟨⟨((eight_cells NGw8.out rfl).2.2.2.1), ((eight_cells NGw8.out rfl).2.1)⟩, (four_cells NQw8.out rfl), (four_cells NRw8.out rfl), ⟨Rw8_0_0.out, Rw8_0_1.out, Rw8_0_2.out, Rw8_0_3.out⟩⟩) (fun hHeld => ?_)
        clear hK K
        have hfz8 := nofz NGw8.out 3
        have hcx8 := (eight_cells NGw8.out rfl).2.2.2.1
        obtain ⟨W8, hW8⟩ : ∃ xw, World.setCell w8 ⟨g, 3, none⟩ (.slice a8 (WL.length + 1) c8) = xw := ⟨_, rfl⟩
        rw [hW8] at hft8 hVR8
        obtain ⟨r8, hr8⟩ : ∃ xr, upR r7 3 ⟨64, 4, .slice a8 (WL.length + 1) c8, WL.length + 1, cc WL ++ [.int .i64 cav, .slice ua cml.length uc, .int .i64 cst, .slice va cll.length vc]⟩ = xr := ⟨_, rfl⟩
        rw [hr8] at hch8 hVR8
        have HV8 := hide hVR8
        have HF8 := hide hft8
        have HC8 := hide hch8
        have HUP8 := hide hr8
        have NQ8 := hide ((hft8.block (w3.heap.size) (Array.getElem?_eq_some_iff.1 NQE8.out).1 (HNQ7.out)).trans NQE8.out)
        have NR8 := hide ((hft8.block (w.heap.size + 1) (Array.getElem?_eq_some_iff.1 NRE8.out).1 (HNR7.out)).trans NRE8.out)
        have HS8 : Hid (W7.heap.size ≤ W8.heap.size) := hide (Nat.le_trans HSZE8W7.out hft8.size)
        have HX8 := HSZE8W7
        clear hr8 hVR8 hft8 hch8 hoth8 hbA8
        refine z_ready 17 #[true, true, true, true, true, true, true, true, true, true, true, true, true, true, true, true, true, true] rfl (by kernel_rfl) (by kernel_rfl) (by rfl) (fun K hK => ?_)
        go_simp
        refine hK.out _ _ (fun h => absurd rfl h) (fun _ => ?_)
        clear hK K
        refine z_done (by kernel_rfl) ?_ _
        clear hW8 hfz8 hcx8 HRUN8 NGw8 NGA8 NGD8 HRD8 NGE8 HRE8 NQw8 NQA8 NQD8 NQE8 NRw8 NRA8 NRD8 NRE8 Rw8_0_0 RA8_0_0 RD8_0_0 RE8_0_0 Rw8_0_1 RA8_0_1 RD8_0_1 RE8_0_1 Rw8_0_2 RA8_0_2 RD8_0_2 RE8_0_2 Rw8_0_3 RA8_0_3 RD8_0_3 RE8_0_3
        try clear hHeld

        have HRS8 : Hid (RS (vgx x (q0, q1)) (TL ++ [(⟨cav, cml, .slice (some ⟨gm, 0, none⟩) cml.length cm, cst, cll, .slice (some ⟨gl, 0, none⟩) cll.length cl⟩ : Cl)]) (WL ++ [(⟨cav, cml, .slice ua cml.length uc, cst, cll, .slice va cll.length vc⟩ : Cl)]) r8) := hide (by rw [← HUP8.out]; exact HRS7.out.pW (⟨cav, cml, .slice ua cml.length uc, cst, cll, .slice va cll.length vc⟩ : Cl) _)
        have HNR8 : Hid (¬ Chg g r8 (w.heap.size + 1)) := hide (fun k => (HC8.out _ k).elim HNR7.out (fun k2 => by have := (Array.getElem?_eq_some_iff.1 NR.out).1; have := HX8.out; omega))
        obtain ⟨n0, n1, n2, n3⟩ := four_cells NQ8.out rfl
        have NRq := NR8.out
        obtain ⟨U0, hU0⟩ : ∃ x, World.setCell W8 ⟨w.heap.size + 1, 0, none⟩ (.int .i64 cav) = x := ⟨_, rfl⟩
        have MU0 := setB NRq 0 (.int .i64 cav) rfl
        have EU0 : ∀ b, b ≠ w.heap.size + 1 → (World.setCell W8 ⟨w.heap.size + 1, 0, none⟩ (.int .i64 cav)).heap[b]? = W8.heap[b]? := fun b hb => Below.heap_setCell W8 ⟨w.heap.size + 1, 0, none⟩ (.int .i64 cav) b hb
        have BU0 := (Below.refl (w.heap.size + 1) W8).setCell (p := ⟨w.heap.size + 1, 0, none⟩) (Nat.le_refl _) (.int .i64 cav)
        have fU0 := nofz NRq 0
        have cU0 := four_cells NRq rfl
        rw [hU0] at MU0 EU0 BU0
        obtain ⟨U1, hU1⟩ : ∃ x, World.setCell U0 ⟨w.heap.size + 1, 1, none⟩ (.slice (some ⟨gm, 0, none⟩) cml.length cm) = x := ⟨_, rfl⟩
        have MU1 := setB MU0 1 (.slice (some ⟨gm, 0, none⟩) cml.length cm) rfl
        have EU1 : ∀ b, b ≠ w.heap.size + 1 → (World.setCell U0 ⟨w.heap.size + 1, 1, none⟩ (.slice (some ⟨gm, 0, none⟩) cml.length cm)).heap[b]? = U0.heap[b]? := fun b hb => Below.heap_setCell U0 ⟨w.heap.size + 1, 1, none⟩ (.slice (some ⟨gm, 0, none⟩) cml.length cm) b hb
        have BU1 := (Below.refl (w.heap.size + 1) U0).setCell (p := ⟨w.heap.size + 1, 1, none⟩) (Nat.le_refl _) (.slice (some ⟨gm, 0, none⟩) cml.length cm)
        have fU1 := nofz MU0 1
        have cU1 := four_cells MU0 rfl
        rw [hU1] at MU1 EU1 BU1
        obtain ⟨U2, hU2⟩ : ∃ x, World.setCell U1 ⟨w.heap.size + 1, 2, none⟩ (.int .i64 cst) = x := ⟨_, rfl⟩
        have MU2 := setB MU1 2 (.int .i64 cst) rfl
        have EU2 : ∀ b, b ≠ w.heap.size + 1 → (World.setCell U1 ⟨w.heap.size + 1, 2, none⟩ (.int .i64 cst)).heap[b]? = U1.heap[b]? := fun b hb => Below.heap_setCell U1 ⟨w.heap.size + 1, 2, none⟩ (.int .i64 cst) b hb
        have BU2 := (Below.refl (w.heap.size + 1) U1).setCell (p := ⟨w.heap.size + 1, 2, none⟩) (Nat.le_refl _) (.int .i64 cst)
        have fU2 := nofz MU1 2
        have cU2 := four_cells MU1 rfl
        rw [hU2] at MU2 EU2 BU2
        obtain ⟨U3, hU3⟩ : ∃ x, World.setCell U2 ⟨w.heap.size + 1, 3, none⟩ (.slice (some ⟨gl, 0, none⟩) cll.length cl) = x := ⟨_, rfl⟩
        have MU3 := setB MU2 3 (.slice (some ⟨gl, 0, none⟩) cll.length cl) rfl
        have EU3 : ∀ b, b ≠ w.heap.size + 1 → (World.setCell U2 ⟨w.heap.size + 1, 3, none⟩ (.slice (some ⟨gl, 0, none⟩) cll.length cl)).heap[b]? = U2.heap[b]? := fun b hb => Below.heap_setCell U2 ⟨w.heap.size + 1, 3, none⟩ (.slice (some ⟨gl, 0, none⟩) cll.length cl) b hb
        have BU3 := (Below.refl (w.heap.size + 1) U2).setCell (p := ⟨w.heap.size + 1, 3, none⟩) (Nat.le_refl _) (.slice (some ⟨gl, 0, none⟩) cll.length cl)
        have fU3 := nofz MU2 3
        have cU3 := four_cells MU2 rfl
        rw [hU3] at MU3 EU3 BU3
        have cU4 := four_cells MU3 rfl
        have HEU : Hid (∀ b, b ≠ w.heap.size + 1 → U3.heap[b]? = W8.heap[b]?) := hide (fun b hb => (EU3 b hb).trans ((EU2 b hb).trans ((EU1 b hb).trans ((EU0 b hb)))))
        have HMU := hide MU3
        have HBU := hide ((((BU0).trans BU1).trans BU2).trans BU3)
        clear MU0 EU0 BU0 MU1 EU1 BU1 MU2 EU2 BU2 MU3 EU3 BU3
        obtain ⟨cU00, cU01, cU02, cU03⟩ := cU0
        obtain ⟨cU10, cU11, cU12, cU13⟩ := cU1
        obtain ⟨cU20, cU21, cU22, cU23⟩ := cU2
        obtain ⟨cU30, cU31, cU32, cU33⟩ := cU3
        obtain ⟨cU40, cU41, cU42, cU43⟩ := cU4
        clear NRq
        have HVU := hide (HV8.out.box HBU.out HEU.out (Nat.le_succ _) HNR8.out (fun c hc b k => by
          have hW := HV1.out.fr.size
          have hRl := (Array.getElem?_eq_some_iff.1 NR1.out).1
          have hold : (c ∈ x.C ∨ c ∈ TL ∨ c ∈ WL) → b ≠ w.heap.size + 1 := fun hh => by have := HL0.out c hh b k; omega
          rcases hc with hc | hc | hc
          · exact hold (.inl hc)
          · rcases List.mem_append.1 hc with hc | hc
            · exact hold (.inr (.inl hc))
            · rw [List.mem_singleton.1 hc] at k; have := HTQ.out b k; omega
          · rcases List.mem_append.1 hc with hc | hc
            · exact hold (.inr (.inr hc))
            · rw [List.mem_singleton.1 hc] at k; have := HUQ.out b k; have := HSZD8W7.out; have := HS7.out; have := HS4.out; have := HQ0.out; omega))
        have HMU : Hid (BL.RM U3 (.slice (some ⟨gm, 0, none⟩) cml.length cm) cml) := hide (by
          obtain ⟨g', c', e1, e2⟩ := (HVU.out.vc.tw TL.length (⟨cav, cml, .slice (some ⟨gm, 0, none⟩) cml.length cm, cst, cll, .slice (some ⟨gl, 0, none⟩) cll.length cl⟩ : Cl) (⟨cav, cml, .slice ua cml.length uc, cst, cll, .slice va cll.length vc⟩ : Cl) (by rw [List.getElem?_append_right (Nat.le_refl _), Nat.sub_self]; rfl) (by rw [← HWT.out, List.getElem?_append_right (Nat.le_refl _), Nat.sub_self]; rfl)).lm
          cases e1
          exact e2.rm)
        have HLU : Hid (LG.RM U3 (.slice (some ⟨gl, 0, none⟩) cll.length cl) cll) := hide (by
          obtain ⟨g', c', e1, e2⟩ := (HVU.out.vc.tw TL.length (⟨cav, cml, .slice (some ⟨gm, 0, none⟩) cml.length cm, cst, cll, .slice (some ⟨gl, 0, none⟩) cll.length cl⟩ : Cl) (⟨cav, cml, .slice ua cml.length uc, cst, cll, .slice va cll.length vc⟩ : Cl) (by rw [List.getElem?_append_right (Nat.le_refl _), Nat.sub_self]; rfl) (by rw [← HWT.out, List.getElem?_append_right (Nat.le_refl _), Nat.sub_self]; rfl)).lg
          cases e1
          exact e2.rm)
        go_wp2_with fail
        refine bodyPost_ret (v := .agg #[.int .i64 cav, .slice (some ⟨gm, 0, none⟩) cml.length cm, .int .i64 cst, .slice (some ⟨gl, 0, none⟩) cll.length cl]) (by simp [results, Tryz.results149, go_sem, cU40, cU41, cU42, cU43]) rfl ?_
        rw [HBK.out]
        exact ⟨_, _, rfl, HMU.out, HLU.out, ⟨r8, TL ++ [(⟨cav, cml, .slice (some ⟨gm, 0, none⟩) cml.length cm, cst, cll, .slice (some ⟨gl, 0, none⟩) cll.length cl⟩ : Cl)], WL ++ [(⟨cav, cml, .slice ua cml.length uc, cst, cll, .slice va cll.length vc⟩ : Cl)], HVU.out.ended _ (fun _ k => k) (fun _ k => HVU.out.lo k), HRS8.out, by simp [HWT.out], by
          have h := HLN.out
          have h2 := HWT.out
          unfold LNx vgx at *
          simp only [List.length_append, List.length_cons, List.length_nil]
          omega⟩, HVU.out.fr⟩
    · have hj' : j = x.K.length := by omega
      subst hj'
      have HBK : Hid (vbk x (q0, q1) = cxZ) := hide (by unfold vbk; rw [ix_no HNF.out, ← HLN.out.1, List.getElem?_eq_none (Nat.le_refl _)]; rfl)
      have NRq := NRr.out
      obtain ⟨U0, hU0⟩ : ∃ x, World.setCell wr ⟨w.heap.size + 1, 0, none⟩ (.int .i64 0) = x := ⟨_, rfl⟩
      have MU0 := setB NRq 0 (.int .i64 0) rfl
      have EU0 : ∀ b, b ≠ w.heap.size + 1 → (World.setCell wr ⟨w.heap.size + 1, 0, none⟩ (.int .i64 0)).heap[b]? = wr.heap[b]? := fun b hb => Below.heap_setCell wr ⟨w.heap.size + 1, 0, none⟩ (.int .i64 0) b hb
      have BU0 := (Below.refl (w.heap.size + 1) wr).setCell (p := ⟨w.heap.size + 1, 0, none⟩) (Nat.le_refl _) (.int .i64 0)
      have fU0 := nofz NRq 0
      have cU0 := four_cells NRq rfl
      rw [hU0] at MU0 EU0 BU0
      obtain ⟨U1, hU1⟩ : ∃ x, World.setCell U0 ⟨w.heap.size + 1, 1, none⟩ (.slice none 0 0) = x := ⟨_, rfl⟩
      have MU1 := setB MU0 1 (.slice none 0 0) rfl
      have EU1 : ∀ b, b ≠ w.heap.size + 1 → (World.setCell U0 ⟨w.heap.size + 1, 1, none⟩ (.slice none 0 0)).heap[b]? = U0.heap[b]? := fun b hb => Below.heap_setCell U0 ⟨w.heap.size + 1, 1, none⟩ (.slice none 0 0) b hb
      have BU1 := (Below.refl (w.heap.size + 1) U0).setCell (p := ⟨w.heap.size + 1, 1, none⟩) (Nat.le_refl _) (.slice none 0 0)
      have fU1 := nofz MU0 1
      have cU1 := four_cells MU0 rfl
      rw [hU1] at MU1 EU1 BU1
      obtain ⟨U2, hU2⟩ : ∃ x, World.setCell U1 ⟨w.heap.size + 1, 2, none⟩ (.int .i64 0) = x := ⟨_, rfl⟩
      have MU2 := setB MU1 2 (.int .i64 0) rfl
      have EU2 : ∀ b, b ≠ w.heap.size + 1 → (World.setCell U1 ⟨w.heap.size + 1, 2, none⟩ (.int .i64 0)).heap[b]? = U1.heap[b]? := fun b hb => Below.heap_setCell U1 ⟨w.heap.size + 1, 2, none⟩ (.int .i64 0) b hb
      have BU2 := (Below.refl (w.heap.size + 1) U1).setCell (p := ⟨w.heap.size + 1, 2, none⟩) (Nat.le_refl _) (.int .i64 0)
      have fU2 := nofz MU1 2
      have cU2 := four_cells MU1 rfl
      rw [hU2] at MU2 EU2 BU2
      obtain ⟨U3, hU3⟩ : ∃ x, World.setCell U2 ⟨w.heap.size + 1, 3, none⟩ (.slice none 0 0) = x := ⟨_, rfl⟩
      have MU3 := setB MU2 3 (.slice none 0 0) rfl
      have EU3 : ∀ b, b ≠ w.heap.size + 1 → (World.setCell U2 ⟨w.heap.size + 1, 3, none⟩ (.slice none 0 0)).heap[b]? = U2.heap[b]? := fun b hb => Below.heap_setCell U2 ⟨w.heap.size + 1, 3, none⟩ (.slice none 0 0) b hb
      have BU3 := (Below.refl (w.heap.size + 1) U2).setCell (p := ⟨w.heap.size + 1, 3, none⟩) (Nat.le_refl _) (.slice none 0 0)
      have fU3 := nofz MU2 3
      have cU3 := four_cells MU2 rfl
      rw [hU3] at MU3 EU3 BU3
      have cU4 := four_cells MU3 rfl
      have HEU : Hid (∀ b, b ≠ w.heap.size + 1 → U3.heap[b]? = wr.heap[b]?) := hide (fun b hb => (EU3 b hb).trans ((EU2 b hb).trans ((EU1 b hb).trans ((EU0 b hb)))))
      have HMU := hide MU3
      have HBU := hide ((((BU0).trans BU1).trans BU2).trans BU3)
      clear MU0 EU0 BU0 MU1 EU1 BU1 MU2 EU2 BU2 MU3 EU3 BU3
      obtain ⟨cU00, cU01, cU02, cU03⟩ := cU0
      obtain ⟨cU10, cU11, cU12, cU13⟩ := cU1
      obtain ⟨cU20, cU21, cU22, cU23⟩ := cU2
      obtain ⟨cU30, cU31, cU32, cU33⟩ := cU3
      obtain ⟨cU40, cU41, cU42, cU43⟩ := cU4
      clear NRq
      have HVU := hide (HVr.out.box HBU.out HEU.out (Nat.le_succ _) HNR1.out (fun c hc b k => by have := HL0.out c hc b k; omega))
      clear HVr NGr NOr NRr HB
      go_wp2_with fail
      refine bodyPost_ret (v := .agg #[.int .i64 0, .slice none 0 0, .int .i64 0, .slice none 0 0]) (by simp [results, Tryz.results149, go_sem, cU40, cU41, cU42, cU43]) rfl ?_
      rw [HBK.out]
      exact ⟨_, _, rfl, ⟨none, 0, rfl, Nat.le_refl _, .inl rfl⟩, LG.RM.nil _, ⟨r1, TL, WL, HVU.out.ended _ (fun _ k => k) (fun _ k => HVU.out.lo k), HRS1.out, HWT.out, by
        have h := HLN.out
        unfold LNx vgx at *
        simp only [List.length_append, List.length_cons, List.length_nil]
        omega⟩, HVU.out.fr⟩
end Go.Proofs.YtdjhbecbbmdimaaGreatDoor
