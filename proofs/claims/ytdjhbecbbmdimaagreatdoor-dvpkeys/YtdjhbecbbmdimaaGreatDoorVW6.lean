/-
  My own text: layer 17: the view's Put (printed by mkvw6.py).
-/
import Derived.Test.YtdjhbecbbmdimaaGreatDoorVW5
namespace Go.Proofs.YtdjhbecbbmdimaaGreatDoor
open Go.RowKit

theorem Tryz.sizeC17 : (Tryz.prog.info? 64).map (·.size) = some 4 := by kernel_rfl
theorem cells_set {w : World} {cb cap : Nat} {C : List Cl} (h : w.ownsRow 0 64 4 (.slice (some ⟨cb, 0, none⟩) C.length cap) C.length (cc C)) (i : Nat) (c : Cl) :
    (w.setCells cb (i * 4) c.vs).ownsRow 0 64 4 (.slice (some ⟨cb, 0, none⟩) C.length cap) C.length (cc (C.set i c)) ∧ w.grownBy (w.setCells cb (i * 4) c.vs) (some cb) := by
  obtain ⟨xs, h1, h2, h3⟩ := setCells_own c.vs (i * 4) w (cc C) h
  have hx : xs = cc (C.set i c) := by
    have hxl := h1.1
    refine List.ext_getElem (by rw [hxl, cc_len, List.length_set]) (fun j hj1 hj2 => ?_)
    have hjE : j < C.length * 4 := by rw [hxl] at hj1; exact hj1
    have hjj : j / 4 < C.length := by omega
    have hc1 := World.ownsRow.cellAt h1 j hjE
    rw [List.getElem?_eq_getElem hj1] at hc1
    have hs : (C.set i c)[j / 4]? = some ((C.set i c)[j / 4]'(by rw [List.length_set]; exact hjj)) := List.getElem?_eq_getElem _
    have h4 := cc_at hs (show j % 4 < 4 by omega)
    rw [show j / 4 * 4 + j % 4 = j by omega, List.getElem?_eq_getElem hj2] at h4
    have goal : some xs[j] = some (cc (C.set i c))[j] := by
      rw [h4, ← hc1]
      by_cases hji : j / 4 = i
      · have hin := World.cell?_setCells_in cb c.vs (i * 4) w (fun q hq => by
          have hq' : q < 4 := hq
          rw [World.ownsRow.cellAt h (i * 4 + q) (by omega), List.getElem?_eq_getElem (by rw [cc_len]; omega)]; rfl) (j % 4) (show j % 4 < 4 by omega)
        rw [show i * 4 + j % 4 = j by omega] at hin
        have e1 : (C.set i c)[j / 4]'(by rw [List.length_set]; exact hjj) = c := by simp [hji]
        rw [hin, e1]
        exact (List.getElem?_eq_getElem _).symm
      · rw [World.cell?_setCells_out cb c.vs (i * 4) w ⟨cb, j, none⟩ (fun _ _ => by show j < i * 4 ∨ i * 4 + 4 ≤ j; omega), World.ownsRow.cellAt h j hjE]
        have hs2 : C[j / 4]? = some C[j / 4] := List.getElem?_eq_getElem hjj
        have h5 := cc_at hs2 (show j % 4 < 4 by omega)
        rw [show j / 4 * 4 + j % 4 = j by omega] at h5
        rw [h5]
        simp [Ne.symm hji]
    exact Option.some.inj goal
  subst hx
  exact ⟨h1, h3⟩
theorem RS.pN {x : VX} {TL WL : List Cl} {r : Nat → Rw} (h : RS x TL WL r) (m : Nat) : RS { x with n := m } TL WL r := ⟨h.s0, h.s1, h.s2, h.s3, h.s4, h.s6, h.s7⟩
theorem VR.wideH {g : Nat} {w W : World} {F H : Nat → Prop} {n : Nat} {C TL WL : List Cl} {r : Nat → Rw} (h : VR g w W F H n C TL WL r) (H' : Nat → Prop) (hH : ∀ b, H b → H' b) (hl : ∀ b, H' b → b < w.heap.size) : VR g w W F H' n C TL WL r :=
  ⟨h.vv, ⟨h.vc.cl, h.vc.tw, fun c hc b k => ⟨(h.vc.ch c hc b k).1, (h.vc.ch c hc b k).2.imp (hH b) id⟩⟩, h.inF, fun b k => hH b (h.sub b k), hl, h.fr⟩
theorem VR.inFr {g : Nat} {w W : World} {F H : Nat → Prop} {n : Nat} {C TL WL : List Cl} {r : Nat → Rw} (h : VR g w W F H n C TL WL r) {b : Nat} (hlt : b < w.heap.size) (k : Chg g r b) : F b := by
  rcases h.inF b k with k2 | k2
  · exact k2
  · have := k2.1; omega
theorem VR.puts {g : Nat} {w W : World} {F H : Nat → Prop} {n : Nat} {C TL WL : List Cl} {r : Nat → Rw} (h : VR g w W F H n C TL WL r) (m : Nat) : VR g w (W.setCell ⟨g, 5, none⟩ (.int .i64 (m : Int))) F H m C TL WL r ∧ FrB (Chg g r) W (W.setCell ⟨g, 5, none⟩ (.int .i64 (m : Int))) := by
  have hf : FrB (Chg g r) W (W.setCell ⟨g, 5, none⟩ (.int .i64 (m : Int))) := (FrB.refl _ W).setC 5 _ (.inl (.inl rfl))
  exact ⟨⟨h.vv.puts m, h.vc.step hf (fun _ k => .inl k) (fun _ k => h.lo k) (fun _ k => nF_mono hf.size k), fun b k => nF_mono hf.size (h.inF b k), h.sub, h.low, h.fr.trans hf (fun b hlt k => h.inFr hlt k)⟩, hf⟩
theorem VR.set {g : Nat} {w W W2 : World} {F H : Nat → Prop} {n : Nat} {C C' TL WL : List Cl} {r : Nat → Rw} (h : VR g w W F H n C TL WL r) (i : Nat) (rx : Rw) (hv : rx.v = (r i).v) (ho : W2.ownsRow 0 rx.t rx.k rx.v rx.n rx.xs) (hg : W.grownBy W2 (r i).v.ownBlock) (hvc : VC g W (nF H w W) C' TL WL r) : VR g w W2 F H n C' TL WL (upR r i rx) := by
  have hf : FrB (Chg g r) W W2 := FrB.row hg (fun b k => .inl (.inr ⟨i, k⟩))
  have hch : ∀ b, Chg g (upR r i rx) b → Chg g r b := fun b k => by
    rcases k with k | ⟨j, k⟩
    · exact .inl k
    · by_cases e : j = i
      · subst e; rw [upR_same, hv] at k; exact .inr ⟨j, k⟩
      · rw [upR_ne r rx e] at k; exact .inr ⟨j, k⟩
  exact ⟨h.vv.set i rx hv ho hg, hvc.step hf (fun b k => .inl (hch b k)) (fun _ k => h.lo k) (fun _ k => nF_mono hf.size k), fun b k => nF_mono hf.size (h.inF b (hch b k)), h.sub, h.low, h.fr.trans hf (fun b hlt k => h.inFr hlt k)⟩
set_option maxRecDepth 100000 in
set_option maxHeartbeats 8000000 in
theorem vput_any (g : Nat) (w : World) (F H : Nat → Prop) (x : VX) (q0 q1 : Int) (c : Cl) (hV : VSt g w F H x) (hcr : CR w c) (hnf : ∀ b, c.mv.ownBlock = some b ∨ c.lv.ownBlock = some b → ¬ F b) (hk : x.k < 4000000) (hm : c.ml.length ≤ 1000000) (hl : c.ll.length ≤ 1000000) :
    Calls Tryz.prog 150 #[.pointer (some ⟨g, 0, none⟩), .agg #[.int .i64 q0, .int .i64 q1], .agg #[.int .i64 c.av, c.mv, .int .i64 c.st, c.lv]] w fun e w' => e = .returned (.tuple #[]) ∧ VSt g w' (nF F w w') (fun b => nF H w w' b ∨ c.mv.ownBlock = some b ∨ c.lv.ownBlock = some b) (vpx x (q0, q1) c) ∧ FrB F w w' := by
  obtain ⟨r, TL, WL, hr1, hRS, hWT, hLN⟩ := hV
  obtain ⟨av, ml, mv, st, ll, lv⟩ := c
  obtain ⟨ma, mc, hmv⟩ := BL.rm_lt hcr.1
  simp only at hmv
  subst hmv
  obtain ⟨la, lc, hlv⟩ := LG.rm_lt hcr.2.1
  simp only at hlv
  subst hlv
  have hr := hr1.wideH (fun b => H b ∨ own2 (⟨av, ml, .slice ma ml.length mc, st, ll, .slice la ll.length lc⟩ : Cl) b) (fun b k => .inl k) (fun b k => k.elim (hr1.low b) (hcr.2.2 b))
  have HFW : Hid (ml.length ≤ 1000000 ∧ ll.length ≤ 1000000) := hide ⟨hm, hl⟩
  have HCR := hide hcr
  have HNF : Hid (∀ b, own2 (⟨av, ml, .slice ma ml.length mc, st, ll, .slice la ll.length lc⟩ : Cl) b → ¬ F b) := hide hnf
  have HNC : Hid (∀ b, own2 (⟨av, ml, .slice ma ml.length mc, st, ll, .slice la ll.length lc⟩ : Cl) b → F b → False) := hide hnf
  have HKK := hide hk
  have HRS := hide hRS
  have HWT := hide hWT
  have HLN := hide hLN
  have hB0 := two_below w (.cells #[.int .i64 q0, .int .i64 q1] 39) (.cells #[.int .i64 av, .slice ma ml.length mc, .int .i64 st, .slice la ll.length lc] 64)
  have hN0 := two_new w (.cells #[.int .i64 q0, .int .i64 q1] 39) (.cells #[.int .i64 av, .slice ma ml.length mc, .int .i64 st, .slice la ll.length lc] 64)
  have HNO : Hid (¬ Chg g r (w.heap.size)) := hide (fun k => by have := hr.vv.lt k; omega)
  have HNQ : Hid (¬ Chg g r (w.heap.size + 1)) := hide (fun k => by have := hr.vv.lt k; omega)
  have HR0 := hide (hr.below hB0)
  have NO := hide hN0.1
  have NQ := hide hN0.2
  have hsn : (x.n : Int) ≤ 5000000 := by have := hLN.2.2.2.2.2.2.2; omega
  have HSN := hide hsn
  clear hk hRS hWT hLN hr hr1 hB0 hN0 hcr hnf hm hl hsn
  simp only
  go_enter Tryz.func150, Tryz.ntmps150
  go_wp2_with fail
  generalize (w.alloc (.cells #[.int .i64 q0, .int .i64 q1] 39)).alloc (.cells #[.int .i64 av, .slice ma ml.length mc, .int .i64 st, .slice la ll.length lc] 64) = V0 at HR0 NO NQ ⊢
  obtain ⟨D1, hD1⟩ : ∃ xw, World.drew V0 = xw := ⟨_, rfl⟩
  have hbD1 : Below V0.heap.size V0 D1 := by rw [← hD1]; exact (Below.refl _ _).drew
  have HRD1 := hide (HR0.out.below hbD1)
  have NGD1 := hide HRD1.out.vv.blk
  have NOD1 := hide (blk_later NO.out hbD1)
  have NQD1 := hide (blk_later NQ.out hbD1)
  have HSZD1V0 : Hid (V0.heap.size ≤ D1.heap.size) := hide hbD1.size
  refine z_begins (S := fun W : World => (W.cell? ⟨g, 4, none⟩ = some ((r 4).v)) ∧ (W.cell? ⟨w.heap.size, 0, none⟩ = some (.int .i64 q0) ∧ W.cell? ⟨w.heap.size, 1, none⟩ = some (.int .i64 q1)) ∧ (W.cell? ⟨w.heap.size + 1, 0, none⟩ = some (.int .i64 av) ∧ W.cell? ⟨w.heap.size + 1, 1, none⟩ = some (.slice ma ml.length mc) ∧ W.cell? ⟨w.heap.size + 1, 2, none⟩ = some (.int .i64 st) ∧ W.cell? ⟨w.heap.size + 1, 3, none⟩ = some (.slice la ll.length lc))) 10 11 #[false, false, false, false, false, false, false, false, false, false, false] (by kernel_rfl) (by kernel_rfl) (by kernel_rfl) (by rw [hD1]; exact ⟨((eight_cells NGD1.out rfl).2.2.2.2.1), (pair_cells NOD1.out rfl), (four_cells NQD1.out rfl)⟩) (fun hHeld => ?_)
  rw [hD1] at hHeld ⊢
  clear hD1 hbD1
  refine zk (v := ?_) 0 7 #[true, false, false, false, false, false, false, false, false, false, false] rfl rfl (by kernel_rfl) (by kernel_rfl) (by kernel_rfl) (by kernel_rfl) (fun _ _ _ h => h) (by kernel_rfl) (by rfl) ?hy hHeld ?_
  case hy => rintro W ⟨s1, ⟨s2, s3⟩, ⟨s4, s5, s6, s7⟩⟩; first | (go_simp; done) | (go_simp; with_reducible rfl)
  simp only [List.setIfInBounds_toArray, List.set_cons_zero, List.set_cons_succ]
  refine zk (v := ?_) 1 8 #[true, true, false, false, false, false, false, false, false, false, false] rfl rfl (by kernel_rfl) (by kernel_rfl) (by kernel_rfl) (by kernel_rfl) (fun _ _ _ h => h) (by kernel_rfl) (by rfl) ?hy hHeld ?_
  case hy => rintro W ⟨s1, ⟨s2, s3⟩, ⟨s4, s5, s6, s7⟩⟩; first | (go_simp; done) | (go_simp; with_reducible rfl)
  simp only [List.setIfInBounds_toArray, List.set_cons_zero, List.set_cons_succ]
  refine zk (v := ?_) 2 9 #[true, true, true, false, false, false, false, false, false, false, false] rfl rfl (by kernel_rfl) (by kernel_rfl) (by kernel_rfl) (by kernel_rfl) (fun _ _ _ h => h) (by kernel_rfl) (by rfl) ?hy hHeld ?_
  case hy => rintro W ⟨s1, ⟨s2, s3⟩, ⟨s4, s5, s6, s7⟩⟩; first | (go_simp; done) | (go_simp; with_reducible rfl)
  simp only [List.setIfInBounds_toArray, List.set_cons_zero, List.set_cons_succ]
  refine zk (v := ?_) 3 10 #[true, true, true, true, false, false, false, false, false, false, false] rfl rfl (by kernel_rfl) (by kernel_rfl) (by kernel_rfl) (by kernel_rfl) (fun _ _ _ h => h) (by kernel_rfl) (by rfl) ?hy hHeld ?_
  case hy => rintro W ⟨s1, ⟨s2, s3⟩, ⟨s4, s5, s6, s7⟩⟩; first | (go_simp; done) | (go_simp; with_reducible rfl)
  simp only [List.setIfInBounds_toArray, List.set_cons_zero, List.set_cons_succ]
  refine zk (v := ?_) 4 11 #[true, true, true, true, true, false, false, false, false, false, false] rfl rfl (by kernel_rfl) (by kernel_rfl) (by kernel_rfl) (by kernel_rfl) (fun _ _ _ h => h) (by kernel_rfl) (by rfl) ?hy hHeld ?_
  case hy => rintro W ⟨s1, ⟨s2, s3⟩, ⟨s4, s5, s6, s7⟩⟩; first | (go_simp; done) | (go_simp; with_reducible rfl)
  simp only [List.setIfInBounds_toArray, List.set_cons_zero, List.set_cons_succ]
  refine zk (v := ?_) 5 12 #[true, true, true, true, true, true, false, false, false, false, false] rfl rfl (by kernel_rfl) (by kernel_rfl) (by kernel_rfl) (by kernel_rfl) (fun _ _ _ h => h) (by kernel_rfl) (by rfl) ?hy hHeld ?_
  case hy => rintro W ⟨s1, ⟨s2, s3⟩, ⟨s4, s5, s6, s7⟩⟩; first | (go_simp; done) | (go_simp; with_reducible rfl)
  simp only [List.setIfInBounds_toArray, List.set_cons_zero, List.set_cons_succ]
  have hbA1 := (Below.refl D1.heap.size D1).alloc (Nat.le_refl _) (.cells #[.int .i64 q0, .int .i64 q1] 39)
  have NGA1 := hide (blk_later NGD1.out hbA1)
  have NOA1 := hide (blk_later NOD1.out hbA1)
  have NQA1 := hide (blk_later NQD1.out hbA1)
  obtain ⟨i1, hi1, hz10, hz11, hz12⟩ := info_parts KY.Tryz.infoMk
  obtain ⟨v1, w1, hrun1, hoth1, hft1, hch1, hVR1⟩ := HRD1.out.app 4 (by decide) (by decide) HRS.out.s4 23 23 i1 _ 16 Tryz.underlying23 hi1 hz10 hz11 hz12 rfl (by decide) (by decide) [.int .i64 q0, .int .i64 q1] rfl (by intro u hu; simp at hu; rcases hu with rfl | rfl <;> rfl) (by have := HLN.out.2.2.1; have := HKK.out; omega) (.cells #[.int .i64 q0, .int .i64 q1] 39) rfl HRD1.out.vc
  obtain ⟨a1, c1, hv1⟩ : ∃ a c, v1 = .slice a (x.A.length + 1) c := by have h := hVR1.vv.own 4; rw [upR_same] at h; exact owns_sl h
  subst hv1
  have NGw1 := hide ((hoth1 g (HRD1.out.vv.lt (.inl rfl)) (HRD1.out.vv.ng 4)).trans NGD1.out)
  have NOw1 := hide ((hoth1 (w.heap.size) (Array.getElem?_eq_some_iff.1 NOD1.out).1 (fun e => HNO.out (.inr ⟨4, e⟩))).trans NOD1.out)
  have NQw1 := hide ((hoth1 (w.heap.size + 1) (Array.getElem?_eq_some_iff.1 NQD1.out).1 (fun e => HNQ.out (.inr ⟨4, e⟩))).trans NQD1.out)
  have HRUN1 := hide hrun1
  clear hi1 hz10 hz11 hz12 hrun1
  refine z_ready 6 #[true, true, true, true, true, true, true, false, false, false, false] rfl (by kernel_rfl) (by kernel_rfl) (by rfl) (fun K hK => ?_)
  go_simp
  refine hK.out _ _ (fun _ => ⟨((eight_cells NGA1.out rfl).2.2.2.2.1), (pair_cells NOA1.out rfl), (four_cells NQA1.out rfl)⟩) (fun hHeld => ?_)
  clear hK K
  refine z_ready 7 #[true, true, true, true, true, true, true, true, false, false, false] rfl (by kernel_rfl) (by kernel_rfl) (by rfl) (fun K hK => ?_)
  refine op_append_gen _ _ rfl _ ⟨D1.heap.size, 0, none⟩ 1 1 rfl rfl _ w1 HRUN1.out ?_
  simp only [Act.put, List.setIfInBounds_toArray]
  refine hK.out _ _ (fun _ => ⟨((eight_cells NGw1.out rfl).2.2.2.2.1), (pair_cells NOw1.out rfl), (four_cells NQw1.out rfl)⟩) (fun hHeld => ?_)
  clear hK K
  refine z_ready 8 #[true, true, true, true, true, true, true, true, true, false, false] rfl (by kernel_rfl) (by kernel_rfl) (by rfl) (fun K hK => ?_)
  go_simp
  refine hK.out _ _ (fun _ => ⟨((eight_cells NGw1.out rfl).2.2.2.2.1), (pair_cells NOw1.out rfl), (four_cells NQw1.out rfl)⟩) (fun hHeld => ?_)
  clear hK K
  refine z_ready 9 #[true, true, true, true, true, true, true, true, true, true, false] rfl (by kernel_rfl) (by kernel_rfl) (by rfl) (fun K hK => ?_)
  go_simp
  refine hK.out _ _ (fun _ => ⟨((eight_cells NGw1.out rfl).2.2.2.2.1), (pair_cells NOw1.out rfl), (four_cells NQw1.out rfl)⟩) (fun hHeld => ?_)
  clear hK K
  have hfz1 := nofz NGw1.out 4
  have hcx1 := (eight_cells NGw1.out rfl).2.2.2.2.1
  obtain ⟨W1, hW1⟩ : ∃ xw, World.setCell w1 ⟨g, 4, none⟩ (.slice a1 (x.A.length + 1) c1) = xw := ⟨_, rfl⟩
  rw [hW1] at hft1 hVR1
  obtain ⟨r1, hr1⟩ : ∃ xr, upR r 4 ⟨39, 2, .slice a1 (x.A.length + 1) c1, x.A.length + 1, KY.mc x.A ++ [.int .i64 q0, .int .i64 q1]⟩ = xr := ⟨_, rfl⟩
  rw [hr1] at hch1 hVR1
  have HV1 := hide hVR1
  have HF1 := hide hft1
  have HC1 := hide hch1
  have HUP1 := hide hr1
  have NO1 := hide ((hft1.block (w.heap.size) (Array.getElem?_eq_some_iff.1 NOD1.out).1 (HNO.out)).trans NOD1.out)
  have NQ1 := hide ((hft1.block (w.heap.size + 1) (Array.getElem?_eq_some_iff.1 NQD1.out).1 (HNQ.out)).trans NQD1.out)
  have HS1 : Hid (V0.heap.size ≤ W1.heap.size) := hide (Nat.le_trans HSZD1V0.out hft1.size)
  have HX1 := HSZD1V0
  clear hr1 hVR1 hft1 hch1 hoth1 hbA1
  refine z_ready 10 #[true, true, true, true, true, true, true, true, true, true, true] rfl (by kernel_rfl) (by kernel_rfl) (by rfl) (fun K hK => ?_)
  go_simp
  refine hK.out _ _ (fun h => absurd rfl h) (fun _ => ?_)
  clear hK K
  refine z_done (by kernel_rfl) ?_ _
  clear hW1 hfz1 hcx1 HRUN1 NGw1 NGA1 NGD1 HRD1 NOw1 NOA1 NOD1 NQw1 NQA1 NQD1
  try clear hHeld

  have HRS1 : Hid (RS { vgx x (q0, q1) with n := x.n + 1 } TL WL r1) := hide (by rw [← HUP1.out]; exact (HRS.out.pA q0 q1 _ (x.k + 1)).pN (x.n + 1))
  have HNO1 : Hid (¬ Chg g r1 (w.heap.size)) := hide (fun k => (HC1.out _ k).elim HNO.out (fun k2 => by have := (Array.getElem?_eq_some_iff.1 NO.out).1; have := HX1.out; omega))
  have HNQ1 : Hid (¬ Chg g r1 (w.heap.size + 1)) := hide (fun k => (HC1.out _ k).elim HNQ.out (fun k2 => by have := (Array.getElem?_eq_some_iff.1 NQ.out).1; have := HX1.out; omega))
  clear NO NQ
  have NO := NO1
  have NQ := NQ1
  clear NO1 NQ1

  have hng := HV1.out.vv.blk
  obtain ⟨y0, y1, y2, y3, y4, y5, y6, y7⟩ := eight_cells hng rfl
  have hfz := nofz hng 5
  have wn : wrap64 ((x.n : Int) + 1) = (x.n : Int) + 1 := by have := HSN.out; unfold wrap64; omega
  obtain ⟨hvp, hfp⟩ := HV1.out.puts (x.n + 1)
  obtain ⟨W2, hW2⟩ : ∃ xw, World.setCell W1 ⟨g, 5, none⟩ (.int .i64 (((x.n + 1 : Nat) : Int))) = xw := ⟨_, rfl⟩
  rw [hW2] at hvp hfp
  have hW2' : World.setCell W1 ⟨g, 5, none⟩ (.int .i64 ((x.n : Int) + 1)) = W2 := by rw [← hW2]; simp
  have HV2 := hide hvp
  have HF2 := hide hfp
  have NO2 := hide ((hfp.block (w.heap.size) (Array.getElem?_eq_some_iff.1 NO.out).1 HNO1.out).trans NO.out)
  have NQ2 := hide ((hfp.block (w.heap.size + 1) (Array.getElem?_eq_some_iff.1 NQ.out).1 HNQ1.out).trans NQ.out)
  clear hng hvp hfp NO NQ
  have NO := NO2
  have NQ := NQ2
  clear NO2 NQ2 hW2
  go_wp2_with fail
  try rw [hW2']
  clear y0 y1 y2 y3 y4 y5 y6 y7 hfz hW2' HV1
  obtain ⟨D3, hD3⟩ : ∃ xw, World.drew W2 = xw := ⟨_, rfl⟩
  have hbD3 : Below W2.heap.size W2 D3 := by rw [← hD3]; exact (Below.refl _ _).drew
  have HRD3 := hide (HV2.out.below hbD3)
  have NGD3 := hide HRD3.out.vv.blk
  have NOD3 := hide (blk_later NO.out hbD3)
  have NQD3 := hide (blk_later NQ.out hbD3)
  have HSZD3W2 : Hid (W2.heap.size ≤ D3.heap.size) := hide hbD3.size
  refine z_begins (S := fun W : World => (W.cell? ⟨g, 6, none⟩ = some ((r1 6).v)) ∧ (W.cell? ⟨w.heap.size, 0, none⟩ = some (.int .i64 q0) ∧ W.cell? ⟨w.heap.size, 1, none⟩ = some (.int .i64 q1)) ∧ (W.cell? ⟨w.heap.size + 1, 0, none⟩ = some (.int .i64 av) ∧ W.cell? ⟨w.heap.size + 1, 1, none⟩ = some (.slice ma ml.length mc) ∧ W.cell? ⟨w.heap.size + 1, 2, none⟩ = some (.int .i64 st) ∧ W.cell? ⟨w.heap.size + 1, 3, none⟩ = some (.slice la ll.length lc))) 12 13 #[false, false, false, false, false, false, false, false, false, false, false, false, false] (by kernel_rfl) (by kernel_rfl) (by kernel_rfl) (by rw [hD3]; exact ⟨((eight_cells NGD3.out rfl).2.2.2.2.2.2.1), (pair_cells NOD3.out rfl), (four_cells NQD3.out rfl)⟩) (fun hHeld => ?_)
  rw [hD3] at hHeld ⊢
  clear hD3 hbD3
  refine zk (v := ?_) 0 25 #[true, false, false, false, false, false, false, false, false, false, false, false, false] rfl rfl (by kernel_rfl) (by kernel_rfl) (by kernel_rfl) (by kernel_rfl) (fun _ _ _ h => h) (by kernel_rfl) (by rfl) ?hy hHeld ?_
  case hy => rintro W ⟨s1, ⟨s2, s3⟩, ⟨s4, s5, s6, s7⟩⟩; first | (go_simp; done) | (go_simp; with_reducible rfl)
  simp only [List.setIfInBounds_toArray, List.set_cons_zero, List.set_cons_succ]
  refine zk (v := ?_) 1 26 #[true, true, false, false, false, false, false, false, false, false, false, false, false] rfl rfl (by kernel_rfl) (by kernel_rfl) (by kernel_rfl) (by kernel_rfl) (fun _ _ _ h => h) (by kernel_rfl) (by rfl) ?hy hHeld ?_
  case hy => rintro W ⟨s1, ⟨s2, s3⟩, ⟨s4, s5, s6, s7⟩⟩; first | (go_simp; done) | (go_simp; with_reducible rfl)
  simp only [List.setIfInBounds_toArray, List.set_cons_zero, List.set_cons_succ]
  refine zk (v := ?_) 2 27 #[true, true, true, false, false, false, false, false, false, false, false, false, false] rfl rfl (by kernel_rfl) (by kernel_rfl) (by kernel_rfl) (by kernel_rfl) (fun _ _ _ h => h) (by kernel_rfl) (by rfl) ?hy hHeld ?_
  case hy => rintro W ⟨s1, ⟨s2, s3⟩, ⟨s4, s5, s6, s7⟩⟩; first | (go_simp; done) | (go_simp; with_reducible rfl)
  simp only [List.setIfInBounds_toArray, List.set_cons_zero, List.set_cons_succ]
  refine zk (v := ?_) 3 28 #[true, true, true, true, false, false, false, false, false, false, false, false, false] rfl rfl (by kernel_rfl) (by kernel_rfl) (by kernel_rfl) (by kernel_rfl) (fun _ _ _ h => h) (by kernel_rfl) (by rfl) ?hy hHeld ?_
  case hy => rintro W ⟨s1, ⟨s2, s3⟩, ⟨s4, s5, s6, s7⟩⟩; first | (go_simp; done) | (go_simp; with_reducible rfl)
  simp only [List.setIfInBounds_toArray, List.set_cons_zero, List.set_cons_succ]
  refine zk (v := ?_) 4 29 #[true, true, true, true, true, false, false, false, false, false, false, false, false] rfl rfl (by kernel_rfl) (by kernel_rfl) (by kernel_rfl) (by kernel_rfl) (fun _ _ _ h => h) (by kernel_rfl) (by rfl) ?hy hHeld ?_
  case hy => rintro W ⟨s1, ⟨s2, s3⟩, ⟨s4, s5, s6, s7⟩⟩; first | (go_simp; done) | (go_simp; with_reducible rfl)
  simp only [List.setIfInBounds_toArray, List.set_cons_zero, List.set_cons_succ]
  refine zk (v := ?_) 5 30 #[true, true, true, true, true, true, false, false, false, false, false, false, false] rfl rfl (by kernel_rfl) (by kernel_rfl) (by kernel_rfl) (by kernel_rfl) (fun _ _ _ h => h) (by kernel_rfl) (by rfl) ?hy hHeld ?_
  case hy => rintro W ⟨s1, ⟨s2, s3⟩, ⟨s4, s5, s6, s7⟩⟩; first | (go_simp; done) | (go_simp; with_reducible rfl)
  simp only [List.setIfInBounds_toArray, List.set_cons_zero, List.set_cons_succ]
  refine zk (v := ?_) 6 31 #[true, true, true, true, true, true, true, false, false, false, false, false, false] rfl rfl (by kernel_rfl) (by kernel_rfl) (by kernel_rfl) (by kernel_rfl) (fun _ _ _ h => h) (by kernel_rfl) (by rfl) ?hy hHeld ?_
  case hy => rintro W ⟨s1, ⟨s2, s3⟩, ⟨s4, s5, s6, s7⟩⟩; first | (go_simp; done) | (go_simp; with_reducible rfl)
  simp only [List.setIfInBounds_toArray, List.set_cons_zero, List.set_cons_succ]
  refine zk (v := ?_) 7 32 #[true, true, true, true, true, true, true, true, false, false, false, false, false] rfl rfl (by kernel_rfl) (by kernel_rfl) (by kernel_rfl) (by kernel_rfl) (fun _ _ _ h => h) (by kernel_rfl) (by rfl) ?hy hHeld ?_
  case hy => rintro W ⟨s1, ⟨s2, s3⟩, ⟨s4, s5, s6, s7⟩⟩; first | (go_simp; done) | (go_simp; with_reducible rfl)
  simp only [List.setIfInBounds_toArray, List.set_cons_zero, List.set_cons_succ]
  have hbA3 := (Below.refl D3.heap.size D3).alloc (Nat.le_refl _) (.cells #[.slice ma ml.length mc] 58)
  have NGA3 := hide (blk_later NGD3.out hbA3)
  have NOA3 := hide (blk_later NOD3.out hbA3)
  have NQA3 := hide (blk_later NQD3.out hbA3)
  obtain ⟨i3, hi3, hz30, hz31, hz32⟩ := info_parts Tryz.infoM17
  obtain ⟨v3, w3, hrun3, hoth3, hft3, hch3, hVR3⟩ := HRD3.out.app 6 (by decide) (by decide) (show shp (r1 6) 58 1 x.M.length x.M from HRS1.out.s6) 48 48 i3 _ 24 Tryz.underlying48 hi3 hz30 hz31 hz32 rfl (by decide) (by decide) [.slice ma ml.length mc] rfl (by intro u hu; simp at hu; rw [hu]; rfl) (by have := HLN.out.2.2.2.2.2.1; have := HKK.out; omega) (.cells #[.slice ma ml.length mc] 58) rfl HRD3.out.vc
  obtain ⟨a3, c3, hv3⟩ : ∃ a c, v3 = .slice a (x.M.length + 1) c := by have h := hVR3.vv.own 6; rw [upR_same] at h; exact owns_sl h
  subst hv3
  have NGw3 := hide ((hoth3 g (HRD3.out.vv.lt (.inl rfl)) (HRD3.out.vv.ng 6)).trans NGD3.out)
  have NOw3 := hide ((hoth3 (w.heap.size) (Array.getElem?_eq_some_iff.1 NOD3.out).1 (fun e => HNO1.out (.inr ⟨6, e⟩))).trans NOD3.out)
  have NQw3 := hide ((hoth3 (w.heap.size + 1) (Array.getElem?_eq_some_iff.1 NQD3.out).1 (fun e => HNQ1.out (.inr ⟨6, e⟩))).trans NQD3.out)
  have HRUN3 := hide hrun3
  clear hi3 hz30 hz31 hz32 hrun3
  refine z_ready 8 #[true, true, true, true, true, true, true, true, true, false, false, false, false] rfl (by kernel_rfl) (by kernel_rfl) (by rfl) (fun K hK => ?_)
  go_simp
  refine hK.out _ _ (fun _ => ⟨((eight_cells NGA3.out rfl).2.2.2.2.2.2.1), (pair_cells NOA3.out rfl), (four_cells NQA3.out rfl)⟩) (fun hHeld => ?_)
  clear hK K
  refine z_ready 9 #[true, true, true, true, true, true, true, true, true, true, false, false, false] rfl (by kernel_rfl) (by kernel_rfl) (by rfl) (fun K hK => ?_)
  refine op_append_gen _ _ rfl _ ⟨D3.heap.size, 0, none⟩ 1 1 rfl rfl _ w3 HRUN3.out ?_
  simp only [Act.put, List.setIfInBounds_toArray]
  refine hK.out _ _ (fun _ => ⟨((eight_cells NGw3.out rfl).2.2.2.2.2.2.1), (pair_cells NOw3.out rfl), (four_cells NQw3.out rfl)⟩) (fun hHeld => ?_)
  clear hK K
  refine z_ready 10 #[true, true, true, true, true, true, true, true, true, true, true, false, false] rfl (by kernel_rfl) (by kernel_rfl) (by rfl) (fun K hK => ?_)
  go_simp
  refine hK.out _ _ (fun _ => ⟨((eight_cells NGw3.out rfl).2.2.2.2.2.2.1), (pair_cells NOw3.out rfl), (four_cells NQw3.out rfl)⟩) (fun hHeld => ?_)
  clear hK K
  refine z_ready 11 #[true, true, true, true, true, true, true, true, true, true, true, true, false] rfl (by kernel_rfl) (by kernel_rfl) (by rfl) (fun K hK => ?_)
  go_simp
  refine hK.out _ _ (fun _ => ⟨((eight_cells NGw3.out rfl).2.2.2.2.2.2.1), (pair_cells NOw3.out rfl), (four_cells NQw3.out rfl)⟩) (fun hHeld => ?_)
  clear hK K
  have hfz3 := nofz NGw3.out 6
  have hcx3 := (eight_cells NGw3.out rfl).2.2.2.2.2.2.1
  obtain ⟨W3, hW3⟩ : ∃ xw, World.setCell w3 ⟨g, 6, none⟩ (.slice a3 (x.M.length + 1) c3) = xw := ⟨_, rfl⟩
  rw [hW3] at hft3 hVR3
  obtain ⟨r3, hr3⟩ : ∃ xr, upR r1 6 ⟨58, 1, .slice a3 (x.M.length + 1) c3, x.M.length + 1, x.M ++ [.slice ma ml.length mc]⟩ = xr := ⟨_, rfl⟩
  rw [hr3] at hch3 hVR3
  have HV3 := hide hVR3
  have HF3 := hide hft3
  have HC3 := hide hch3
  have HUP3 := hide hr3
  have NO3 := hide ((hft3.block (w.heap.size) (Array.getElem?_eq_some_iff.1 NOD3.out).1 (HNO1.out)).trans NOD3.out)
  have NQ3 := hide ((hft3.block (w.heap.size + 1) (Array.getElem?_eq_some_iff.1 NQD3.out).1 (HNQ1.out)).trans NQD3.out)
  have HS3 : Hid (W2.heap.size ≤ W3.heap.size) := hide (Nat.le_trans HSZD3W2.out hft3.size)
  have HX3 := HSZD3W2
  clear hr3 hVR3 hft3 hch3 hoth3 hbA3
  refine z_ready 12 #[true, true, true, true, true, true, true, true, true, true, true, true, true] rfl (by kernel_rfl) (by kernel_rfl) (by rfl) (fun K hK => ?_)
  go_simp
  refine hK.out _ _ (fun h => absurd rfl h) (fun _ => ?_)
  clear hK K
  refine z_done (by kernel_rfl) ?_ _
  clear hW3 hfz3 hcx3 HRUN3 NGw3 NGA3 NGD3 HRD3 NOw3 NOA3 NOD3 NQw3 NQA3 NQD3
  try clear hHeld

  have HRS3 : Hid (RS { vgx x (q0, q1) with n := x.n + 1, M := x.M ++ [.slice ma ml.length mc] } TL WL r3) := hide (by rw [← HUP3.out]; exact HRS1.out.pM _ _)
  have HNO3 : Hid (¬ Chg g r3 (w.heap.size)) := hide (fun k => (HC3.out _ k).elim HNO1.out (fun k2 => by have := (Array.getElem?_eq_some_iff.1 NO.out).1; have := HX3.out; omega))
  have HNQ3 : Hid (¬ Chg g r3 (w.heap.size + 1)) := hide (fun k => (HC3.out _ k).elim HNQ1.out (fun k2 => by have := (Array.getElem?_eq_some_iff.1 NQ.out).1; have := HX3.out; omega))
  clear NO NQ
  have NO := NO3
  have NQ := NQ3
  clear NO3 NQ3

  clear HV2
  go_wp2_with fail
  obtain ⟨D4, hD4⟩ : ∃ xw, World.drew W3 = xw := ⟨_, rfl⟩
  have hbD4 : Below W3.heap.size W3 D4 := by rw [← hD4]; exact (Below.refl _ _).drew
  have HRD4 := hide (HV3.out.below hbD4)
  have NGD4 := hide HRD4.out.vv.blk
  have NOD4 := hide (blk_later NO.out hbD4)
  have NQD4 := hide (blk_later NQ.out hbD4)
  have HSZD4W3 : Hid (W3.heap.size ≤ D4.heap.size) := hide hbD4.size
  refine z_begins (S := fun W : World => (W.cell? ⟨g, 7, none⟩ = some ((r3 7).v)) ∧ (W.cell? ⟨w.heap.size, 0, none⟩ = some (.int .i64 q0) ∧ W.cell? ⟨w.heap.size, 1, none⟩ = some (.int .i64 q1)) ∧ (W.cell? ⟨w.heap.size + 1, 0, none⟩ = some (.int .i64 av) ∧ W.cell? ⟨w.heap.size + 1, 1, none⟩ = some (.slice ma ml.length mc) ∧ W.cell? ⟨w.heap.size + 1, 2, none⟩ = some (.int .i64 st) ∧ W.cell? ⟨w.heap.size + 1, 3, none⟩ = some (.slice la ll.length lc))) 12 13 #[false, false, false, false, false, false, false, false, false, false, false, false, false] (by kernel_rfl) (by kernel_rfl) (by kernel_rfl) (by rw [hD4]; exact ⟨((eight_cells NGD4.out rfl).2.2.2.2.2.2.2), (pair_cells NOD4.out rfl), (four_cells NQD4.out rfl)⟩) (fun hHeld => ?_)
  rw [hD4] at hHeld ⊢
  clear hD4 hbD4
  refine zk (v := ?_) 0 37 #[true, false, false, false, false, false, false, false, false, false, false, false, false] rfl rfl (by kernel_rfl) (by kernel_rfl) (by kernel_rfl) (by kernel_rfl) (fun _ _ _ h => h) (by kernel_rfl) (by rfl) ?hy hHeld ?_
  case hy => rintro W ⟨s1, ⟨s2, s3⟩, ⟨s4, s5, s6, s7⟩⟩; first | (go_simp; done) | (go_simp; with_reducible rfl)
  simp only [List.setIfInBounds_toArray, List.set_cons_zero, List.set_cons_succ]
  refine zk (v := ?_) 1 38 #[true, true, false, false, false, false, false, false, false, false, false, false, false] rfl rfl (by kernel_rfl) (by kernel_rfl) (by kernel_rfl) (by kernel_rfl) (fun _ _ _ h => h) (by kernel_rfl) (by rfl) ?hy hHeld ?_
  case hy => rintro W ⟨s1, ⟨s2, s3⟩, ⟨s4, s5, s6, s7⟩⟩; first | (go_simp; done) | (go_simp; with_reducible rfl)
  simp only [List.setIfInBounds_toArray, List.set_cons_zero, List.set_cons_succ]
  refine zk (v := ?_) 2 39 #[true, true, true, false, false, false, false, false, false, false, false, false, false] rfl rfl (by kernel_rfl) (by kernel_rfl) (by kernel_rfl) (by kernel_rfl) (fun _ _ _ h => h) (by kernel_rfl) (by rfl) ?hy hHeld ?_
  case hy => rintro W ⟨s1, ⟨s2, s3⟩, ⟨s4, s5, s6, s7⟩⟩; first | (go_simp; done) | (go_simp; with_reducible rfl)
  simp only [List.setIfInBounds_toArray, List.set_cons_zero, List.set_cons_succ]
  refine zk (v := ?_) 3 40 #[true, true, true, true, false, false, false, false, false, false, false, false, false] rfl rfl (by kernel_rfl) (by kernel_rfl) (by kernel_rfl) (by kernel_rfl) (fun _ _ _ h => h) (by kernel_rfl) (by rfl) ?hy hHeld ?_
  case hy => rintro W ⟨s1, ⟨s2, s3⟩, ⟨s4, s5, s6, s7⟩⟩; first | (go_simp; done) | (go_simp; with_reducible rfl)
  simp only [List.setIfInBounds_toArray, List.set_cons_zero, List.set_cons_succ]
  refine zk (v := ?_) 4 41 #[true, true, true, true, true, false, false, false, false, false, false, false, false] rfl rfl (by kernel_rfl) (by kernel_rfl) (by kernel_rfl) (by kernel_rfl) (fun _ _ _ h => h) (by kernel_rfl) (by rfl) ?hy hHeld ?_
  case hy => rintro W ⟨s1, ⟨s2, s3⟩, ⟨s4, s5, s6, s7⟩⟩; first | (go_simp; done) | (go_simp; with_reducible rfl)
  simp only [List.setIfInBounds_toArray, List.set_cons_zero, List.set_cons_succ]
  refine zk (v := ?_) 5 42 #[true, true, true, true, true, true, false, false, false, false, false, false, false] rfl rfl (by kernel_rfl) (by kernel_rfl) (by kernel_rfl) (by kernel_rfl) (fun _ _ _ h => h) (by kernel_rfl) (by rfl) ?hy hHeld ?_
  case hy => rintro W ⟨s1, ⟨s2, s3⟩, ⟨s4, s5, s6, s7⟩⟩; first | (go_simp; done) | (go_simp; with_reducible rfl)
  simp only [List.setIfInBounds_toArray, List.set_cons_zero, List.set_cons_succ]
  refine zk (v := ?_) 6 43 #[true, true, true, true, true, true, true, false, false, false, false, false, false] rfl rfl (by kernel_rfl) (by kernel_rfl) (by kernel_rfl) (by kernel_rfl) (fun _ _ _ h => h) (by kernel_rfl) (by rfl) ?hy hHeld ?_
  case hy => rintro W ⟨s1, ⟨s2, s3⟩, ⟨s4, s5, s6, s7⟩⟩; first | (go_simp; done) | (go_simp; with_reducible rfl)
  simp only [List.setIfInBounds_toArray, List.set_cons_zero, List.set_cons_succ]
  refine zk (v := ?_) 7 44 #[true, true, true, true, true, true, true, true, false, false, false, false, false] rfl rfl (by kernel_rfl) (by kernel_rfl) (by kernel_rfl) (by kernel_rfl) (fun _ _ _ h => h) (by kernel_rfl) (by rfl) ?hy hHeld ?_
  case hy => rintro W ⟨s1, ⟨s2, s3⟩, ⟨s4, s5, s6, s7⟩⟩; first | (go_simp; done) | (go_simp; with_reducible rfl)
  simp only [List.setIfInBounds_toArray, List.set_cons_zero, List.set_cons_succ]
  have hbA4 := (Below.refl D4.heap.size D4).alloc (Nat.le_refl _) (.cells #[.slice la ll.length lc] 22)
  have NGA4 := hide (blk_later NGD4.out hbA4)
  have NOA4 := hide (blk_later NOD4.out hbA4)
  have NQA4 := hide (blk_later NQD4.out hbA4)
  obtain ⟨i4, hi4, hz40, hz41, hz42⟩ := info_parts Tryz.infoL17
  obtain ⟨v4, w4, hrun4, hoth4, hft4, hch4, hVR4⟩ := HRD4.out.app 7 (by decide) (by decide) (show shp (r3 7) 22 1 x.G.length x.G from HRS3.out.s7) 49 49 i4 _ 24 Tryz.underlying49 hi4 hz40 hz41 hz42 rfl (by decide) (by decide) [.slice la ll.length lc] rfl (by intro u hu; simp at hu; rw [hu]; rfl) (by have := HLN.out.2.2.2.2.2.2.1; have := HKK.out; omega) (.cells #[.slice la ll.length lc] 22) rfl HRD4.out.vc
  obtain ⟨a4, c4, hv4⟩ : ∃ a c, v4 = .slice a (x.G.length + 1) c := by have h := hVR4.vv.own 7; rw [upR_same] at h; exact owns_sl h
  subst hv4
  have NGw4 := hide ((hoth4 g (HRD4.out.vv.lt (.inl rfl)) (HRD4.out.vv.ng 7)).trans NGD4.out)
  have NOw4 := hide ((hoth4 (w.heap.size) (Array.getElem?_eq_some_iff.1 NOD4.out).1 (fun e => HNO3.out (.inr ⟨7, e⟩))).trans NOD4.out)
  have NQw4 := hide ((hoth4 (w.heap.size + 1) (Array.getElem?_eq_some_iff.1 NQD4.out).1 (fun e => HNQ3.out (.inr ⟨7, e⟩))).trans NQD4.out)
  have HRUN4 := hide hrun4
  clear hi4 hz40 hz41 hz42 hrun4
  refine z_ready 8 #[true, true, true, true, true, true, true, true, true, false, false, false, false] rfl (by kernel_rfl) (by kernel_rfl) (by rfl) (fun K hK => ?_)
  go_simp
  refine hK.out _ _ (fun _ => ⟨((eight_cells NGA4.out rfl).2.2.2.2.2.2.2), (pair_cells NOA4.out rfl), (four_cells NQA4.out rfl)⟩) (fun hHeld => ?_)
  clear hK K
  refine z_ready 9 #[true, true, true, true, true, true, true, true, true, true, false, false, false] rfl (by kernel_rfl) (by kernel_rfl) (by rfl) (fun K hK => ?_)
  refine op_append_gen _ _ rfl _ ⟨D4.heap.size, 0, none⟩ 1 1 rfl rfl _ w4 HRUN4.out ?_
  simp only [Act.put, List.setIfInBounds_toArray]
  refine hK.out _ _ (fun _ => ⟨((eight_cells NGw4.out rfl).2.2.2.2.2.2.2), (pair_cells NOw4.out rfl), (four_cells NQw4.out rfl)⟩) (fun hHeld => ?_)
  clear hK K
  refine z_ready 10 #[true, true, true, true, true, true, true, true, true, true, true, false, false] rfl (by kernel_rfl) (by kernel_rfl) (by rfl) (fun K hK => ?_)
  go_simp
  refine hK.out _ _ (fun _ => ⟨((eight_cells NGw4.out rfl).2.2.2.2.2.2.2), (pair_cells NOw4.out rfl), (four_cells NQw4.out rfl)⟩) (fun hHeld => ?_)
  clear hK K
  refine z_ready 11 #[true, true, true, true, true, true, true, true, true, true, true, true, false] rfl (by kernel_rfl) (by kernel_rfl) (by rfl) (fun K hK => ?_)
  go_simp
  refine hK.out _ _ (fun _ => ⟨((eight_cells NGw4.out rfl).2.2.2.2.2.2.2), (pair_cells NOw4.out rfl), (four_cells NQw4.out rfl)⟩) (fun hHeld => ?_)
  clear hK K
  have hfz4 := nofz NGw4.out 7
  have hcx4 := (eight_cells NGw4.out rfl).2.2.2.2.2.2.2
  obtain ⟨W4, hW4⟩ : ∃ xw, World.setCell w4 ⟨g, 7, none⟩ (.slice a4 (x.G.length + 1) c4) = xw := ⟨_, rfl⟩
  rw [hW4] at hft4 hVR4
  obtain ⟨r4, hr4⟩ : ∃ xr, upR r3 7 ⟨22, 1, .slice a4 (x.G.length + 1) c4, x.G.length + 1, x.G ++ [.slice la ll.length lc]⟩ = xr := ⟨_, rfl⟩
  rw [hr4] at hch4 hVR4
  have HV4 := hide hVR4
  have HF4 := hide hft4
  have HC4 := hide hch4
  have HUP4 := hide hr4
  have NO4 := hide ((hft4.block (w.heap.size) (Array.getElem?_eq_some_iff.1 NOD4.out).1 (HNO3.out)).trans NOD4.out)
  have NQ4 := hide ((hft4.block (w.heap.size + 1) (Array.getElem?_eq_some_iff.1 NQD4.out).1 (HNQ3.out)).trans NQD4.out)
  have HS4 : Hid (W3.heap.size ≤ W4.heap.size) := hide (Nat.le_trans HSZD4W3.out hft4.size)
  have HX4 := HSZD4W3
  clear hr4 hVR4 hft4 hch4 hoth4 hbA4
  refine z_ready 12 #[true, true, true, true, true, true, true, true, true, true, true, true, true] rfl (by kernel_rfl) (by kernel_rfl) (by rfl) (fun K hK => ?_)
  go_simp
  refine hK.out _ _ (fun h => absurd rfl h) (fun _ => ?_)
  clear hK K
  refine z_done (by kernel_rfl) ?_ _
  clear hW4 hfz4 hcx4 HRUN4 NGw4 NGA4 NGD4 HRD4 NOw4 NOA4 NOD4 NQw4 NQA4 NQD4
  try clear hHeld

  have HRS4 : Hid (RS { vgx x (q0, q1) with n := x.n + 1, M := x.M ++ [.slice ma ml.length mc], G := x.G ++ [.slice la ll.length lc] } TL WL r4) := hide (by rw [← HUP4.out]; exact HRS3.out.pG _ _)
  have HNO4 : Hid (¬ Chg g r4 (w.heap.size)) := hide (fun k => (HC4.out _ k).elim HNO3.out (fun k2 => by have := (Array.getElem?_eq_some_iff.1 NO.out).1; have := HX4.out; omega))
  have HNQ4 : Hid (¬ Chg g r4 (w.heap.size + 1)) := hide (fun k => (HC4.out _ k).elim HNQ3.out (fun k2 => by have := (Array.getElem?_eq_some_iff.1 NQ.out).1; have := HX4.out; omega))
  clear NO NQ
  have NO := NO4
  have NQ := NQ4
  clear NO4 NQ4

  clear HV3
  obtain ⟨ka, kc, hk0⟩ : ∃ a c, (r4 0).v = .slice a x.K.length c := by have h := HV4.out.vv.own 0; rw [HRS4.out.s0.2.2.1] at h; exact owns_sl h
  obtain ⟨ca, cp, hk1⟩ : ∃ a c, (r4 1).v = .slice a x.C.length c := by have h := HV4.out.vv.own 1; rw [HRS4.out.s1.2.2.1] at h; exact owns_sl h
  have hng := HV4.out.vv.blk
  rw [hk0, hk1] at hng
  have NG4 := hide hng
  have HKR : Hid (KY.RM W4 (.slice ka x.K.length kc) x.K) := hide (KY.OM.rm (B := 0) (by
    have h := HV4.out.vv.own 0
    obtain ⟨s1, s2, s3, s4⟩ := HRS4.out.s0
    rw [s1, s2, s3, s4, hk0] at h
    exact h))
  have HK0 := hide hk0
  have HK1 := hide hk1
  clear hng hk0 hk1 HR0 HNO HNQ HRS
  have B1 := hide (Below.refl W4.heap.size W4)
  go_wp2_with fail
  go_loopw [6] (fun i wr => ∃ j : Nat, j ≤ x.K.length ∧ i = .int .i64 (j : Int) ∧ Hid (∀ m, m < j → x.K[m]? ≠ some (q0, q1)) ∧ Hid (Below W4.heap.size W4 wr)) (fun i _ => x.K.length - (intOf i).toNat)
  case atStart => exact ⟨0, Nat.zero_le _, rfl, hide (fun m hm => by omega), B1⟩
  case round =>
    clear B1
    obtain ⟨j, hj, rfl, HNT, HB⟩ := hrel
    have HVr := hide (HV4.out.below HB.out)
    have NGr := hide (blk_later NG4.out HB.out)
    have NOr := hide (blk_later NO.out HB.out)
    have NQr := hide (blk_later NQ.out HB.out)
    obtain ⟨y0, y1, y2, y3, y4, y5, y6, y7⟩ := eight_cells NGr.out rfl
    obtain ⟨x0, x1⟩ := pair_cells NOr.out rfl
    by_cases hlt : j < x.K.length
    · obtain ⟨⟨k0, k1⟩, hx⟩ : ∃ p, x.K[j]? = some p := ⟨_, List.getElem?_eq_getElem hlt⟩
      obtain ⟨_, _, he0, _, hkr⟩ := HKR.out
      cases he0
      obtain ⟨kb, ko, rfl, hkl, hkc⟩ := hkr.resolve_left (fun h => by rw [h] at hlt; simp at hlt)
      have z0 : wr.cell? ⟨kb, ko + j * 2, none⟩ = some (.int .i64 k0) := (HB.out.cell (p := ⟨kb, _, none⟩) hkl).trans (hkc j _ hx).1
      have z1 : wr.cell? ⟨kb, ko + j * 2 + 1, none⟩ = some (.int .i64 k1) := (HB.out.cell (p := ⟨kb, _, none⟩) hkl).trans (hkc j _ hx).2
      have z1' : wr.cell? ⟨kb, ko + (j * 2 + 1), none⟩ = some (.int .i64 k1) := z1
      have hd : decide ((j : Int) < (x.K.length : Int)) = true := by rw [decide_eq_true_eq]; omega
      have k0' : (0 : Int) ≤ (j : Int) := by omega
      have k1' : (j : Int) < (x.K.length : Int) := by omega
      have wk : wrap64 ((j : Int) + 1) = (j : Int) + 1 := by have := HLN.out.2.1; have := HKK.out; unfold wrap64; omega
      have HX := hide hx
      have HJ := hide hlt
      have ev := KY.eqMk k0 k1 q0 q1
      clear hkc hx hkr hlt
      cases hE : (k0 == q0 && k1 == q1) with
      | false =>
        rw [hE] at ev
        have HNE : Hid (¬ (k0, k1) = (q0, q1)) := hide (fun e => by
          rw [Prod.mk.injEq] at e
          rw [e.1, e.2] at hE
          simp at hE)
        clear hE
        go_wp2_with fail
        go_quiet (fail)
        have HB2 := hide (below_dN HB.out nq)
        go_wp2_with fail
        go_roundw
        case rel => exact ⟨j + 1, by have := HJ.out; omega, by go_num, hide (fun m hm => by
          by_cases e : m = j
          · subst e; rw [HX.out]; intro k; exact HNE.out (Option.some.inj k)
          · exact HNT.out m (by omega)), HB2⟩
        case measure => have := HJ.out; first | (rw [wk]; simp [intOf]; omega) | (simp [intOf]; omega)
      | true =>
        rw [hE] at ev
        have HIX : Hid (ix x.K (q0, q1) = j) := hide (ix_at HNT.out (by
          simp only [Bool.and_eq_true, beq_iff_eq] at hE
          rw [HX.out, hE.1, hE.2]))
        clear hE
        go_wp2_with fail
        go_quiet (fail)
        have hbx := below_dN HB.out nq
        obtain ⟨X0, hX0⟩ : ∃ xw, World.drewN wr nq = xw := ⟨_, rfl⟩
        rw [hX0] at hbx ⊢
        have HBx := hide hbx
        clear hX0 hbx HVr NGr NOr NQr y0 y1 y2 y3 y4 y5 y6 y7 x0 x1 z0 z1 z1' HB ev
        obtain ⟨cb, hca⟩ : ∃ cb, ca = some ⟨cb, 0, none⟩ := by
          have h := HV4.out.vv.own 1
          rw [HRS4.out.s1.2.2.1, HK1.out] at h
          rcases h.2 with ⟨_, h0⟩ | ⟨cb, cap, cur, hv, _⟩
          · have h1 : x.C.length = 0 := h0
            have := HLN.out.1; have := HJ.out; omega
          · injection hv with e1 e2 e3; exact ⟨cb, e1⟩
        subst hca
        go_wp2_with fail
        obtain ⟨D9, hD9⟩ : ∃ xw, World.drew X0 = xw := ⟨_, rfl⟩
        have hbD9 : Below W4.heap.size W4 D9 := by rw [← hD9]; exact HBx.out.drew
        have HR9 := hide (HV4.out.below hbD9)
        have NGD9 := hide (blk_later NG4.out hbD9)
        have NQD9 := hide (blk_later NQ.out hbD9)
        have HCO : Hid (D9.ownsRow 0 64 4 (.slice (some ⟨cb, 0, none⟩) x.C.length cp) x.C.length (cc x.C)) := hide (by
          have h := HR9.out.vv.own 1
          obtain ⟨s1, s2, s3, s4⟩ := HRS4.out.s1
          rw [s1, s2, s3, s4, HK1.out] at h
          exact h)
        have HTH : Hid (D9.there cb (j * 4) 4) := hide (fun q hq => ⟨by
          rw [World.ownsRow.cellAt HCO.out (j * 4 + q) (by have := HLN.out.1; have := HJ.out; omega), List.getElem?_eq_getElem (by rw [cc_len]; have := HLN.out.1; have := HJ.out; omega)]; rfl, by
          rcases HCO.out.2 with ⟨h0, _⟩ | ⟨g', cap, cur, hv, _, hh, _⟩
          · cases h0
          · cases hv; exact nofz hh _⟩)
        obtain ⟨ho9, hg9⟩ := cells_set HCO.out j (⟨av, ml, .slice ma ml.length mc, st, ll, .slice la ll.length lc⟩ : Cl)
        have HVF := hide (HR9.out.set (C' := x.C.set j (⟨av, ml, .slice ma ml.length mc, st, ll, .slice la ll.length lc⟩ : Cl)) 1 ⟨64, 4, .slice (some ⟨cb, 0, none⟩) x.C.length cp, x.C.length, cc (x.C.set j (⟨av, ml, .slice ma ml.length mc, st, ll, .slice la ll.length lc⟩ : Cl))⟩ HK1.out.symm ho9 (by rw [HK1.out]; exact hg9) (HR9.out.vc.turnC (⟨av, ml, .slice ma ml.length mc, st, ll, .slice la ll.length lc⟩ : Cl) ⟨HR9.out.fr.cr HCR.out HNF.out, HFW.out⟩ (fun b k => ⟨fun kk => HNC.out b k ((HR9.out.inF b kk).resolve_right (fun k2 => by have := HCR.out.2.2 b k; have := k2.1; omega)), .inl (.inr k)⟩) (fun y hy => List.mem_or_eq_of_mem_set hy)))
        have HRSF := hide (HRS4.out.sC j (⟨av, ml, .slice ma ml.length mc, st, ll, .slice la ll.length lc⟩ : Cl) (.slice (some ⟨cb, 0, none⟩) x.C.length cp))
        have k2' : (j : Int) < (x.C.length : Int) := by have := HLN.out.1; omega
        clear ho9 hg9
        refine z_begins (S := fun W : World => (W.cell? ⟨g, 1, none⟩ = some (.slice (some ⟨cb, 0, none⟩) x.C.length cp)) ∧ (W.cell? ⟨w.heap.size + 1, 0, none⟩ = some (.int .i64 av) ∧ W.cell? ⟨w.heap.size + 1, 1, none⟩ = some (.slice ma ml.length mc) ∧ W.cell? ⟨w.heap.size + 1, 2, none⟩ = some (.int .i64 st) ∧ W.cell? ⟨w.heap.size + 1, 3, none⟩ = some (.slice la ll.length lc))) 7 8 #[false, false, false, false, false, false, false, false] (by kernel_rfl) (by kernel_rfl) (by kernel_rfl) (by rw [hD9]; exact ⟨((eight_cells NGD9.out rfl).2.1), (four_cells NQD9.out rfl)⟩) (fun hHeld => ?_)
        rw [hD9] at hHeld ⊢
        clear hD9 hbD9
        refine zk (v := ?_) 0 67 #[true, false, false, false, false, false, false, false] rfl rfl (by kernel_rfl) (by kernel_rfl) (by kernel_rfl) (by kernel_rfl) (fun _ _ _ h => h) (by kernel_rfl) (by rfl) ?hy hHeld ?_
        case hy => rintro W ⟨s1, ⟨s2, s3, s4, s5⟩⟩; first | (go_simp; done) | (go_simp; with_reducible rfl)
        simp only [List.setIfInBounds_toArray, List.set_cons_zero, List.set_cons_succ]
        refine zk (v := ?_) 1 68 #[true, true, false, false, false, false, false, false] rfl rfl (by kernel_rfl) (by kernel_rfl) (by kernel_rfl) (by kernel_rfl) (fun _ _ _ h => h) (by kernel_rfl) (by rfl) ?hy hHeld ?_
        case hy => rintro W ⟨s1, ⟨s2, s3, s4, s5⟩⟩; first | (go_simp; done) | (go_simp; with_reducible rfl)
        simp only [List.setIfInBounds_toArray, List.set_cons_zero, List.set_cons_succ]
        refine zk (v := ?_) 2 69 #[true, true, true, false, false, false, false, false] rfl rfl (by kernel_rfl) (by kernel_rfl) (by kernel_rfl) (by kernel_rfl) (fun _ _ _ h => h) (by kernel_rfl) (by rfl) ?hy hHeld ?_
        case hy => rintro W ⟨s1, ⟨s2, s3, s4, s5⟩⟩; first | (go_simp; done) | (go_simp; with_reducible rfl)
        simp only [List.setIfInBounds_toArray, List.set_cons_zero, List.set_cons_succ]
        refine zk (v := ?_) 3 70 #[true, true, true, true, false, false, false, false] rfl rfl (by kernel_rfl) (by kernel_rfl) (by kernel_rfl) (by kernel_rfl) (fun _ _ _ h => h) (by kernel_rfl) (by rfl) ?hy hHeld ?_
        case hy => rintro W ⟨s1, ⟨s2, s3, s4, s5⟩⟩; first | (go_simp; done) | (go_simp; with_reducible rfl)
        simp only [List.setIfInBounds_toArray, List.set_cons_zero, List.set_cons_succ]
        refine zk (v := ?_) 4 71 #[true, true, true, true, true, false, false, false] rfl rfl (by kernel_rfl) (by kernel_rfl) (by kernel_rfl) (by kernel_rfl) (fun _ _ _ h => h) (by kernel_rfl) (by rfl) ?hy hHeld ?_
        case hy => rintro W ⟨s1, ⟨s2, s3, s4, s5⟩⟩; first | (go_simp; done) | (go_simp; with_reducible rfl)
        simp only [List.setIfInBounds_toArray, List.set_cons_zero, List.set_cons_succ]
        refine zk (v := ?_) 5 72 #[true, true, true, true, true, true, false, false] rfl rfl (by kernel_rfl) (by kernel_rfl) (by kernel_rfl) (by kernel_rfl) (fun _ _ _ h => h) (by kernel_rfl) (by rfl) ?hy hHeld ?_
        case hy => rintro W ⟨s1, ⟨s2, s3, s4, s5⟩⟩; first | (go_simp; done) | (go_simp; with_reducible rfl)
        simp only [List.setIfInBounds_toArray, List.set_cons_zero, List.set_cons_succ]
        have k0d := k0'
        have k2d := k2'
        refine z_ready 6 #[true, true, true, true, true, true, true, false] rfl (by kernel_rfl) (by kernel_rfl) (by rfl) (fun K hK => ?_)
        go_simp
        refine hK.out _ _ (fun _ => ⟨((eight_cells NGD9.out rfl).2.1), (four_cells NQD9.out rfl)⟩) (fun hHeld => ?_)
        clear hK K
        refine z_ready 7 #[true, true, true, true, true, true, true, true] rfl (by kernel_rfl) (by kernel_rfl) (by rfl) (fun K hK => ?_)
        refine wp_store_mid 64 _ _ rfl cb (j * 4) #[.int .i64 av, .slice ma ml.length mc, .int .i64 st, .slice la ll.length lc] rfl rfl HTH.out Tryz.sizeC17 (by simp [Value.oneCell']) ?_
        simp only [Act.put]
        refine hK.out _ _ (fun h => absurd rfl h) (fun _ => ?_)
        clear hK K
        refine z_done (by kernel_rfl) ?_ _

        clear hHeld
        go_wp2_with fail
        (try simp only [Exit.inBlock, Exit.then])
        refine bodyPost_ret (v := .tuple #[]) (by simp [results, Tryz.results150, go_sem]) rfl ?_
        refine ⟨rfl, ?_, HVF.out.fr⟩
        have hpx : vpx x (q0, q1) (⟨av, ml, .slice ma ml.length mc, st, ll, .slice la ll.length lc⟩ : Cl) = { x with A := x.A ++ [(q0, q1)], n := x.n + 1, M := x.M ++ [.slice ma ml.length mc], G := x.G ++ [.slice la ll.length lc], C := x.C.set j (⟨av, ml, .slice ma ml.length mc, st, ll, .slice la ll.length lc⟩ : Cl), k := x.k + 1 } := by
          unfold vpx
          rw [HIX.out, if_pos HJ.out]
        rw [hpx]
        exact ⟨_, TL, WL, HVF.out.ended _ (fun b k => by
            rcases k with (k | k) | k
            · exact .inl (.inl k)
            · exact .inr k
            · exact .inl (.inr k)) (fun b k => by
            rcases k with k | k
            · rcases k with k | k
              · exact HVF.out.lo (.inl (.inl k))
              · exact k.2
            · exact HVF.out.lo (.inl (.inr k))), HRSF.out, HWT.out, by
          have h := HLN.out
          unfold LNx at *
          simp only [List.length_append, List.length_cons, List.length_nil, List.length_set]
          omega⟩
    · have hj' : j = x.K.length := by omega
      subst hj'
      have HIX : Hid (ix x.K (q0, q1) = x.K.length) := hide (ix_no HNT.out)
      clear NO NQ
      have NO := NOr
      have NQ := NQr
      clear NOr NQr
      go_wp2_with fail
      clear y0 y1 y2 y3 y4 y5 y6 y7 x0 x1
      obtain ⟨D5, hD5⟩ : ∃ xw, World.drew wr = xw := ⟨_, rfl⟩
      have hbD5 : Below wr.heap.size wr D5 := by rw [← hD5]; exact (Below.refl _ _).drew
      have HRD5 := hide (HVr.out.below hbD5)
      have NGD5 := hide HRD5.out.vv.blk
      have NOD5 := hide (blk_later NO.out hbD5)
      have NQD5 := hide (blk_later NQ.out hbD5)
      have HSZD5wr : Hid (wr.heap.size ≤ D5.heap.size) := hide hbD5.size
      refine z_begins (S := fun W : World => (W.cell? ⟨g, 0, none⟩ = some ((r4 0).v)) ∧ (W.cell? ⟨w.heap.size, 0, none⟩ = some (.int .i64 q0) ∧ W.cell? ⟨w.heap.size, 1, none⟩ = some (.int .i64 q1)) ∧ (W.cell? ⟨w.heap.size + 1, 0, none⟩ = some (.int .i64 av) ∧ W.cell? ⟨w.heap.size + 1, 1, none⟩ = some (.slice ma ml.length mc) ∧ W.cell? ⟨w.heap.size + 1, 2, none⟩ = some (.int .i64 st) ∧ W.cell? ⟨w.heap.size + 1, 3, none⟩ = some (.slice la ll.length lc))) 10 11 #[false, false, false, false, false, false, false, false, false, false, false] (by kernel_rfl) (by kernel_rfl) (by kernel_rfl) (by rw [hD5]; exact ⟨((eight_cells NGD5.out rfl).1), (pair_cells NOD5.out rfl), (four_cells NQD5.out rfl)⟩) (fun hHeld => ?_)
      rw [hD5] at hHeld ⊢
      clear hD5 hbD5
      refine zk (v := ?_) 0 74 #[true, false, false, false, false, false, false, false, false, false, false] rfl rfl (by kernel_rfl) (by kernel_rfl) (by kernel_rfl) (by kernel_rfl) (fun _ _ _ h => h) (by kernel_rfl) (by rfl) ?hy hHeld ?_
      case hy => rintro W ⟨s1, ⟨s2, s3⟩, ⟨s4, s5, s6, s7⟩⟩; first | (go_simp; done) | (go_simp; with_reducible rfl)
      simp only [List.setIfInBounds_toArray, List.set_cons_zero, List.set_cons_succ]
      refine zk (v := ?_) 1 75 #[true, true, false, false, false, false, false, false, false, false, false] rfl rfl (by kernel_rfl) (by kernel_rfl) (by kernel_rfl) (by kernel_rfl) (fun _ _ _ h => h) (by kernel_rfl) (by rfl) ?hy hHeld ?_
      case hy => rintro W ⟨s1, ⟨s2, s3⟩, ⟨s4, s5, s6, s7⟩⟩; first | (go_simp; done) | (go_simp; with_reducible rfl)
      simp only [List.setIfInBounds_toArray, List.set_cons_zero, List.set_cons_succ]
      refine zk (v := ?_) 2 76 #[true, true, true, false, false, false, false, false, false, false, false] rfl rfl (by kernel_rfl) (by kernel_rfl) (by kernel_rfl) (by kernel_rfl) (fun _ _ _ h => h) (by kernel_rfl) (by rfl) ?hy hHeld ?_
      case hy => rintro W ⟨s1, ⟨s2, s3⟩, ⟨s4, s5, s6, s7⟩⟩; first | (go_simp; done) | (go_simp; with_reducible rfl)
      simp only [List.setIfInBounds_toArray, List.set_cons_zero, List.set_cons_succ]
      refine zk (v := ?_) 3 77 #[true, true, true, true, false, false, false, false, false, false, false] rfl rfl (by kernel_rfl) (by kernel_rfl) (by kernel_rfl) (by kernel_rfl) (fun _ _ _ h => h) (by kernel_rfl) (by rfl) ?hy hHeld ?_
      case hy => rintro W ⟨s1, ⟨s2, s3⟩, ⟨s4, s5, s6, s7⟩⟩; first | (go_simp; done) | (go_simp; with_reducible rfl)
      simp only [List.setIfInBounds_toArray, List.set_cons_zero, List.set_cons_succ]
      refine zk (v := ?_) 4 78 #[true, true, true, true, true, false, false, false, false, false, false] rfl rfl (by kernel_rfl) (by kernel_rfl) (by kernel_rfl) (by kernel_rfl) (fun _ _ _ h => h) (by kernel_rfl) (by rfl) ?hy hHeld ?_
      case hy => rintro W ⟨s1, ⟨s2, s3⟩, ⟨s4, s5, s6, s7⟩⟩; first | (go_simp; done) | (go_simp; with_reducible rfl)
      simp only [List.setIfInBounds_toArray, List.set_cons_zero, List.set_cons_succ]
      refine zk (v := ?_) 5 79 #[true, true, true, true, true, true, false, false, false, false, false] rfl rfl (by kernel_rfl) (by kernel_rfl) (by kernel_rfl) (by kernel_rfl) (fun _ _ _ h => h) (by kernel_rfl) (by rfl) ?hy hHeld ?_
      case hy => rintro W ⟨s1, ⟨s2, s3⟩, ⟨s4, s5, s6, s7⟩⟩; first | (go_simp; done) | (go_simp; with_reducible rfl)
      simp only [List.setIfInBounds_toArray, List.set_cons_zero, List.set_cons_succ]
      have hbA5 := (Below.refl D5.heap.size D5).alloc (Nat.le_refl _) (.cells #[.int .i64 q0, .int .i64 q1] 39)
      have NGA5 := hide (blk_later NGD5.out hbA5)
      have NOA5 := hide (blk_later NOD5.out hbA5)
      have NQA5 := hide (blk_later NQD5.out hbA5)
      obtain ⟨i5, hi5, hz50, hz51, hz52⟩ := info_parts KY.Tryz.infoMk
      obtain ⟨v5, w5, hrun5, hoth5, hft5, hch5, hVR5⟩ := HRD5.out.app 0 (by decide) (by decide) (show shp (r4 0) 39 2 x.K.length (KY.mc x.K) from HRS4.out.s0) 23 23 i5 _ 16 Tryz.underlying23 hi5 hz50 hz51 hz52 rfl (by decide) (by decide) [.int .i64 q0, .int .i64 q1] rfl (by intro u hu; simp at hu; rcases hu with rfl | rfl <;> rfl) (by have := HLN.out.2.1; have := HKK.out; omega) (.cells #[.int .i64 q0, .int .i64 q1] 39) rfl HRD5.out.vc
      obtain ⟨a5, c5, hv5⟩ : ∃ a c, v5 = .slice a (x.K.length + 1) c := by have h := hVR5.vv.own 0; rw [upR_same] at h; exact owns_sl h
      subst hv5
      have NGw5 := hide ((hoth5 g (HRD5.out.vv.lt (.inl rfl)) (HRD5.out.vv.ng 0)).trans NGD5.out)
      have NOw5 := hide ((hoth5 (w.heap.size) (Array.getElem?_eq_some_iff.1 NOD5.out).1 (fun e => HNO4.out (.inr ⟨0, e⟩))).trans NOD5.out)
      have NQw5 := hide ((hoth5 (w.heap.size + 1) (Array.getElem?_eq_some_iff.1 NQD5.out).1 (fun e => HNQ4.out (.inr ⟨0, e⟩))).trans NQD5.out)
      have HRUN5 := hide hrun5
      clear hi5 hz50 hz51 hz52 hrun5
      refine z_ready 6 #[true, true, true, true, true, true, true, false, false, false, false] rfl (by kernel_rfl) (by kernel_rfl) (by rfl) (fun K hK => ?_)
      go_simp
      refine hK.out _ _ (fun _ => ⟨((eight_cells NGA5.out rfl).1), (pair_cells NOA5.out rfl), (four_cells NQA5.out rfl)⟩) (fun hHeld => ?_)
      clear hK K
      refine z_ready 7 #[true, true, true, true, true, true, true, true, false, false, false] rfl (by kernel_rfl) (by kernel_rfl) (by rfl) (fun K hK => ?_)
      refine op_append_gen _ _ rfl _ ⟨D5.heap.size, 0, none⟩ 1 1 rfl rfl _ w5 HRUN5.out ?_
      simp only [Act.put, List.setIfInBounds_toArray]
      refine hK.out _ _ (fun _ => ⟨((eight_cells NGw5.out rfl).1), (pair_cells NOw5.out rfl), (four_cells NQw5.out rfl)⟩) (fun hHeld => ?_)
      clear hK K
      refine z_ready 8 #[true, true, true, true, true, true, true, true, true, false, false] rfl (by kernel_rfl) (by kernel_rfl) (by rfl) (fun K hK => ?_)
      go_simp
      refine hK.out _ _ (fun _ => ⟨((eight_cells NGw5.out rfl).1), (pair_cells NOw5.out rfl), (four_cells NQw5.out rfl)⟩) (fun hHeld => ?_)
      clear hK K
      refine z_ready 9 #[true, true, true, true, true, true, true, true, true, true, false] rfl (by kernel_rfl) (by kernel_rfl) (by rfl) (fun K hK => ?_)
      go_simp
      refine hK.out _ _ (fun _ => ⟨((eight_cells NGw5.out rfl).1), (pair_cells NOw5.out rfl), (four_cells NQw5.out rfl)⟩) (fun hHeld => ?_)
      clear hK K
      have hfz5 := nofz NGw5.out 0
      have hcx5 := (eight_cells NGw5.out rfl).1
      obtain ⟨W5, hW5⟩ : ∃ xw, World.setCell w5 ⟨g, 0, none⟩ (.slice a5 (x.K.length + 1) c5) = xw := ⟨_, rfl⟩
      rw [hW5] at hft5 hVR5
      obtain ⟨r5, hr5⟩ : ∃ xr, upR r4 0 ⟨39, 2, .slice a5 (x.K.length + 1) c5, x.K.length + 1, KY.mc x.K ++ [.int .i64 q0, .int .i64 q1]⟩ = xr := ⟨_, rfl⟩
      rw [hr5] at hch5 hVR5
      have HV5 := hide hVR5
      have HF5 := hide hft5
      have HC5 := hide hch5
      have HUP5 := hide hr5
      have NO5 := hide ((hft5.block (w.heap.size) (Array.getElem?_eq_some_iff.1 NOD5.out).1 (HNO4.out)).trans NOD5.out)
      have NQ5 := hide ((hft5.block (w.heap.size + 1) (Array.getElem?_eq_some_iff.1 NQD5.out).1 (HNQ4.out)).trans NQD5.out)
      have HS5 : Hid (wr.heap.size ≤ W5.heap.size) := hide (Nat.le_trans HSZD5wr.out hft5.size)
      have HX5 := HSZD5wr
      clear hr5 hVR5 hft5 hch5 hoth5 hbA5
      refine z_ready 10 #[true, true, true, true, true, true, true, true, true, true, true] rfl (by kernel_rfl) (by kernel_rfl) (by rfl) (fun K hK => ?_)
      go_simp
      refine hK.out _ _ (fun h => absurd rfl h) (fun _ => ?_)
      clear hK K
      refine z_done (by kernel_rfl) ?_ _
      clear hW5 hfz5 hcx5 HRUN5 NGw5 NGA5 NGD5 HRD5 NOw5 NOA5 NOD5 NQw5 NQA5 NQD5
      try clear hHeld

      have HRS5 : Hid (RS { vgx x (q0, q1) with n := x.n + 1, M := x.M ++ [.slice ma ml.length mc], G := x.G ++ [.slice la ll.length lc], K := x.K ++ [(q0, q1)] } TL WL r5) := hide (by rw [← HUP5.out]; exact HRS4.out.pK _ _ _)
      have HNO5 : Hid (¬ Chg g r5 (w.heap.size)) := hide (fun k => (HC5.out _ k).elim HNO4.out (fun k2 => by have := (Array.getElem?_eq_some_iff.1 NO.out).1; have := HX5.out; omega))
      have HNQ5 : Hid (¬ Chg g r5 (w.heap.size + 1)) := hide (fun k => (HC5.out _ k).elim HNQ4.out (fun k2 => by have := (Array.getElem?_eq_some_iff.1 NQ.out).1; have := HX5.out; omega))
      clear NO NQ
      have NO := NO5
      have NQ := NQ5
      clear NO5 NQ5

      go_wp2_with fail
      obtain ⟨D6, hD6⟩ : ∃ xw, World.drew W5 = xw := ⟨_, rfl⟩
      have hbD6 : Below W5.heap.size W5 D6 := by rw [← hD6]; exact (Below.refl _ _).drew
      have HRD6 := hide (HV5.out.below hbD6)
      have NGD6 := hide HRD6.out.vv.blk
      have NOD6 := hide (blk_later NO.out hbD6)
      have NQD6 := hide (blk_later NQ.out hbD6)
      have HSZD6W5 : Hid (W5.heap.size ≤ D6.heap.size) := hide hbD6.size
      refine z_begins (S := fun W : World => (W.cell? ⟨g, 1, none⟩ = some ((r5 1).v)) ∧ (W.cell? ⟨w.heap.size, 0, none⟩ = some (.int .i64 q0) ∧ W.cell? ⟨w.heap.size, 1, none⟩ = some (.int .i64 q1)) ∧ (W.cell? ⟨w.heap.size + 1, 0, none⟩ = some (.int .i64 av) ∧ W.cell? ⟨w.heap.size + 1, 1, none⟩ = some (.slice ma ml.length mc) ∧ W.cell? ⟨w.heap.size + 1, 2, none⟩ = some (.int .i64 st) ∧ W.cell? ⟨w.heap.size + 1, 3, none⟩ = some (.slice la ll.length lc))) 10 11 #[false, false, false, false, false, false, false, false, false, false, false] (by kernel_rfl) (by kernel_rfl) (by kernel_rfl) (by rw [hD6]; exact ⟨((eight_cells NGD6.out rfl).2.1), (pair_cells NOD6.out rfl), (four_cells NQD6.out rfl)⟩) (fun hHeld => ?_)
      rw [hD6] at hHeld ⊢
      clear hD6 hbD6
      refine zk (v := ?_) 0 84 #[true, false, false, false, false, false, false, false, false, false, false] rfl rfl (by kernel_rfl) (by kernel_rfl) (by kernel_rfl) (by kernel_rfl) (fun _ _ _ h => h) (by kernel_rfl) (by rfl) ?hy hHeld ?_
      case hy => rintro W ⟨s1, ⟨s2, s3⟩, ⟨s4, s5, s6, s7⟩⟩; first | (go_simp; done) | (go_simp; with_reducible rfl)
      simp only [List.setIfInBounds_toArray, List.set_cons_zero, List.set_cons_succ]
      refine zk (v := ?_) 1 85 #[true, true, false, false, false, false, false, false, false, false, false] rfl rfl (by kernel_rfl) (by kernel_rfl) (by kernel_rfl) (by kernel_rfl) (fun _ _ _ h => h) (by kernel_rfl) (by rfl) ?hy hHeld ?_
      case hy => rintro W ⟨s1, ⟨s2, s3⟩, ⟨s4, s5, s6, s7⟩⟩; first | (go_simp; done) | (go_simp; with_reducible rfl)
      simp only [List.setIfInBounds_toArray, List.set_cons_zero, List.set_cons_succ]
      refine zk (v := ?_) 2 86 #[true, true, true, false, false, false, false, false, false, false, false] rfl rfl (by kernel_rfl) (by kernel_rfl) (by kernel_rfl) (by kernel_rfl) (fun _ _ _ h => h) (by kernel_rfl) (by rfl) ?hy hHeld ?_
      case hy => rintro W ⟨s1, ⟨s2, s3⟩, ⟨s4, s5, s6, s7⟩⟩; first | (go_simp; done) | (go_simp; with_reducible rfl)
      simp only [List.setIfInBounds_toArray, List.set_cons_zero, List.set_cons_succ]
      refine zk (v := ?_) 3 87 #[true, true, true, true, false, false, false, false, false, false, false] rfl rfl (by kernel_rfl) (by kernel_rfl) (by kernel_rfl) (by kernel_rfl) (fun _ _ _ h => h) (by kernel_rfl) (by rfl) ?hy hHeld ?_
      case hy => rintro W ⟨s1, ⟨s2, s3⟩, ⟨s4, s5, s6, s7⟩⟩; first | (go_simp; done) | (go_simp; with_reducible rfl)
      simp only [List.setIfInBounds_toArray, List.set_cons_zero, List.set_cons_succ]
      refine zk (v := ?_) 4 88 #[true, true, true, true, true, false, false, false, false, false, false] rfl rfl (by kernel_rfl) (by kernel_rfl) (by kernel_rfl) (by kernel_rfl) (fun _ _ _ h => h) (by kernel_rfl) (by rfl) ?hy hHeld ?_
      case hy => rintro W ⟨s1, ⟨s2, s3⟩, ⟨s4, s5, s6, s7⟩⟩; first | (go_simp; done) | (go_simp; with_reducible rfl)
      simp only [List.setIfInBounds_toArray, List.set_cons_zero, List.set_cons_succ]
      refine zk (v := ?_) 5 89 #[true, true, true, true, true, true, false, false, false, false, false] rfl rfl (by kernel_rfl) (by kernel_rfl) (by kernel_rfl) (by kernel_rfl) (fun _ _ _ h => h) (by kernel_rfl) (by rfl) ?hy hHeld ?_
      case hy => rintro W ⟨s1, ⟨s2, s3⟩, ⟨s4, s5, s6, s7⟩⟩; first | (go_simp; done) | (go_simp; with_reducible rfl)
      simp only [List.setIfInBounds_toArray, List.set_cons_zero, List.set_cons_succ]
      have hbA6 := (Below.refl D6.heap.size D6).alloc (Nat.le_refl _) (.cells #[.int .i64 av, .slice ma ml.length mc, .int .i64 st, .slice la ll.length lc] 64)
      have NGA6 := hide (blk_later NGD6.out hbA6)
      have NOA6 := hide (blk_later NOD6.out hbA6)
      have NQA6 := hide (blk_later NQD6.out hbA6)
      obtain ⟨i6, hi6, hz60, hz61, hz62⟩ := info_parts Tryz.infoC17
      obtain ⟨v6, w6, hrun6, hoth6, hft6, hch6, hVR6⟩ := HRD6.out.app 1 (by decide) (by decide) (show shp (r5 1) 64 4 x.C.length (cc x.C) from HRS5.out.s1) 47 47 i6 _ 64 Tryz.underlying47 hi6 hz60 hz61 hz62 rfl (by decide) (by decide) [.int .i64 av, .slice ma ml.length mc, .int .i64 st, .slice la ll.length lc] rfl (by intro u hu; simp at hu; rcases hu with rfl | rfl | rfl | rfl <;> rfl) (by have := HLN.out.1; have := HLN.out.2.1; have := HKK.out; omega) (.cells #[.int .i64 av, .slice ma ml.length mc, .int .i64 st, .slice la ll.length lc] 64) rfl (HRD6.out.vc.turnC (⟨av, ml, .slice ma ml.length mc, st, ll, .slice la ll.length lc⟩ : Cl) ⟨HRD6.out.fr.cr HCR.out HNF.out, HFW.out⟩ (fun b k => ⟨fun kk => HNC.out b k ((HRD6.out.inF b kk).resolve_right (fun k2 => by have := HCR.out.2.2 b k; have := k2.1; omega)), .inl (.inr k)⟩) (fun y hy => by rcases List.mem_append.1 hy with h | h; exact .inl h; exact .inr (List.mem_singleton.1 h)))
      obtain ⟨a6, c6, hv6⟩ : ∃ a c, v6 = .slice a (x.C.length + 1) c := by have h := hVR6.vv.own 1; rw [upR_same] at h; exact owns_sl h
      subst hv6
      have NGw6 := hide ((hoth6 g (HRD6.out.vv.lt (.inl rfl)) (HRD6.out.vv.ng 1)).trans NGD6.out)
      have NOw6 := hide ((hoth6 (w.heap.size) (Array.getElem?_eq_some_iff.1 NOD6.out).1 (fun e => HNO5.out (.inr ⟨1, e⟩))).trans NOD6.out)
      have NQw6 := hide ((hoth6 (w.heap.size + 1) (Array.getElem?_eq_some_iff.1 NQD6.out).1 (fun e => HNQ5.out (.inr ⟨1, e⟩))).trans NQD6.out)
      have HRUN6 := hide hrun6
      clear hi6 hz60 hz61 hz62 hrun6
      refine z_ready 6 #[true, true, true, true, true, true, true, false, false, false, false] rfl (by kernel_rfl) (by kernel_rfl) (by rfl) (fun K hK => ?_)
      go_simp
      refine hK.out _ _ (fun _ => ⟨((eight_cells NGA6.out rfl).2.1), (pair_cells NOA6.out rfl), (four_cells NQA6.out rfl)⟩) (fun hHeld => ?_)
      clear hK K
      refine z_ready 7 #[true, true, true, true, true, true, true, true, false, false, false] rfl (by kernel_rfl) (by kernel_rfl) (by rfl) (fun K hK => ?_)
      refine op_append_gen _ _ rfl _ ⟨D6.heap.size, 0, none⟩ 1 1 rfl rfl _ w6 HRUN6.out ?_
      simp only [Act.put, List.setIfInBounds_toArray]
      refine hK.out _ _ (fun _ => ⟨((eight_cells NGw6.out rfl).2.1), (pair_cells NOw6.out rfl), (four_cells NQw6.out rfl)⟩) (fun hHeld => ?_)
      clear hK K
      refine z_ready 8 #[true, true, true, true, true, true, true, true, true, false, false] rfl (by kernel_rfl) (by kernel_rfl) (by rfl) (fun K hK => ?_)
      go_simp
      refine hK.out _ _ (fun _ => ⟨((eight_cells NGw6.out rfl).2.1), (pair_cells NOw6.out rfl), (four_cells NQw6.out rfl)⟩) (fun hHeld => ?_)
      clear hK K
      refine z_ready 9 #[true, true, true, true, true, true, true, true, true, true, false] rfl (by kernel_rfl) (by kernel_rfl) (by rfl) (fun K hK => ?_)
      go_simp
      refine hK.out _ _ (fun _ => ⟨((eight_cells NGw6.out rfl).2.1), (pair_cells NOw6.out rfl), (four_cells NQw6.out rfl)⟩) (fun hHeld => ?_)
      clear hK K
      have hfz6 := nofz NGw6.out 1
      have hcx6 := (eight_cells NGw6.out rfl).2.1
      obtain ⟨W6, hW6⟩ : ∃ xw, World.setCell w6 ⟨g, 1, none⟩ (.slice a6 (x.C.length + 1) c6) = xw := ⟨_, rfl⟩
      rw [hW6] at hft6 hVR6
      obtain ⟨r6, hr6⟩ : ∃ xr, upR r5 1 ⟨64, 4, .slice a6 (x.C.length + 1) c6, x.C.length + 1, cc x.C ++ [.int .i64 av, .slice ma ml.length mc, .int .i64 st, .slice la ll.length lc]⟩ = xr := ⟨_, rfl⟩
      rw [hr6] at hch6 hVR6
      have HV6 := hide hVR6
      have HF6 := hide hft6
      have HC6 := hide hch6
      have HUP6 := hide hr6
      have NO6 := hide ((hft6.block (w.heap.size) (Array.getElem?_eq_some_iff.1 NOD6.out).1 (HNO5.out)).trans NOD6.out)
      have NQ6 := hide ((hft6.block (w.heap.size + 1) (Array.getElem?_eq_some_iff.1 NQD6.out).1 (HNQ5.out)).trans NQD6.out)
      have HS6 : Hid (W5.heap.size ≤ W6.heap.size) := hide (Nat.le_trans HSZD6W5.out hft6.size)
      have HX6 := HSZD6W5
      clear hr6 hVR6 hft6 hch6 hoth6 hbA6
      refine z_ready 10 #[true, true, true, true, true, true, true, true, true, true, true] rfl (by kernel_rfl) (by kernel_rfl) (by rfl) (fun K hK => ?_)
      go_simp
      refine hK.out _ _ (fun h => absurd rfl h) (fun _ => ?_)
      clear hK K
      refine z_done (by kernel_rfl) ?_ _
      clear hW6 hfz6 hcx6 HRUN6 NGw6 NGA6 NGD6 HRD6 NOw6 NOA6 NOD6 NQw6 NQA6 NQD6
      try clear hHeld

      have HRS6 : Hid (RS { vgx x (q0, q1) with n := x.n + 1, M := x.M ++ [.slice ma ml.length mc], G := x.G ++ [.slice la ll.length lc], K := x.K ++ [(q0, q1)], C := x.C ++ [(⟨av, ml, .slice ma ml.length mc, st, ll, .slice la ll.length lc⟩ : Cl)] } TL WL r6) := hide (by rw [← HUP6.out]; exact HRS5.out.pC (⟨av, ml, .slice ma ml.length mc, st, ll, .slice la ll.length lc⟩ : Cl) _)
      go_wp2_with fail
      go_end0
      refine ⟨rfl, ?_, HV6.out.fr⟩
      have hpx : vpx x (q0, q1) (⟨av, ml, .slice ma ml.length mc, st, ll, .slice la ll.length lc⟩ : Cl) = { x with A := x.A ++ [(q0, q1)], n := x.n + 1, M := x.M ++ [.slice ma ml.length mc], G := x.G ++ [.slice la ll.length lc], K := x.K ++ [(q0, q1)], C := x.C ++ [(⟨av, ml, .slice ma ml.length mc, st, ll, .slice la ll.length lc⟩ : Cl)], k := x.k + 1 } := by
        unfold vpx
        rw [HIX.out, if_neg (Nat.lt_irrefl _)]
      rw [hpx]
      exact ⟨_, TL, WL, HV6.out.ended _ (fun b k => by
          rcases k with (k | k) | k
          · exact .inl (.inl k)
          · exact .inr k
          · exact .inl (.inr k)) (fun b k => by
          rcases k with k | k
          · rcases k with k | k
            · exact HV6.out.lo (.inl (.inl k))
            · exact k.2
          · exact HV6.out.lo (.inl (.inr k))), HRS6.out, HWT.out, by
        have h := HLN.out
        unfold LNx at *
        simp only [List.length_append, List.length_cons, List.length_nil]
        omega⟩
end Go.Proofs.YtdjhbecbbmdimaaGreatDoor
