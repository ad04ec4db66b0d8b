/-
  My own text: VW7, VW8, VW9 in one.
-/
import Derived.Test.YtdjhbecbbmdimaaGreatDoorVW6
import Derived.Test.YtdjhbecbbmdimaaGreatDoorVS20
namespace Go.Proofs.YtdjhbecbbmdimaaGreatDoor
open Go.RowKit

theorem vbk_few {g : Nat} {w : World} {F H : Nat → Prop} {x : VX} (h : VSt g w F H x) (k : Ky) : (vbk x k).ml.length ≤ 1000000 ∧ (vbk x k).ll.length ≤ 1000000 := by
  obtain ⟨r, TL, WL, hr, _⟩ := h
  unfold vbk
  cases hc : x.C[ix x.K k]? with
  | none => exact ⟨by decide, by decide⟩
  | some c => exact (hr.vc.cl c (List.mem_of_getElem? hc)).2
theorem vpx_k (x : VX) (q : Ky) (c : Cl) : (vpx x q c).k = x.k + 1 := by unfold vpx; split <;> rfl
set_option maxRecDepth 100000 in
/-- The law's view. -/
def vwI (g : Nat) : VI VX where
  T := 46
  p := .pointer (some ⟨g, 0, none⟩)
  fg := 149
  fp := 150
  V := VSt g
  bk := vbk
  gx := vgx
  px := vpx
  mG := fun w => by kernel_rfl
  nG := fun w => by kernel_rfl
  mP := fun w => by kernel_rfl
  eG := fun args w => by kernel_rfl
  eP := fun args w => by kernel_rfl
  sub := fun h => by obtain ⟨r, TL, WL, hr, _⟩ := h; exact hr.sub
  low := fun h => by obtain ⟨r, TL, WL, hr, _⟩ := h; exact hr.low
  keep := fun h hs hb => h.keep hs hb
  few := fun h k => vbk_few h k
  bkG := fun x k => rfl
  rm := fun x => 4000000 - x.k
  rmG := fun x k => by show 4000000 - x.k ≤ 4000000 - (x.k + 1) + 1; omega
  rmP := fun x k c => by rw [vpx_k]; omega
  get := fun {w F H x} k h hr => vget_any g w F H x k.1 k.2 h (by omega)
  put := fun {w F H x} k c h hc hn hr hm hl => vput_any g w F H x k.1 k.2 c h hc hn (by omega) hm hl
end Go.Proofs.YtdjhbecbbmdimaaGreatDoor
namespace Go.Proofs.YtdjhbecbbmdimaaGreatDoor
open Go.RowKit

set_option maxRecDepth 100000 in
set_option maxHeartbeats 8000000 in
theorem vcell_any (g : Nat) (w : World) (F H : Nat → Prop) (x : VX) (q0 q1 : Int) (hV : VSt g w F H x) (hk : x.k < 4000001) :
    Calls Tryz.prog 25 #[.pointer (some ⟨g, 0, none⟩), .agg #[.int .i64 q0, .int .i64 q1]] w fun e w' => ∃ mv lv, e = .returned (.agg #[.int .i64 (vbk x (q0, q1)).av, mv, .int .i64 (vbk x (q0, q1)).st, lv]) ∧ BL.RM w' mv (vbk x (q0, q1)).ml ∧ LG.RM w' lv (vbk x (q0, q1)).ll ∧ Below w.heap.size w w' := by
  obtain ⟨r, TL, WL, hr, hRS, hWT, hLN⟩ := hV
  have HKK := hide hk
  have HRS := hide hRS
  have HLN := hide hLN
  have HV := hide hr
  have hB0 := two_below w (.cells #[.int .i64 q0, .int .i64 q1] 39) (.cells #[.int .i64 0, .slice none 0 0, .int .i64 0, .slice none 0 0] 64)
  have hN0 := two_new w (.cells #[.int .i64 q0, .int .i64 q1] 39) (.cells #[.int .i64 0, .slice none 0 0, .int .i64 0, .slice none 0 0] 64)
  obtain ⟨ka, kc, hk0⟩ : ∃ a c, (r 0).v = .slice a x.K.length c := by have h := hr.vv.own 0; rw [hRS.s0.2.2.1] at h; exact owns_sl h
  obtain ⟨ca, cp, hk1⟩ : ∃ a c, (r 1).v = .slice a x.C.length c := by have h := hr.vv.own 1; rw [hRS.s1.2.2.1] at h; exact owns_sl h
  have hng := hr.vv.blk
  rw [hk0, hk1] at hng
  have NG := hide hng
  have HKR : Hid (KY.RM w (.slice ka x.K.length kc) x.K) := hide (KY.OM.rm (B := 0) (by
    have h := hr.vv.own 0
    obtain ⟨s1, s2, s3, s4⟩ := hRS.s0
    rw [s1, s2, s3, s4, hk0] at h
    exact h))
  have HCO : Hid (w.ownsRow 0 64 4 (.slice ca x.C.length cp) x.C.length (cc x.C)) := hide (by
    have h := hr.vv.own 1
    obtain ⟨s1, s2, s3, s4⟩ := hRS.s1
    rw [s1, s2, s3, s4, hk1] at h
    exact h)
  have B0 := hide hB0
  have NO0 := hide hN0.1
  have NR0 := hide hN0.2
  clear hk hRS hWT hLN hr hB0 hN0 hng hk0 hk1
  go_enter Tryz.func25, Tryz.ntmps25
  go_wp2_with fail
  generalize (w.alloc (.cells #[.int .i64 q0, .int .i64 q1] 39)).alloc (.cells #[.int .i64 0, .slice none 0 0, .int .i64 0, .slice none 0 0] 64) = V0 at B0 NO0 NR0 ⊢
  go_loopw [5] (fun i wr => ∃ j : Nat, j ≤ x.K.length ∧ i = .int .i64 (j : Int) ∧ Hid (∀ m, m < j → x.K[m]? ≠ some (q0, q1)) ∧ Hid (wr.heap[w.heap.size]? = some (.cells #[.int .i64 q0, .int .i64 q1] 39 (0, 0)) ∧ wr.heap[w.heap.size + 1]? = some (.cells #[.int .i64 0, .slice none 0 0, .int .i64 0, .slice none 0 0] 64 (0, 0))) ∧ Hid (Below w.heap.size w wr)) (fun i _ => x.K.length - (intOf i).toNat)
  case atStart => exact ⟨0, Nat.zero_le _, rfl, hide (fun m hm => by omega), hide ⟨NO0.out, NR0.out⟩, B0⟩
  case round =>
    clear B0 NO0 NR0
    obtain ⟨j, hj, rfl, HNF, NN, HB⟩ := hrel
    have NGr := hide (blk_later NG.out HB.out)
    obtain ⟨y0, y1, y2, y3, y4, y5, y6, y7⟩ := eight_cells NGr.out rfl
    obtain ⟨x0, x1⟩ := pair_cells NN.out.1 rfl
    by_cases hlt : j < x.K.length
    · obtain ⟨⟨k0, k1⟩, hx⟩ : ∃ p, x.K[j]? = some p := ⟨_, List.getElem?_eq_getElem hlt⟩
      obtain ⟨_, _, he0, _, hkr⟩ := HKR.out
      cases he0
      obtain ⟨kb, ko, rfl, hkl, hkc⟩ := hkr.resolve_left (fun h => by rw [h] at hlt; simp at hlt)
      have z0 : wr.cell? ⟨kb, ko + j * 2, none⟩ = some (.int .i64 k0) := (HB.out.cell (p := ⟨kb, _, none⟩) hkl).trans (hkc j _ hx).1
      have z1 : wr.cell? ⟨kb, ko + j * 2 + 1, none⟩ = some (.int .i64 k1) := (HB.out.cell (p := ⟨kb, _, none⟩) hkl).trans (hkc j _ hx).2
      have z1' : wr.cell? ⟨kb, ko + (j * 2 + 1), none⟩ = some (.int .i64 k1) := z1
      have hd : decide ((j : Int) < (x.K.length : Int)) = true := by rw [decide_eq_true_eq]; omega
      have k0' : (0 : Int) ≤ (j : Int) := by omega
      have k1' : (j : Int) < (x.K.length : Int) := by omega
      have wk : wrap64 ((j : Int) + 1) = (j : Int) + 1 := by have := HLN.out.2.1; have := HKK.out; unfold wrap64; omega
      have HX := hide hx
      have HJ := hide hlt
      have ev := KY.eqMk k0 k1 q0 q1
      clear hkc hx hkr hlt
      cases hE : (k0 == q0 && k1 == q1) with
      | false =>
        rw [hE] at ev
        have HNE : Hid (¬ (k0, k1) = (q0, q1)) := hide (fun e => by
          rw [Prod.mk.injEq] at e
          rw [e.1, e.2] at hE
          simp at hE)
        clear hE
        go_wp2_with fail
        go_quiet (fail)
        have HB2 := hide (below_dN HB.out nq)
        have NN2 : Hid ((wr.drewN nq).heap[w.heap.size]? = some (.cells #[.int .i64 q0, .int .i64 q1] 39 (0, 0)) ∧ (wr.drewN nq).heap[w.heap.size + 1]? = some (.cells #[.int .i64 0, .slice none 0 0, .int .i64 0, .slice none 0 0] 64 (0, 0))) := hide NN.out
        go_wp2_with fail
        go_roundw
        case rel => exact ⟨j + 1, by have := HJ.out; omega, by go_num, hide (fun m hm => by
          by_cases e : m = j
          · subst e; rw [HX.out]; intro k; exact HNE.out (Option.some.inj k)
          · exact HNF.out m (by omega)), NN2, HB2⟩
        case measure => have := HJ.out; first | (rw [wk]; simp [intOf]; omega) | (simp [intOf]; omega)
      | true =>
        rw [hE] at ev
        have HIX : Hid (ix x.K (q0, q1) = j) := hide (ix_at HNF.out (by
          simp only [Bool.and_eq_true, beq_iff_eq] at hE
          rw [HX.out, hE.1, hE.2]))
        clear hE
        obtain ⟨c, hc⟩ : ∃ c, x.C[j]? = some c := ⟨_, List.getElem?_eq_getElem (by rw [HLN.out.1]; exact HJ.out)⟩
        have HBK : Hid (vbk x (q0, q1) = c.cx) := hide (by unfold vbk; rw [HIX.out, hc]; rfl)
        obtain ⟨cav, cml, cmv, cst, cll, clv⟩ := c
        have hcr := HV.out.vc.cl _ (List.mem_of_getElem? hc)
        obtain ⟨ma, mc, hmv⟩ := BL.rm_lt hcr.1.1
        simp only at hmv
        subst hmv
        obtain ⟨la, lc, hlv⟩ := LG.rm_lt hcr.1.2.1
        simp only at hlv
        subst hlv
        have HCC := hide hc
        have HCRc := hide hcr
        clear hc hcr
        go_wp2_with fail
        go_quiet (fail)
        have hbx := below_dN HB.out nq
        obtain ⟨X0, hX0⟩ : ∃ xw, World.drewN wr nq = xw := ⟨_, rfl⟩
        have hnn : X0.heap[w.heap.size]? = some (.cells #[.int .i64 q0, .int .i64 q1] 39 (0, 0)) ∧ X0.heap[w.heap.size + 1]? = some (.cells #[.int .i64 0, .slice none 0 0, .int .i64 0, .slice none 0 0] 64 (0, 0)) := by rw [← hX0]; exact NN.out
        rw [hX0] at hbx ⊢
        have HBx := hide hbx
        have NRx := hnn.2
        clear hX0 hbx NGr y0 y1 y2 y3 y4 y5 y6 y7 x0 x1 z0 z1 z1' HB ev NN
        have NGx := hide (blk_later NG.out HBx.out)
        obtain ⟨y0, y1, y2, y3, y4, y5, y6, y7⟩ := eight_cells NGx.out rfl
        obtain ⟨cb, hca⟩ : ∃ cb, ca = some ⟨cb, 0, none⟩ := by
          rcases HCO.out.2 with ⟨_, h0⟩ | ⟨cb, cap, cur, hv, _⟩
          · have := HLN.out.1; have := HJ.out; omega
          · injection hv with e1 e2 e3; exact ⟨cb, e1⟩
        subst hca
        have hcl : cb < w.heap.size := (World.ownsRow.lt HCO.out cb rfl).2
        have hC4 : ∀ i, i < 4 → w.cell? ⟨cb, j * 4 + i, none⟩ = (Cl.vs ⟨cav, cml, .slice ma cml.length mc, cst, cll, .slice la cll.length lc⟩)[i]? := fun i hi => by
          rw [World.ownsRow.cellAt HCO.out (j * 4 + i) (by have := HLN.out.1; have := HJ.out; omega)]
          exact cc_at HCC.out hi
        have z0 : X0.cell? ⟨cb, j * 4, none⟩ = some (.int .i64 cav) := (HBx.out.cell (p := ⟨cb, _, none⟩) hcl).trans (hC4 0 (by decide))
        have z1 : X0.cell? ⟨cb, j * 4 + 1, none⟩ = some (.slice ma cml.length mc) := (HBx.out.cell (p := ⟨cb, _, none⟩) hcl).trans (hC4 1 (by decide))
        have z2 : X0.cell? ⟨cb, j * 4 + 2, none⟩ = some (.int .i64 cst) := (HBx.out.cell (p := ⟨cb, _, none⟩) hcl).trans (hC4 2 (by decide))
        have z3 : X0.cell? ⟨cb, j * 4 + 3, none⟩ = some (.slice la cll.length lc) := (HBx.out.cell (p := ⟨cb, _, none⟩) hcl).trans (hC4 3 (by decide))
        have k2' : (j : Int) < (x.C.length : Int) := by have := HLN.out.1; omega
        clear hcl hC4
        obtain ⟨U0, hU0⟩ : ∃ x, World.setCell X0 ⟨w.heap.size + 1, 0, none⟩ (.int .i64 cav) = x := ⟨_, rfl⟩
        have MU0 := setB NRx 0 (.int .i64 cav) rfl
        have EU0 : ∀ b, b ≠ w.heap.size + 1 → (World.setCell X0 ⟨w.heap.size + 1, 0, none⟩ (.int .i64 cav)).heap[b]? = X0.heap[b]? := fun b hb => Below.heap_setCell X0 ⟨w.heap.size + 1, 0, none⟩ (.int .i64 cav) b hb
        have BU0 := (Below.refl (w.heap.size + 1) X0).setCell (p := ⟨w.heap.size + 1, 0, none⟩) (Nat.le_refl _) (.int .i64 cav)
        have fU0 := nofz NRx 0
        have cU0 := four_cells NRx rfl
        rw [hU0] at MU0 EU0 BU0
        obtain ⟨U1, hU1⟩ : ∃ x, World.setCell U0 ⟨w.heap.size + 1, 1, none⟩ (.slice ma cml.length mc) = x := ⟨_, rfl⟩
        have MU1 := setB MU0 1 (.slice ma cml.length mc) rfl
        have EU1 : ∀ b, b ≠ w.heap.size + 1 → (World.setCell U0 ⟨w.heap.size + 1, 1, none⟩ (.slice ma cml.length mc)).heap[b]? = U0.heap[b]? := fun b hb => Below.heap_setCell U0 ⟨w.heap.size + 1, 1, none⟩ (.slice ma cml.length mc) b hb
        have BU1 := (Below.refl (w.heap.size + 1) U0).setCell (p := ⟨w.heap.size + 1, 1, none⟩) (Nat.le_refl _) (.slice ma cml.length mc)
        have fU1 := nofz MU0 1
        have cU1 := four_cells MU0 rfl
        rw [hU1] at MU1 EU1 BU1
        obtain ⟨U2, hU2⟩ : ∃ x, World.setCell U1 ⟨w.heap.size + 1, 2, none⟩ (.int .i64 cst) = x := ⟨_, rfl⟩
        have MU2 := setB MU1 2 (.int .i64 cst) rfl
        have EU2 : ∀ b, b ≠ w.heap.size + 1 → (World.setCell U1 ⟨w.heap.size + 1, 2, none⟩ (.int .i64 cst)).heap[b]? = U1.heap[b]? := fun b hb => Below.heap_setCell U1 ⟨w.heap.size + 1, 2, none⟩ (.int .i64 cst) b hb
        have BU2 := (Below.refl (w.heap.size + 1) U1).setCell (p := ⟨w.heap.size + 1, 2, none⟩) (Nat.le_refl _) (.int .i64 cst)
        have fU2 := nofz MU1 2
        have cU2 := four_cells MU1 rfl
        rw [hU2] at MU2 EU2 BU2
        obtain ⟨U3, hU3⟩ : ∃ x, World.setCell U2 ⟨w.heap.size + 1, 3, none⟩ (.slice la cll.length lc) = x := ⟨_, rfl⟩
        have MU3 := setB MU2 3 (.slice la cll.length lc) rfl
        have EU3 : ∀ b, b ≠ w.heap.size + 1 → (World.setCell U2 ⟨w.heap.size + 1, 3, none⟩ (.slice la cll.length lc)).heap[b]? = U2.heap[b]? := fun b hb => Below.heap_setCell U2 ⟨w.heap.size + 1, 3, none⟩ (.slice la cll.length lc) b hb
        have BU3 := (Below.refl (w.heap.size + 1) U2).setCell (p := ⟨w.heap.size + 1, 3, none⟩) (Nat.le_refl _) (.slice la cll.length lc)
        have fU3 := nofz MU2 3
        have cU3 := four_cells MU2 rfl
        rw [hU3] at MU3 EU3 BU3
        have cU4 := four_cells MU3 rfl
        have HEU : Hid (∀ b, b ≠ w.heap.size + 1 → U3.heap[b]? = X0.heap[b]?) := hide (fun b hb => (EU3 b hb).trans ((EU2 b hb).trans ((EU1 b hb).trans ((EU0 b hb)))))
        have HMU := hide MU3
        have HBU := hide ((((BU0).trans BU1).trans BU2).trans BU3)
        clear MU0 EU0 BU0 MU1 EU1 BU1 MU2 EU2 BU2 MU3 EU3 BU3
        obtain ⟨cU00, cU01, cU02, cU03⟩ := cU0
        obtain ⟨cU10, cU11, cU12, cU13⟩ := cU1
        obtain ⟨cU20, cU21, cU22, cU23⟩ := cU2
        obtain ⟨cU30, cU31, cU32, cU33⟩ := cU3
        obtain ⟨cU40, cU41, cU42, cU43⟩ := cU4
        clear NRx hnn
        have HBW := hide (HBx.out.trans (HBU.out.mono (Nat.le_succ _)))
        go_wp2_with fail
        refine bodyPost_ret (v := .agg #[.int .i64 cav, .slice ma cml.length mc, .int .i64 cst, .slice la cll.length lc]) (by simp [results, Tryz.results25, go_sem, cU40, cU41, cU42, cU43]) rfl ?_
        rw [HBK.out]
        exact ⟨_, _, rfl, BL.RM.later HCRc.out.1.1 HBW.out, HCRc.out.1.2.1.later HBW.out, HBW.out⟩
    · have hj' : j = x.K.length := by omega
      subst hj'
      have HBK : Hid (vbk x (q0, q1) = cxZ) := hide (by unfold vbk; rw [ix_no HNF.out, ← HLN.out.1, List.getElem?_eq_none (Nat.le_refl _)]; rfl)
      have NRq := NN.out.2
      obtain ⟨U0, hU0⟩ : ∃ x, World.setCell wr ⟨w.heap.size + 1, 0, none⟩ (.int .i64 0) = x := ⟨_, rfl⟩
      have MU0 := setB NRq 0 (.int .i64 0) rfl
      have EU0 : ∀ b, b ≠ w.heap.size + 1 → (World.setCell wr ⟨w.heap.size + 1, 0, none⟩ (.int .i64 0)).heap[b]? = wr.heap[b]? := fun b hb => Below.heap_setCell wr ⟨w.heap.size + 1, 0, none⟩ (.int .i64 0) b hb
      have BU0 := (Below.refl (w.heap.size + 1) wr).setCell (p := ⟨w.heap.size + 1, 0, none⟩) (Nat.le_refl _) (.int .i64 0)
      have fU0 := nofz NRq 0
      have cU0 := four_cells NRq rfl
      rw [hU0] at MU0 EU0 BU0
      obtain ⟨U1, hU1⟩ : ∃ x, World.setCell U0 ⟨w.heap.size + 1, 1, none⟩ (.slice none 0 0) = x := ⟨_, rfl⟩
      have MU1 := setB MU0 1 (.slice none 0 0) rfl
      have EU1 : ∀ b, b ≠ w.heap.size + 1 → (World.setCell U0 ⟨w.heap.size + 1, 1, none⟩ (.slice none 0 0)).heap[b]? = U0.heap[b]? := fun b hb => Below.heap_setCell U0 ⟨w.heap.size + 1, 1, none⟩ (.slice none 0 0) b hb
      have BU1 := (Below.refl (w.heap.size + 1) U0).setCell (p := ⟨w.heap.size + 1, 1, none⟩) (Nat.le_refl _) (.slice none 0 0)
      have fU1 := nofz MU0 1
      have cU1 := four_cells MU0 rfl
      rw [hU1] at MU1 EU1 BU1
      obtain ⟨U2, hU2⟩ : ∃ x, World.setCell U1 ⟨w.heap.size + 1, 2, none⟩ (.int .i64 0) = x := ⟨_, rfl⟩
      have MU2 := setB MU1 2 (.int .i64 0) rfl
      have EU2 : ∀ b, b ≠ w.heap.size + 1 → (World.setCell U1 ⟨w.heap.size + 1, 2, none⟩ (.int .i64 0)).heap[b]? = U1.heap[b]? := fun b hb => Below.heap_setCell U1 ⟨w.heap.size + 1, 2, none⟩ (.int .i64 0) b hb
      have BU2 := (Below.refl (w.heap.size + 1) U1).setCell (p := ⟨w.heap.size + 1, 2, none⟩) (Nat.le_refl _) (.int .i64 0)
      have fU2 := nofz MU1 2
      have cU2 := four_cells MU1 rfl
      rw [hU2] at MU2 EU2 BU2
      obtain ⟨U3, hU3⟩ : ∃ x, World.setCell U2 ⟨w.heap.size + 1, 3, none⟩ (.slice none 0 0) = x := ⟨_, rfl⟩
      have MU3 := setB MU2 3 (.slice none 0 0) rfl
      have EU3 : ∀ b, b ≠ w.heap.size + 1 → (World.setCell U2 ⟨w.heap.size + 1, 3, none⟩ (.slice none 0 0)).heap[b]? = U2.heap[b]? := fun b hb => Below.heap_setCell U2 ⟨w.heap.size + 1, 3, none⟩ (.slice none 0 0) b hb
      have BU3 := (Below.refl (w.heap.size + 1) U2).setCell (p := ⟨w.heap.size + 1, 3, none⟩) (Nat.le_refl _) (.slice none 0 0)
      have fU3 := nofz MU2 3
      have cU3 := four_cells MU2 rfl
      rw [hU3] at MU3 EU3 BU3
      have cU4 := four_cells MU3 rfl
      have HEU : Hid (∀ b, b ≠ w.heap.size + 1 → U3.heap[b]? = wr.heap[b]?) := hide (fun b hb => (EU3 b hb).trans ((EU2 b hb).trans ((EU1 b hb).trans ((EU0 b hb)))))
      have HMU := hide MU3
      have HBU := hide ((((BU0).trans BU1).trans BU2).trans BU3)
      clear MU0 EU0 BU0 MU1 EU1 BU1 MU2 EU2 BU2 MU3 EU3 BU3
      obtain ⟨cU00, cU01, cU02, cU03⟩ := cU0
      obtain ⟨cU10, cU11, cU12, cU13⟩ := cU1
      obtain ⟨cU20, cU21, cU22, cU23⟩ := cU2
      obtain ⟨cU30, cU31, cU32, cU33⟩ := cU3
      obtain ⟨cU40, cU41, cU42, cU43⟩ := cU4
      clear NRq
      have HBW := hide (HB.out.trans (HBU.out.mono (Nat.le_succ _)))
      go_wp2_with fail
      refine bodyPost_ret (v := .agg #[.int .i64 0, .slice none 0 0, .int .i64 0, .slice none 0 0]) (by simp [results, Tryz.results25, go_sem, cU40, cU41, cU42, cU43]) rfl ?_
      rw [HBK.out]
      exact ⟨_, _, rfl, ⟨none, 0, rfl, Nat.le_refl _, .inl rfl⟩, LG.RM.nil _, HBW.out⟩
/-- The rows of an empty view. -/
def rowZ : Nat → Rw
  | 0 => ⟨39, 2, .slice none 0 0, 0, []⟩
  | 1 => ⟨64, 4, .slice none 0 0, 0, []⟩
  | 2 => ⟨64, 4, .slice none 0 0, 0, []⟩
  | 3 => ⟨64, 4, .slice none 0 0, 0, []⟩
  | 4 => ⟨39, 2, .slice none 0 0, 0, []⟩
  | 6 => ⟨58, 1, .slice none 0 0, 0, []⟩
  | 7 => ⟨22, 1, .slice none 0 0, 0, []⟩
  | _ => rwZ
theorem rowZ_v (i : Nat) : (rowZ i).v = .slice none 0 0 ∧ (rowZ i).n = 0 ∧ (rowZ i).xs = [] := by
  unfold rowZ
  split <;> exact ⟨rfl, rfl, rfl⟩
def vxZ : VX := ⟨[], [], [], 0, [], [], 0⟩
theorem vst_new (w : World) (g : Nat) (hg : w.heap[g]? = some (.cells #[.slice none 0 0, .slice none 0 0, .slice none 0 0, .slice none 0 0, .slice none 0 0, .int .i64 0, .slice none 0 0, .slice none 0 0] 51 (0, 0))) : VSt g w (fun b => b = g) (fun b => b = g) vxZ := by
  have hlt := (Array.getElem?_eq_some_iff.1 hg).1
  have hc : ∀ b, Chg g rowZ b → b = g := fun b k => by
    rcases k with k | ⟨i, k⟩
    · exact k
    · rw [(rowZ_v i).1] at k; cases k
  refine ⟨rowZ, [], [], ⟨⟨hg, fun i => ?_, fun i j _ b hb => ?_, fun i => ?_⟩, ⟨fun c hc => (by cases hc), fun i t u ht _ => (by simp at ht), fun c hc => (by rcases hc with h | h | h <;> cases h)⟩, fun b k => .inl (hc b k), fun b k => k, fun b k => by rw [k]; exact hlt, FrB.refl _ _⟩, ⟨⟨rfl, rfl, rfl, rfl⟩, ⟨rfl, rfl, rfl, rfl⟩, ⟨rfl, rfl, rfl, rfl⟩, ⟨rfl, rfl, rfl, rfl⟩, ⟨rfl, rfl, rfl, rfl⟩, ⟨rfl, rfl, rfl, rfl⟩, ⟨rfl, rfl, rfl, rfl⟩⟩, rfl, ?_⟩
  · rw [(rowZ_v i).1, (rowZ_v i).2.1, (rowZ_v i).2.2]
    exact World.ownsRow_nil _ _ _ _
  · rw [(rowZ_v i).1] at hb; cases hb
  · rw [(rowZ_v i).1]; intro k; cases k
  · unfold LNx vxZ
    simp
theorem ix_le : ∀ (K : List Ky) (q : Ky), ix K q ≤ K.length
  | [], _ => Nat.le_refl _
  | a :: t, q => by
    rw [ix]
    have := ix_le t q
    split
    · simp
    · simp; omega
theorem ix_get : ∀ {K : List Ky} {q : Ky}, ix K q < K.length → K[ix K q]? = some q
  | [], _, h => by simp [ix] at h
  | a :: t, q, h => by
    rw [ix] at h ⊢
    split at h
    · next e => rw [if_pos e, e]; rfl
    · next e =>
      rw [if_neg e]
      have h2 : ix t q < t.length := by simp at h; omega
      simpa using ix_get h2
theorem ix_app : ∀ (K : List Ky) (a q : Ky), ix (K ++ [a]) q = if ix K q < K.length then ix K q else if a = q then K.length else K.length + 1
  | [], a, q => by
    show ix [a] q = _
    rw [ix, ix, ix]
    simp
  | k :: t, a, q => by
    have ih := ix_app t a q
    show ix (k :: (t ++ [a])) q = _
    rw [ix, ix]
    by_cases e : k = q
    · rw [if_pos e, if_pos e, if_pos (by simp)]
    · rw [if_neg e, if_neg e, ih]
      by_cases h : ix t q < t.length
      · have h2 : ix t q + 1 < (k :: t).length := by simp; exact h
        rw [if_pos h, if_pos h2]
      · have h2 : ¬ ix t q + 1 < (k :: t).length := by simp; omega
        rw [if_neg h, if_neg h2]
        by_cases e2 : a = q
        · rw [if_pos e2, if_pos e2]; rfl
        · rw [if_neg e2, if_neg e2]; rfl
theorem vbk_px (x : VX) (hx : x.C.length = x.K.length) (q : Ky) (c : Cl) (k : Ky) : vbk (vpx x q c) k = if k = q then c.cx else vbk x k := by
  unfold vpx
  by_cases h : ix x.K q < x.K.length
  · rw [if_pos h]
    show ((((x.C.set (ix x.K q) c)[ix x.K k]?).map Cl.cx).getD cxZ) = _
    by_cases e : k = q
    · rw [if_pos e, e, List.getElem?_set_self (by omega)]
      rfl
    · rw [if_neg e, List.getElem?_set_ne (fun e2 => e ?_)]
      · rfl
      · have h2 := ix_get h
        have h3 := ix_get (K := x.K) (q := k) (by omega)
        rw [← e2, h2] at h3
        exact (Option.some.inj h3).symm
  · rw [if_neg h]
    show ((((x.C ++ [c])[ix (x.K ++ [q]) k]?).map Cl.cx).getD cxZ) = _
    rw [ix_app]
    by_cases e : k = q
    · rw [if_pos e, e, if_neg h, if_pos rfl, ← hx, List.getElem?_append_right (Nat.le_refl _), Nat.sub_self]
      rfl
    · rw [if_neg e]
      by_cases h2 : ix x.K k < x.K.length
      · rw [if_pos h2, List.getElem?_append_left (by omega)]
        rfl
      · rw [if_neg h2, if_neg (fun e2 => e e2.symm)]
        unfold vbk
        rw [List.getElem?_eq_none (by simp; omega), List.getElem?_eq_none (by omega)]
theorem vpx_len (x : VX) (hx : x.C.length = x.K.length) (q : Ky) (c : Cl) : (vpx x q c).C.length = (vpx x q c).K.length := by
  unfold vpx
  split
  · show (x.C.set _ c).length = x.K.length
    rw [List.length_set]; exact hx
  · show (x.C ++ [c]).length = (x.K ++ [q]).length
    simp [hx]
theorem gxs_len (g : Nat) (x : VX) (L : List Ky) : (gxs (vwI g) x L).C = x.C ∧ (gxs (vwI g) x L).K = x.K := by
  induction L generalizing x with
  | nil => exact ⟨rfl, rfl⟩
  | cons k r ih => exact ih (vgx x k)
theorem pxs_one (g : Nat) : ∀ (E : List En) (x : VX) (k : Ky) (T : CX), x.C.length = x.K.length → vbk x k = T → (∀ e ∈ E, e.k = k → e.now.cx = T) → vbk (pxs (vwI g) x E) k = T ∧ (pxs (vwI g) x E).C.length = (pxs (vwI g) x E).K.length
  | [], x, k, T, hx, h0, _ => ⟨h0, hx⟩
  | e :: r, x, k, T, hx, h0, h => by
    show vbk (pxs (vwI g) (if ptd e then vpx x e.k e.now else x) r) k = T ∧ _
    refine pxs_one g r _ k T ?_ ?_ (fun a ha => h a (List.mem_cons_of_mem _ ha))
    · split
      · exact vpx_len x hx _ _
      · exact hx
    · split
      · rw [vbk_px x hx]
        split
        · next e2 => exact h e List.mem_cons_self e2.symm
        · exact h0
      · exact h0
end Go.Proofs.YtdjhbecbbmdimaaGreatDoor
namespace Go.Proofs.YtdjhbecbbmdimaaGreatDoor
open Go.RowKit

theorem bg5 : BL.creditO 0 [] 5 = .ok 5 [] := by rfl
theorem db6 : BL.debitO 5 [] 6 0 = BL.eno 18 := by rfl
theorem chk1 : chk 65536 65536 ⟨1, 0, 0, 5, 0, 0, [], []⟩ = 0 := by decide
theorem chk5 : chk 65536 65536 ⟨5, 0, 0, 0, 0, 3, [(0, 1, 0, 6, 0)], []⟩ = 0 := by decide
theorem do1 (S : Ky → CX) (h : S (0, 0) = cxZ) (room : Bool) : doO S 1 0 0 5 0 0 [] room = .ok 0 (updX S (0, 0) ⟨5, [], 0, []⟩) := by
  unfold doO
  rw [if_neg (by decide), if_neg (by decide), if_neg (by decide), h]
  show (match tuO 1 5 0 0 [] with | .ok a M => DO.ok 0 (updX S (0, 0) { cxZ with av := a, ml := M }) | .no t x => .no t x) = _
  have : tuO 1 5 0 0 [] = .ok 5 [] := by unfold tuO; rw [if_pos rfl, bg5]; rfl
  rw [this]
  rfl
theorem do5 (S : Ky → CX) (h : S (0, 0) = ⟨5, [], 0, []⟩) (h2 : S (-1, 3) = cxZ) : doO S 5 0 0 0 0 3 [(0, 1, 0, 6, 0)] true = .ok 1 (updX S (-1, 3) ⟨0, [], 1, [(0, 1, 0, 6, 0)]⟩) := by
  unfold doO
  rw [if_pos rfl]
  unfold sbO
  rw [show rK 3 = (-1, 3) from rfl, h2, if_pos rfl]
  have hm : mvs (psX S) [(0, 1, 0, 6, 0)] = .no 197 (.agg #[.string ⟨([100, 101, 98, 105, 116] : List UInt8).toArray⟩, .iface 52 (.int .i64 18)]) := by
    have hp : psX S (srcK (0, 1, 0, 6, 0)) = (5, []) := by
      show ((S (0, 0)).av, (S (0, 0)).ml) = _
      rw [h]
    have hd : dbO (psX S) (0, 1, 0, 6, 0) = .no 197 (.agg #[.string ⟨([100, 101, 98, 105, 116] : List UInt8).toArray⟩, .iface 52 (.int .i64 18)]) := by
      unfold dbO
      rw [hp]
      show toO [100, 101, 98, 105, 116] (BL.debitO 5 [] 6 0) = _
      rw [db6]
      rfl
    unfold mvs dbs
    rw [hd]
  rw [hm]
  rfl
theorem eks_one {E : List En} {k : Ky} (h : eks E = [k]) : ∃ e, E = [e] ∧ e.k = k := by
  match E, h with
  | [e], h => exact ⟨e, rfl, by injection h⟩
theorem FrB.bl {F : Nat → Prop} {B : Nat} {w w' : World} (h : FrB F w w') (hB : B ≤ w.heap.size) (hF : ∀ b, F b → B ≤ b) : Below B w w' :=
  ⟨h.os, h.tape, h.output, h.size, fun b hb => h.block b (Nat.lt_of_lt_of_le hb hB) (fun k => by have := hF b k; omega)⟩
theorem field_pos (a b c d : Value) (w : World) : (Instr.field 64 (.agg #[a, b, c, d]) 0).run Tryz.prog w = .ok (.agg #[a, b]) w := by kernel_rfl
theorem field_av (a b : Value) (w : World) : (Instr.field 60 (.agg #[a, b]) 0).run Tryz.prog w = .ok a w := by kernel_rfl
theorem rt5 : BL.Rt 5 [] := ⟨by decide, by decide, trivial, by decide⟩
theorem rt0 : BL.Rt 0 [] := ⟨by decide, by decide, trivial, by decide⟩
set_option maxRecDepth 100000 in
set_option maxHeartbeats 8000000 in
theorem works_any (w : World) (hE : ErrType w) : Calls Tryz.prog 11 #[] w fun e w' => e = .returned (.bool true) ∧ Below w.heap.size w w' := by
  have hb0 := (Below.refl w.heap.size w).alloc (Nat.le_refl _) (.cells #[.slice none 0 0, .slice none 0 0, .slice none 0 0, .slice none 0 0, .slice none 0 0, .int .i64 0, .slice none 0 0, .slice none 0 0] 51)
  have hn0 := alloc_new w (.cells #[.slice none 0 0, .slice none 0 0, .slice none 0 0, .slice none 0 0, .slice none 0 0, .int .i64 0, .slice none 0 0, .slice none 0 0] 51)
  obtain ⟨W0, hW0⟩ : ∃ xw, w.alloc (.cells #[.slice none 0 0, .slice none 0 0, .slice none 0 0, .slice none 0 0, .slice none 0 0, .int .i64 0, .slice none 0 0, .slice none 0 0] 51) = xw := ⟨_, rfl⟩
  rw [hW0] at hb0 hn0
  have hEl := hE.lt
  have HA := hide (apply_go (vwI w.heap.size) vxZ (fun b => b = w.heap.size) (fun b => b = w.heap.size) 1 0 0 5 0 0 (.slice none 0 0) (.slice none 0 0) [] [] false W0 (vst_new W0 w.heap.size hn0) (hE.below hb0) (by omega) (LG.RM.nil W0) (fun b k => by cases k) (KY.RM.nil W0) (by decide) (by decide) chk1 (by decide) (by decide) (fun k _ => rt0) (by decide) (fun l hl => by cases hl) (by show 2000000 ≤ 4000000 - 0; decide))
  rw [do1 _ rfl] at HA
  have HE0 := hide (hE.below hb0)
  have HEl := hide hEl
  have HB0 := hide hb0
  clear hE hb0 hn0 hEl
  go_enter Tryz.func11, Tryz.ntmps11
  go_wp2_with fail
  refine HA.out.mono ?_
  rintro r w1 ⟨v1, E1, F1, H1, rfl, hO1, hnH1, hek1, hSX1, hws1, hAP1⟩
  obtain ⟨e, rfl, hek⟩ := eks_one (show eks E1 = [(0, 0)] from hek1)
  have hnow : e.now.cx = ⟨5, [], 0, []⟩ := by
    have h := hSX1 e List.mem_cons_self
    rw [hek] at h
    rw [h]
    rfl
  have hwas : e.was.cx = cxZ := by
    have h := hws1 e List.mem_cons_self
    rw [h]
    rfl
  have hhl : hld e = true := by
    have h1 : e.was.av = 0 := congrArg CX.av hwas
    have h2 : e.now.av = 5 := congrArg CX.av hnow
    unfold hld
    rw [h1, h2]
    rfl
  have hpt : ptd e = true := by unfold ptd; rw [hhl]; rfl
  have hchg : chg [e] = [(0, 0)] := by
    unfold chg
    rw [List.filter_cons_of_pos hhl]
    show [e.k] = _
    rw [hek]
  rw [hchg] at hO1
  obtain ⟨x1, hx1⟩ : ∃ xx, pxs (vwI w.heap.size) (gxs (vwI w.heap.size) vxZ (kyO 1 0 0 0 [] [])) [e] = xx := ⟨_, rfl⟩
  have hx1' : x1 = vpx (vgx vxZ (0, 0)) (0, 0) e.now := by
    rw [← hx1]
    show (if ptd e then _ else _) = _
    rw [if_pos hpt, hek]
    rfl
  have hbk : ∀ k, vbk x1 k = if k = (0, 0) then ⟨5, [], 0, []⟩ else cxZ := fun k => by
    rw [hx1', vbk_px _ rfl, hnow]
    split
    · rfl
    · rfl
  have hlx : x1.C.length = x1.K.length := by rw [hx1']; exact vpx_len _ rfl _ _
  have hkx : x1.k = 2 := by rw [hx1', vpx_k]; rfl
  rw [hx1] at hAP1
  obtain ⟨va, vc, hv⟩ := KY.OM.slice hO1
  subst hv
  have HV1 : Hid (VSt w.heap.size w1 F1 H1 x1) := hide hAP1.vw
  have HF1 := hide hAP1.fr
  have HU1 := hide hAP1.up
  have HO1 := hide hO1
  have HN1 := hide hnH1
  have HBK := hide hbk
  have HLX := hide (And.intro hlx hkx)
  clear hAP1 hO1 hnH1 hek1 hSX1 hws1 hnow hwas hhl hpt hchg hx1 hx1' hbk hlx hkx HA hW0
  have hb2 := two_below w1 (.cells #[.int .i64 0, .int .i64 0, .slice none 0 0] 55) (.cells #[.int .i64 0, .int .i64 1, .int .i64 0, .int .i64 6, .int .i64 0] 43)
  have hn2 := two_new w1 (.cells #[.int .i64 0, .int .i64 0, .slice none 0 0] 55) (.cells #[.int .i64 0, .int .i64 1, .int .i64 0, .int .i64 6, .int .i64 0] 43)
  have hs2 : w1.heap.size + 2 ≤ ((w1.alloc (.cells #[.int .i64 0, .int .i64 0, .slice none 0 0] 55)).alloc (.cells #[.int .i64 0, .int .i64 1, .int .i64 0, .int .i64 6, .int .i64 0] 43)).heap.size := by simp
  obtain ⟨W2, hW2⟩ : ∃ xw, (w1.alloc (.cells #[.int .i64 0, .int .i64 0, .slice none 0 0] 55)).alloc (.cells #[.int .i64 0, .int .i64 1, .int .i64 0, .int .i64 6, .int .i64 0] 43) = xw := ⟨_, rfl⟩
  rw [hW2] at hb2 hn2 hs2
  have hlow : ∀ b, F1 b → b < w1.heap.size := fun b k => (vwI w.heap.size).low HV1.out b ((vwI w.heap.size).sub HV1.out b k)
  have hV2 : VSt w.heap.size W2 F1 H1 x1 := HV1.out.keep hb2.size (fun b k => hb2.block b ((vwI w.heap.size).low HV1.out b k))
  have hE1 : ErrType w1 := HE0.out.blk (HF1.out.block _ HE0.out.lt (fun e => by have := HEl.out; omega))
  have hE2 : ErrType W2 := hE1.below hb2
  have hEF : ¬ F1 0 := fun k => by
    have h1 := HEl.out
    rcases HU1.out _ k with h | h
    · omega
    · have := HB0.out.size; omega
  have hL2 : LG.RM W2 (.slice (some ⟨w1.heap.size + 1, 0, none⟩) 1 1) [(0, 1, 0, 6, 0)] := by
    refine ⟨some ⟨w1.heap.size + 1, 0, none⟩, 1, rfl, Nat.le_refl _, .inr ⟨w1.heap.size + 1, 0, rfl, by omega, fun j p hj => ?_⟩⟩
    match j, hj with
    | 0, hj =>
      simp at hj
      subst hj
      exact five_cells hn2.2 rfl
  have HA2 := hide (apply_go (vwI w.heap.size) x1 F1 H1 5 0 0 0 0 3 (.slice (some ⟨w1.heap.size + 1, 0, none⟩) 1 1) (.slice none 0 0) [(0, 1, 0, 6, 0)] [] true W2 hV2 hE2 hEF hL2 (fun b k => by cases k; exact ⟨fun h => by have h9 : w1.heap.size + 1 < w1.heap.size := hlow _ h; omega, by show w1.heap.size + 1 < W2.heap.size; omega⟩) (KY.RM.nil W2) (by decide) (by decide) chk5 (by decide) (by decide) (fun k _ => by
      show BL.Rt (vbk x1 k).av (vbk x1 k).ml
      rw [HBK.out]
      split
      · exact rt5
      · exact rt0) (by decide) (fun l hl => by rw [List.mem_singleton.1 hl]; decide) (by show 2000000 ≤ 4000000 - x1.k; have := HLX.out.2; omega))
  rw [do5 _ (by show vbk x1 (0, 0) = _; rw [HBK.out]; rfl) (by show vbk x1 (-1, 3) = _; rw [HBK.out]; rfl)] at HA2
  have HNA := hide hn2.1
  have HB2 := hide hb2
  have HLW := hide hlow
  have HK1 : Hid (KY.RM W2 (.slice va 1 vc) [(0, 0)]) := hide (HO1.out.rm.later hb2)
  have HKN : Hid (∀ b, (Value.slice va 1 vc).ownBlock = some b → ¬ F1 b ∧ b < w1.heap.size ∧ w.heap.size ≤ b) := hide (fun b k => ⟨fun h => HN1.out b k ((vwI w.heap.size).sub HV1.out b h), (World.ownsRow.lt HO1.out b k).2, Nat.le_trans HB0.out.size (World.ownsRow.lt HO1.out b k).1⟩)
  clear hb2 hn2 hs2 hV2 hE1 hE2 hEF hL2 hlow HO1 HN1
  go_wp2_with fail
  try rw [hW2]
  refine HA2.out.mono ?_
  rintro r w3 ⟨v3, E3, F3, H3, rfl, hO3, hnH3, hek3, hSX3, hws3, hAP3⟩
  obtain ⟨x3, hx3⟩ : ∃ xx, pxs (vwI w.heap.size) (gxs (vwI w.heap.size) x1 (kyO 5 0 0 3 [(0, 1, 0, 6, 0)] [])) E3 = xx := ⟨_, rfl⟩
  rw [hx3] at hAP3
  have hbk3 := pxs_one w.heap.size E3 (gxs (vwI w.heap.size) x1 (kyO 5 0 0 3 [(0, 1, 0, 6, 0)] [])) (0, 0) ⟨5, [], 0, []⟩ (by rw [(gxs_len _ _ _).1, (gxs_len _ _ _).2]; exact HLX.out.1) (by
    have h := congrFun (gxs_bk (vwI w.heap.size) x1 (kyO 5 0 0 3 [(0, 1, 0, 6, 0)] [])) (0, 0)
    have h2 : vbk x1 (0, 0) = ⟨5, [], 0, []⟩ := by rw [HBK.out]; rfl
    exact h.trans h2) (fun e he hk => by
    rw [hSX3 e he, hk]
    show updX (vbk x1) (-1, 3) _ (0, 0) = _
    unfold updX
    rw [if_neg (by decide), HBK.out]
    rfl)
  rw [hx3] at hbk3
  have hk3 : x3.k < 4000001 := by
    have h1 := gxs_rm (vwI w.heap.size) x1 (kyO 5 0 0 3 [(0, 1, 0, 6, 0)] [])
    have h2 := pxs_rm (vwI w.heap.size) (gxs (vwI w.heap.size) x1 (kyO 5 0 0 3 [(0, 1, 0, 6, 0)] [])) E3
    have h3 : E3.length = (kyO 5 0 0 3 [(0, 1, 0, 6, 0)] []).length := by rw [← hek3]; unfold eks; rw [List.length_map]
    have h4 : (kyO 5 0 0 3 [(0, 1, 0, 6, 0)] []).length ≤ 3 := ks_len _
    rw [hx3] at h2
    have h5 : 4000000 - x1.k ≤ (vwI w.heap.size).rm (gxs (vwI w.heap.size) x1 (kyO 5 0 0 3 [(0, 1, 0, 6, 0)] [])) + (kyO 5 0 0 3 [(0, 1, 0, 6, 0)] []).length := h1
    have h6 : (vwI w.heap.size).rm (gxs (vwI w.heap.size) x1 (kyO 5 0 0 3 [(0, 1, 0, 6, 0)] [])) ≤ 4000000 - x3.k + E3.length := h2
    have h7 := HLX.out.2
    omega
  have hsz3 := hAP3.fr.size
  have hb3 : Below w.heap.size w w3 := by
    have h1 := HB0.out
    have h2 : Below w.heap.size W0 w1 := HF1.out.bl h1.size (fun b k => by omega)
    have h3 : Below w.heap.size w1 W2 := HB2.out.mono (Nat.le_trans h1.size HF1.out.size)
    have h4 : Below w.heap.size W2 w3 := hAP3.fr.bl (Nat.le_trans (Nat.le_trans h1.size HF1.out.size) HB2.out.size) (fun b k => by
      rcases HU1.out b k with h | h
      · omega
      · have := h1.size; omega)
    exact ((h1.trans h2).trans h3).trans h4
  have hA3 : w3.heap[w1.heap.size]? = some (.cells #[.int .i64 0, .int .i64 0, .slice none 0 0] 55 (0, 0)) := (hAP3.fr.block w1.heap.size (Array.getElem?_eq_some_iff.1 HNA.out).1 (fun k => by have := HLW.out _ k; omega)).trans HNA.out
  have hK3 : KY.RM w3 (.slice va 1 vc) [(0, 0)] := HK1.out.kept hsz3 (fun b k o => World.cell?_of_block (hAP3.fr.block b (by have := (HKN.out b k).2.1; have := HB2.out.size; omega) (HKN.out b k).1))
  have hb4 := (Below.refl w3.heap.size w3).alloc (Nat.le_refl _) (.cells #[.int .i64 0, .int .i64 1, .slice none 0 0] 55)
  have hn4 := alloc_new w3 (.cells #[.int .i64 0, .int .i64 1, .slice none 0 0] 55)
  obtain ⟨W4, hW4⟩ : ∃ xw, w3.alloc (.cells #[.int .i64 0, .int .i64 1, .slice none 0 0] 55) = xw := ⟨_, rfl⟩
  rw [hW4] at hb4 hn4
  have hV4 : VSt w.heap.size W4 F3 H3 x3 := VSt.keep (w := w3) hAP3.vw hb4.size (fun b k => hb4.block b ((vwI w.heap.size).low hAP3.vw b k))
  have HCL := hide (vcell_any w.heap.size W4 F3 H3 x3 0 0 hV4 hk3)
  rw [hbk3.1] at HCL
  obtain ⟨a0, a1, a2⟩ := three_cells (blk_later hA3 hb4) rfl
  obtain ⟨b0, b1, b2⟩ := three_cells hn4 rfl
  obtain ⟨_, _, he0, _, hkr⟩ := hK3
  cases he0
  obtain ⟨kb, ko, rfl, hkl, hkc⟩ := hkr.resolve_left (fun h => by cases h)
  have z0 : W4.cell? ⟨kb, ko, none⟩ = some (.int .i64 0) := (hb4.cell (p := ⟨kb, ko, none⟩) hkl).trans (hkc 0 (0, 0) rfl).1
  have z1 : W4.cell? ⟨kb, ko + 1, none⟩ = some (.int .i64 0) := (hb4.cell (p := ⟨kb, ko + 1, none⟩) hkl).trans (hkc 0 (0, 0) rfl).2
  have ev := KY.eqMk 0 0 0 0
  have hev : ((0 : Int) == 0 && (0 : Int) == 0) = true := rfl
  rw [hev] at ev
  have HB4 := hide (hb3.trans (hb4.mono hb3.size))
  obtain ⟨va3, vc3, hv3⟩ := KY.OM.slice hO3
  subst hv3
  clear hAP3 hO3 hnH3 hek3 hSX3 hws3 hx3 hbk3 hk3 hsz3 hb3 hA3 hb4 hn4 hV4 hkr hkl hkc HA2 hev hW2
  subst hW4
  go_wp2_with fail
  refine HCL.out.mono ?_
  rintro r w5 ⟨mv, lv, rfl, hm5, hl5, hb5⟩
  obtain ⟨ma5, mc5, hmv5⟩ := BL.rm_lt hm5
  subst hmv5
  obtain ⟨la5, lc5, hlv5⟩ := LG.rm_lt hl5
  subst hlv5
  dsimp only
  have hf1 := field_pos (.int .i64 5) (.slice ma5 0 mc5) (.int .i64 0) (.slice la5 0 lc5)
  have hf2 := field_av (.int .i64 5) (.slice ma5 0 mc5)
  have HB5 := hide (HB4.out.trans (hb5.mono HB4.out.size))
  clear hb5 HCL hm5 hl5
  go_wp2_with fail
  go_ret
  exact ⟨rfl, HB5.out⟩
end Go.Proofs.YtdjhbecbbmdimaaGreatDoor
