/-
  My own text: layer 23: Pool by the document (the drawn region printed by mklp3.py).
-/
import Derived.Test.YtfhimhjeilnkaaaDoorLP1
import Derived.Test.YtfhimhjeilnkaaaDoorLO3
import Derived.Test.YtfhimhjeilnkaaaDoorQRs
namespace Go.Proofs.YtfhimhjeilnkaaaDoor
open Go.RowKit

/-- The document's rows. -/
structure DP (w : World) (out : List LG.El) (v : Value) (W : World) : Prop where
  om : LG.OM W w.heap.size v out
  lo : Below w.heap.size w W
theorem DP.later {w W W' : World} {out : List LG.El} {v : Value} (h : DP w out v W) (hb : Below W.heap.size W W') : DP w out v W' := ⟨h.om.later hb, h.lo.trans (hb.mono h.lo.size)⟩
theorem DP.drewN {w W : World} {out : List LG.El} {v : Value} (h : DP w out v W) (q : Nat) : DP w out v (W.drewN q) := ⟨h.om, below_dN h.lo q⟩
theorem DP.set {w W : World} {P cap j : Nat} {out : List LG.El} {y : LG.El} (h : DP w out (.slice (some ⟨P, 0, none⟩) out.length cap) W) (hj : out[j]? = some y) (q : Int) :
    DP w (out.set j (addE y q)) (.slice (some ⟨P, 0, none⟩) out.length cap) (W.setCell ⟨P, j * 5 + 3, none⟩ (.int .i64 q)) := by
  have h1 := h.om
  have hP : w.heap.size ≤ P := (World.ownsRow.lt h.om P rfl).1
  unfold LG.OM at h1
  obtain ⟨s0, g0⟩ := h1.stored (j * 5 + 3) (.int .i64 q)
  rw [← mc_set1 q hj] at s0
  refine ⟨?_, h.lo.grown g0 h.lo.size (fun g e => by injection e with e; subst e; exact hP)⟩
  unfold LG.OM; rw [List.length_set]; exact s0
/-- How far the document has looked. -/
def oV (o : Option Nat) : Int := match o with | none => -1 | some i => (i : Int)
structure Sc (out : List LG.El) (k : LG.El) (j : Nat) (o : Option Nat) : Prop where
  hit : ∀ (i : Nat) (y : LG.El), i < j → out[i]? = some y → wayE y = k → o = some i
  is : ∀ i, o = some i → i < j ∧ ∃ y, out[i]? = some y ∧ wayE y = k
theorem Sc.start (out : List LG.El) (k : LG.El) : Sc out k 0 none := ⟨fun i _ h => absurd h (Nat.not_lt_zero i), fun _ h => by simp at h⟩
theorem Sc.yes {out : List LG.El} {k y : LG.El} {j : Nat} (hu : Uq out) (hy : out[j]? = some y) (e : wayE y = k) : Sc out k (j + 1) (some j) :=
  ⟨fun i z hi hz hk => by rw [hu i j z y hz hy (by rw [hk, e])], fun i hi => by injection hi with hi; subst hi; exact ⟨by omega, y, hy, e⟩⟩
theorem Sc.no {out : List LG.El} {k y : LG.El} {j : Nat} {o : Option Nat} (h : Sc out k j o) (hy : out[j]? = some y) (e : wayE y ≠ k) : Sc out k (j + 1) o := by
  refine ⟨fun i z hi hz hk => ?_, fun i hi => ?_⟩
  · by_cases q : i = j
    · subst q; rw [hy] at hz; injection hz with hz; subst hz; exact absurd hk e
    · exact h.hit i z (by omega) hz hk
  · obtain ⟨h1, h2⟩ := h.is i hi
    exact ⟨by omega, h2⟩
theorem Sc.fin {out : List LG.El} {k : LG.El} {o : Option Nat} (h : Sc out k out.length o) (hu : Uq out) : o = fndK out k := by
  cases ho : o with
  | none =>
    symm
    rw [fndK_none]
    intro i y hi e
    have := h.hit i y (List.getElem?_eq_some_iff.1 hi).1 hi e
    rw [ho] at this; cases this
  | some i =>
    obtain ⟨_, y, hy, e⟩ := h.is i ho
    exact (fndK_of hu hy e).symm
set_option maxRecDepth 100000 in
set_option maxHeartbeats 4000000 in
theorem rPool_any (v : Value) (T : List LR) (w : World) (hv : LL w v T) (hw : ∀ x ∈ Fa T, WOK x) (hl : (Fa T).length ≤ 100000) (hT : T.length ≤ 100000) :
    Calls Tryd.prog 5 #[v] w fun e w' => ∃ v', e = .returned (.tuple #[v', .int .i64 (poolF (Fa T)).2]) ∧ LG.OM w' w.heap.size v' (poolF (Fa T)).1 ∧ Below w.heap.size w w' := by
  obtain ⟨va, vcap, rfl, hvc, hr⟩ := hv.row
  have HR := hide hr
  have HE := hide hv.each
  have HW := hide hw
  have HL := hide hl
  have HT := hide hT
  have hg : Tryd.prog.eqGuardType Tryd.prog.depth 43 = false := by kernel_rfl
  clear hr hw hl hT hv
  go_enter Tryd.func5, Tryd.ntmps5
  go_wp2_with fail
  go_loopw [5, 4] (fun iv lv wr => ∃ (i : Nat) (out : List LG.El) (lo : Option Addr) (lc : Nat), i ≤ T.length ∧ iv = .int .i64 (i : Int) ∧ lv = .slice lo out.length lc ∧ Hid (PI (Fi T i) out) ∧ Hid (DP w out (.slice lo out.length lc) wr)) (fun iv _ _ => T.length - (intOf iv).toNat)
  case atStart => exact ⟨0, [], none, 0, Nat.zero_le _, rfl, rfl, hide PI.nil, hide ⟨LG.OM.nil _ _, Below.refl _ _⟩⟩
  case round =>
    obtain ⟨i, out, lo, lc, hile, rfl, rfl, HPI, HPS⟩ := hrel
    by_cases hin : i < T.length
    · obtain ⟨p, hp⟩ : ∃ p, T[i]? = some p := ⟨_, List.getElem?_eq_getElem hin⟩
      obtain ⟨b, off, rfl, hgl, hc⟩ := HR.out.resolve_left (fun h => by rw [h] at hin; simp at hin)
      have zc := hc i _ hp
      have hd1 : decide ((i : Int) < (T.length : Int)) = true := by rw [decide_eq_true_eq]; omega
      have hd1' : decide (i < T.length) = true := decide_eq_true hin
      have k0 : (0 : Int) ≤ (i : Int) := by omega
      have k1 : (i : Int) < (T.length : Int) := by omega
      have wi : wrap64 ((i : Int) + 1) = (i : Int) + 1 := by have := HT.out; unfold wrap64; omega
      obtain ⟨HEP, hpv⟩ : Hid (LG.RM w p.v p.l) ∧ p.v = .slice p.a p.l.length p.c := ⟨hide (HE.out p (List.mem_of_getElem? hp)), rfl⟩
      rw [hpv] at zc
      have HZ := hide (fun W (h : Below w.heap.size w W) => (h.cell (p := ⟨b, off + i, none⟩) hgl).trans zc)
      clear hc zc
      go_wp2_with fail
      have HF0 : Hid (PI (Fi T i ++ p.l.take 0) out) := hide (by rw [List.take_zero, List.append_nil]; exact HPI.out)
      go_loopw [6, 4] (fun kv lv wr => ∃ (k : Nat) (out : List LG.El) (lo : Option Addr) (lc : Nat), k ≤ p.l.length ∧ kv = .int .i64 (k : Int) ∧ lv = .slice lo out.length lc ∧ Hid (PI (Fi T i ++ p.l.take k) out) ∧ Hid (DP w out (.slice lo out.length lc) wr)) (fun kv _ _ => p.l.length - (intOf kv).toNat)
      case atStart => exact ⟨0, out, lo, lc, Nat.zero_le _, rfl, rfl, HF0, HPS⟩
      case round =>
        clear HPI HPS HF0
        obtain ⟨k, out, lo, lc, hkle, rfl, rfl, HPI, HPS⟩ := hrel
        have z0 := HZ.out wr HPS.out.lo
        by_cases hkn : k < p.l.length
        · obtain ⟨x, hx⟩ : ∃ x, p.l[k]? = some x := ⟨_, List.getElem?_eq_getElem hkn⟩
          have HXW : Hid (WOK x) := hide (HW.out x (by obtain ⟨G, hG⟩ := Fk_split hp hx; rw [hG]; simp))
          have HSP := hide (Fk_split hp hx)
          have HFS := hide (Fk_succ (A := Fi T i) hx)
          have HFL : Hid ((Fi T i ++ p.l.take k).length ≤ 100000) := hide (Nat.le_trans (Fk_len hp) HL.out)
          have hpl : p.l.length ≤ 100000 := Nat.le_trans (len_Fa hp) HL.out
          obtain ⟨pa, pc, hpv2, _, hpr⟩ := HEP.out
          injection hpv2 with hpa _ hpc
          clear hpc
          obtain ⟨b2, off2, hpa2, hgl2, hc2⟩ := hpr.resolve_left (fun h => by rw [h] at hkn; simp at hkn)
          rw [hpa2] at hpa
          have cc := hc2 k x hx
          have lo2 := HPS.out.lo
          have y0 := (lo2.cell (p := ⟨b2, _, none⟩) hgl2).trans cc.1
          have y1 := (lo2.cell (p := ⟨b2, _, none⟩) hgl2).trans cc.2.1
          have y2 := (lo2.cell (p := ⟨b2, _, none⟩) hgl2).trans cc.2.2.1
          have y3 := (lo2.cell (p := ⟨b2, _, none⟩) hgl2).trans cc.2.2.2.1
          have y4 := (lo2.cell (p := ⟨b2, _, none⟩) hgl2).trans cc.2.2.2.2
          obtain ⟨x0, x1, x2, x3, x4⟩ := x
          dsimp only at y0 y1 y2 y3 y4
          have hd1 : decide ((k : Int) < (p.l.length : Int)) = true := by rw [decide_eq_true_eq]; omega
          have hd1' : decide (k < p.l.length) = true := decide_eq_true hkn
          have k0 : (0 : Int) ≤ (k : Int) := by omega
          have k1 : (k : Int) < (p.l.length : Int) := by omega
          have wk : wrap64 ((k : Int) + 1) = (k : Int) + 1 := by unfold wrap64; omega
          clear cc hc2 hpr hpa2 hx lo2
          have hb2 : Below wr.heap.size wr (wr.alloc (.cells #[.int .i64 x0, .int .i64 x1, .int .i64 x2, .int .i64 x3, .int .i64 x4] 43)) := (Below.refl _ _).alloc (Nat.le_refl _) _
          have HPS2 := hide (HPS.out.later hb2)
          have HBX := hide (alloc_new wr (.cells #[.int .i64 x0, .int .i64 x1, .int .i64 x2, .int .i64 x3, .int .i64 x4] 43))
          have HSZ1 : Hid (wr.heap.size < (wr.alloc (.cells #[.int .i64 x0, .int .i64 x1, .int .i64 x2, .int .i64 x3, .int .i64 x4] 43)).heap.size) := hide (by simp)
          clear hb2
          by_cases hq : x3 < 1
          · have dq : decide (x3 < 1) = true := decide_eq_true hq
            have HPO : Hid (poolF (Fa T) = ([], 16)) := hide (by obtain ⟨G, hG⟩ := HSP.out; rw [hG]; exact HPI.out.low (p := (x0, x1, x2, x3, x4)) hq G)
            clear hq HSP HFS HPI HPS
            rw [hpa] at z0
            go_wp2_with fail
            go_ret2
            exact ⟨.slice none 0 0, by rw [HPO.out]; rfl, by rw [HPO.out]; exact LG.OM.nil _ _, HPS2.out.lo⟩
          · have dq : decide (x3 < 1) = false := decide_eq_false hq
            have HQ := hide hq
            rw [hpa] at z0
            clear hq HPS
            go_wp2_with fail
            obtain ⟨bx, hbx⟩ : ∃ bx, wr.heap.size = bx := ⟨_, rfl⟩
            obtain ⟨W1, hW1⟩ : ∃ W, wr.alloc (.cells #[.int .i64 x0, .int .i64 x1, .int .i64 x2, .int .i64 x3, .int .i64 x4] 43) = W := ⟨_, rfl⟩
            rw [hW1] at HPS2 HBX HSZ1
            rw [hbx] at HBX HSZ1
            rw [hW1, hbx]
            clear hW1 hbx y0 y1 y2 y3 y4 z0
            have HOL : Hid (out.length ≤ 100000) := hide (Nat.le_trans HPI.out.len HFL.out)
            go_loopw [9, 8] (fun jv av wr => ∃ (j : Nat) (o : Option Nat), j ≤ out.length ∧ jv = .int .i64 (j : Int) ∧ av = .int .i64 (oV o) ∧ Hid (Sc out (wayE (x0, x1, x2, x3, x4)) j o) ∧ Hid (Below W1.heap.size W1 wr)) (fun jv _ _ => out.length - (intOf jv).toNat)
            case atStart => exact ⟨0, none, Nat.zero_le _, rfl, rfl, hide (Sc.start _ _), hide (Below.refl _ _)⟩
            case round =>
              obtain ⟨j, o, hjle, rfl, rfl, HSC, HBJ⟩ := hrel
              have HPJ := hide (HPS2.out.later HBJ.out)
              obtain ⟨c0, c1, c2, c3, c4⟩ := LG.cellsA ((HBJ.out.block bx HSZ1.out).trans HBX.out) rfl
              have HSZ2 : Hid (bx < wr.heap.size) := hide (Nat.lt_of_lt_of_le HSZ1.out HBJ.out.size)
              by_cases hjn : j < out.length
              · obtain ⟨⟨y0, y1, y2, y3, y4⟩, hy⟩ : ∃ y, out[j]? = some y := ⟨_, List.getElem?_eq_getElem hjn⟩
                have hom := HPJ.out.om
                unfold LG.OM at hom
                obtain ⟨P, cap, e, hP1, hP2⟩ := World.ownsRow.form hom (by omega)
                injection e with e1 _ e3
                subst e1 e3
                have a0 : wr.cell? ⟨P, j * 5, none⟩ = some (.int .i64 y0) := by rw [World.ownsRow.cellAt hom (j * 5) (by omega)]; exact (LG.mc_at hy).1
                have a1 : wr.cell? ⟨P, j * 5 + 1, none⟩ = some (.int .i64 y1) := by rw [World.ownsRow.cellAt hom (j * 5 + 1) (by omega)]; exact (LG.mc_at hy).2.1
                have a2 : wr.cell? ⟨P, j * 5 + 2, none⟩ = some (.int .i64 y2) := by rw [World.ownsRow.cellAt hom (j * 5 + 2) (by omega)]; exact (LG.mc_at hy).2.2.1
                have a3 : wr.cell? ⟨P, j * 5 + 3, none⟩ = some (.int .i64 y3) := by rw [World.ownsRow.cellAt hom (j * 5 + 3) (by omega)]; exact (LG.mc_at hy).2.2.2.1
                have a4 : wr.cell? ⟨P, j * 5 + 4, none⟩ = some (.int .i64 y4) := by rw [World.ownsRow.cellAt hom (j * 5 + 4) (by omega)]; exact (LG.mc_at hy).2.2.2.2
                have d0 : ∀ t, (wr.alloc t).cell? ⟨bx, 0, none⟩ = some (.int .i64 x0) := fun t => (((Below.refl wr.heap.size wr).alloc (Nat.le_refl _) t).cell (p := ⟨bx, 0, none⟩) HSZ2.out).trans c0
                have d1 : ∀ t, (wr.alloc t).cell? ⟨bx, 1, none⟩ = some (.int .i64 x1) := fun t => (((Below.refl wr.heap.size wr).alloc (Nat.le_refl _) t).cell (p := ⟨bx, 1, none⟩) HSZ2.out).trans c1
                have d2 : ∀ t, (wr.alloc t).cell? ⟨bx, 2, none⟩ = some (.int .i64 x2) := fun t => (((Below.refl wr.heap.size wr).alloc (Nat.le_refl _) t).cell (p := ⟨bx, 2, none⟩) HSZ2.out).trans c2
                have d3 : ∀ t, (wr.alloc t).cell? ⟨bx, 3, none⟩ = some (.int .i64 x3) := fun t => (((Below.refl wr.heap.size wr).alloc (Nat.le_refl _) t).cell (p := ⟨bx, 3, none⟩) HSZ2.out).trans c3
                have d4 : ∀ t, (wr.alloc t).cell? ⟨bx, 4, none⟩ = some (.int .i64 x4) := fun t => (((Below.refl wr.heap.size wr).alloc (Nat.le_refl _) t).cell (p := ⟨bx, 4, none⟩) HSZ2.out).trans c4
                have hj1 : decide ((j : Int) < (out.length : Int)) = true := by rw [decide_eq_true_eq]; omega
                have hj1' : decide (j < out.length) = true := decide_eq_true hjn
                have j0 : (0 : Int) ≤ (j : Int) := by omega
                have j1 : (j : Int) < (out.length : Int) := by omega
                have wj : wrap64 ((j : Int) + 1) = (j : Int) + 1 := by have := HOL.out; unfold wrap64; omega
                have HUQ := hide HPI.out.uq
                have HBJ2 : Hid (Below W1.heap.size W1 (wr.alloc (.cells #[.int .i64 y0, .int .i64 y1, .int .i64 y2, .int .i64 x3, .int .i64 y4] 43))) := hide (HBJ.out.alloc HBJ.out.size _)
                have ev := LG.eqMk y0 y1 y2 x3 y4 x0 x1 x2 x3 x4
                clear hom hP1 hP2
                cases hE : (y0 == x0 && y1 == x1 && y2 == x2 && x3 == x3 && y4 == x4) with
                | true =>
                  rw [hE] at ev
                  have HS2 := hide (Sc.yes (k := wayE (x0, x1, x2, x3, x4)) HUQ.out hy (by
                    simp only [Bool.and_eq_true, beq_iff_eq] at hE
                    simp [wayE, hE]))
                  clear hE hy HSC
                  go_wp2_with fail
                  go_roundw
                  case rel => exact ⟨j + 1, some j, hjn, iv_succ wj, rfl, HS2, HBJ2⟩
                  case measure => exact meas_j wj hjn
                | false =>
                  rw [hE] at ev
                  have HS2 := hide (HSC.out.no hy (fun e => by
                    simp only [wayE, Prod.mk.injEq] at e
                    simp [e] at hE))
                  clear hE hy HSC
                  go_wp2_with fail
                  go_roundw
                  case rel => exact ⟨j + 1, o, hjn, iv_succ wj, rfl, HS2, HBJ2⟩
                  case measure => exact meas_j wj hjn
              · have e : j = out.length := by omega
                have hj1 : decide ((j : Int) < (out.length : Int)) = false := by rw [decide_eq_false_iff_not]; omega
                have hj1' : decide (j < out.length) = false := decide_eq_false hjn
                have ho : o = fndK out (wayE (x0, x1, x2, x3, x4)) := by have := HSC.out; rw [e] at this; exact this.fin HPI.out.uq
                have HO := hide ho
                clear e HSC ho
                have hqq : ¬ x3 < 1 := by have := HQ.out; omega
                cases hf : fndK out (wayE (x0, x1, x2, x3, x4)) with
                | none =>
                  have eo : o = none := HO.out.trans hf
                  subst eo
                  have HPI2 := hide (HPI.out.fresh (p := (x0, x1, x2, x3, x4)) HXW.out hqq hf)
                  have HT2 : Hid (LG.mc (out ++ [(x0, x1, x2, x3, x4)]) = LG.mc out ++ [.int .i64 x0, .int .i64 x1, .int .i64 x2, .int .i64 x3, .int .i64 x4]) := hide (by rw [LG.mc_app]; rfl)
                  have HSZ := hide HPJ.out.lo.size
                  have HLO := hide HPJ.out.lo
                  have hown := HPJ.out.om
                  unfold LG.OM at hown
                  obtain ⟨i0, hi, hz0, hz1, hz2⟩ := info_parts LG.Tryd.infoMk
                  rw [show oV none = -1 from rfl]
                  clear hqq hf HO HPI HPS2 HPJ HSP HBJ
                  go_wp2_with (first
                    | (at_builtin; refine wpList_append_own_wide _ rfl _ _ 23 rfl w.heap.size 43 i0 (.agg #[.int .i64 0, .int .i64 0, .int .i64 0, .int .i64 0, .int .i64 0]) 5 40 Tryd.underlying23 hi hz0 hz1 hz2 rfl (by decide) _ _ _ rfl (hown.alloc _) ⟨_, 0, none⟩ 1 1 [.int .i64 x0, .int .i64 x1, .int .i64 x2, .int .i64 x3, .int .i64 x4] rfl rfl ?d1 ?d2 ?d3 ?d4 ?d5 ?_)
                    | fail)
                  case d1 =>
                    intro j u hj
                    match j, hj with
                    | 0, hj => simp at hj; subst hj; simp [Addr.add]
                    | 1, hj => simp at hj; subst hj; simp [Addr.add]
                    | 2, hj => simp at hj; subst hj; simp [Addr.add]
                    | 3, hj => simp at hj; subst hj; simp [Addr.add]
                    | 4, hj => simp at hj; subst hj; simp [Addr.add]
                  case d2 => intro u hu; simp at hu; rcases hu with rfl | rfl | rfl | rfl | rfl <;> rfl
                  case d3 => have := HOL.out; unfold maxLen; omega
                  case d4 => have := HOL.out; omega
                  case d5 => have := HSZ.out; simp; omega
                  intro v' w4 hown' hgrow _
                  have hal := (Below.refl wr.heap.size wr).alloc (Nat.le_refl _) (.cells #[.int .i64 x0, .int .i64 x1, .int .i64 x2, .int .i64 x3, .int .i64 x4] 43)
                  have hom4 : LG.OM w4 w.heap.size v' (out ++ [(x0, x1, x2, x3, x4)]) := by
                    unfold LG.OM
                    rw [HT2.out, List.length_append]
                    exact hown'
                  have hbw : ∀ g, (Value.slice lo out.length lc).ownBlock = some g → w.heap.size ≤ g := fun g hg => (World.ownsRow.lt hown g hg).1
                  obtain ⟨a5, q5, hv5⟩ := LG.OM.slice hom4
                  subst hv5
                  have HPS4 : Hid (DP w (out ++ [(x0, x1, x2, x3, x4)]) (.slice a5 (out ++ [(x0, x1, x2, x3, x4)]).length q5) w4) := hide ⟨hom4, (HLO.out.trans (hal.mono HLO.out.size)).grown hgrow (Nat.le_trans HLO.out.size hal.size) (fun g hg => hbw g hg)⟩
                  have HPI4 : Hid (PI (Fi T i ++ p.l.take (k + 1)) (out ++ [(x0, x1, x2, x3, x4)])) := hide (by rw [HFS.out]; exact HPI2.out)
                  obtain ⟨m4, hm4⟩ : ∃ m4, (out ++ [(x0, x1, x2, x3, x4)]).length = m4 := ⟨_, rfl⟩
                  rw [hm4] at HPS4 ⊢
                  have HM4 := hide hm4
                  clear hown' hgrow hown hom4 hbw hal hm4 HT2 HLO HSZ HPI2 HFS
                  go_wp2_with fail
                  go_roundw
                  case rel => exact ⟨k + 1, out ++ [(x0, x1, x2, x3, x4)], a5, q5, hkn, iv_succ wk, by rw [HM4.out], HPI4, hide (by rw [HM4.out]; exact HPS4.out)⟩
                  case measure => exact meas_j wk hkn
                | some t =>
                  have eo : o = some t := HO.out.trans hf
                  subst eo
                  rw [show oV (some t) = (t : Int) from rfl]
                  obtain ⟨y, hy, hyw⟩ := fndK_some hf
                  have hjl : t < out.length := (List.getElem?_eq_some_iff.1 hy).1
                  have hom := HPJ.out.om
                  unfold LG.OM at hom
                  obtain ⟨P, cap, e, hP1, hP2⟩ := World.ownsRow.form hom (by omega)
                  injection e with e1 _ e3
                  subst e1 e3
                  have cy : wr.cell? ⟨P, t * 5 + 3, none⟩ = some (.int .i64 (qE y)) := by
                    rw [World.ownsRow.cellAt hom (t * 5 + 3) (by omega)]
                    exact (LG.mc_at hy).2.2.2.1
                  have hyr := HPI.out.rng t y hy
                  obtain ⟨yq, hyq⟩ : ∃ yq, qE y = yq := ⟨_, rfl⟩
                  rw [hyq] at cy hyr
                  have tn : decide ((t : Int) < 0) = false := by rw [decide_eq_false_iff_not]; omega
                  have t0 : (0 : Int) ≤ (t : Int) := by omega
                  have t1 : (t : Int) < (out.length : Int) := by omega
                  have hxr := HXW.out.q
                  have hx3 : qE (x0, x1, x2, x3, x4) = x3 := rfl
                  rw [hx3] at hxr
                  have hq1 := HQ.out
                  obtain ⟨d, hd⟩ : ∃ d : Int, 9223372036854775807 - x3 = d := ⟨_, rfl⟩
                  have wd : wrap64 (9223372036854775807 - x3) = d := by unfold wrap64; omega
                  have wd2 : IntKind.i64.wrap (9223372036854775807 - x3) = d := by rw [IntKind.wrap_i64]; omega
                  clear c0 c1 c2 c4 hjle hjn
                  by_cases ho : 9223372036854775807 < yq + x3
                  · have HPO : Hid (poolF (Fa T) = ([], 9)) := hide (by obtain ⟨G, hG⟩ := HSP.out; rw [hG]; exact HPI.out.over (p := (x0, x1, x2, x3, x4)) hqq hf hy (by rw [hyq]; exact ho) G)
                    have do1 : decide (d < yq) = true := decide_eq_true (by omega)
                    clear hqq hq1 hf HPI HPS2 HSP HFS hom hP1 hP2 hy hyw hyq hyr hd ho hjl hxr hx3
                    go_wp2_with fail
                    go_quiet (fail)
                    go_wp2_with fail
                    go_ret2
                    exact ⟨.slice none 0 0, by rw [HPO.out]; rfl, by rw [HPO.out]; exact LG.OM.nil _ _, below_dN HPJ.out.lo _⟩
                  · have HPI2 := hide (HPI.out.more (p := (x0, x1, x2, x3, x4)) hqq hf hy (by rw [hyq]; exact ho))
                    have do1 : decide (d < yq) = false := decide_eq_false (by omega)
                    obtain ⟨s, hs⟩ : ∃ s : Int, yq + x3 = s := ⟨_, rfl⟩
                    rw [hyq, show qE (x0, x1, x2, x3, x4) = x3 from rfl, hs] at HPI2
                    have HSET := hide (fun V (h : DP w out (.slice (some ⟨P, 0, none⟩) out.length lc) V) => h.set hy s)
                    have wt : wrap64 (yq + x3) = s := by unfold wrap64; omega
                    have wt2 : IntKind.i64.wrap (yq + x3) = s := by rw [IntKind.wrap_i64]; omega
                    have HCX := hide (And.intro cy c3)
                    have HPI4 : Hid (PI (Fi T i ++ p.l.take (k + 1)) (out.set t (addE y s))) := hide (by rw [HFS.out]; exact HPI2.out)
                    have HOS : Hid ((out.set t (addE y s)).length = out.length) := hide List.length_set
                    generalize out.set t (addE y s) = out2 at HSET HPI4 HOS
                    clear hqq hq1 hf HPI HPI2 HPS2 HSP HFS hom hP1 hP2 hy hyw hyq hyr hd ho hjl hs hxr hx3
                    go_wp2_with fail
                    go_quiet (fail)
                    go_wp2_with fail
                    obtain ⟨V1, hV1⟩ : ∃ V, wr.drewN nq = V := ⟨_, rfl⟩
                    have HP1 : Hid (DP w out (.slice (some ⟨P, 0, none⟩) out.length lc) V1) := hide (by rw [← hV1]; exact HPJ.out.drewN nq)
                    have HC1 : Hid (V1.cell? ⟨P, t * 5 + 3, none⟩ = some (.int .i64 yq) ∧ V1.cell? ⟨bx, 3, none⟩ = some (.int .i64 x3)) := hide (by rw [← hV1]; exact HCX.out)
                    rw [hV1]
                    obtain ⟨V0, hV0⟩ : ∃ V, World.drew V1 = V := ⟨_, rfl⟩
                    have HP0 : Hid (DP w out (.slice (some ⟨P, 0, none⟩) out.length lc) V0) := hide (by rw [← hV0]; exact HP1.out.drewN 1)
                    have hHeld : Hid (V0.cell? ⟨P, t * 5 + 3, none⟩ = some (.int .i64 yq) ∧ V0.cell? ⟨bx, 3, none⟩ = some (.int .i64 x3)) := hide (by rw [← hV0]; exact HC1.out)
                    have HFZ : Hid (V0.frozen? ⟨P, t * 5 + 3, none⟩ = false) := hide (World.ownsRow.frozenAt (by have := HP0.out.om; unfold LG.OM at this; exact this) _)
                    obtain ⟨w5, hw5⟩ : ∃ z, V0.setCell ⟨P, t * 5 + 3, none⟩ (.int .i64 s) = z := ⟨_, rfl⟩
                    have HP5 : Hid (DP w out2 (.slice (some ⟨P, 0, none⟩) out2.length lc) w5) := hide (by rw [← hw5, HOS.out]; exact HSET.out V0 HP0.out)
                    rw [HOS.out] at HP5
                    clear hV1 HP1 HC1 HCX cy c3 HSET HP0 HPJ HBX wd wd2 do1 dq
                    refine s_begins (S := fun W : World => W.cell? ⟨P, t * 5 + 3, none⟩ = some (.int .i64 yq) ∧ W.cell? ⟨bx, 3, none⟩ = some (.int .i64 x3)) [12] 13 #[false, false, false, false, false, false, false, false, false, false, false, false, false] (by kernel_rfl) (by kernel_rfl) (by kernel_rfl) ?_
                    rw [hV0]
                    clear hV0
                    refine sk0 (v := ?_) 0 68 #[true, false, false, false, false, false, false, false, false, false, false, false, false] rfl rfl (by kernel_rfl) (by kernel_rfl) (by kernel_rfl) (by kernel_rfl) (fun _ _ _ h => h) (by kernel_rfl) (by rfl) ?hy (fun _ => hHeld.out) ?_
                    case hy => intro W; first | (go_simp; done) | (go_simp; with_reducible rfl)
                    simp only [List.setIfInBounds_toArray, List.set_cons_zero, List.set_cons_succ]
                    refine sk0 (v := ?_) 1 69 #[true, true, false, false, false, false, false, false, false, false, false, false, false] rfl rfl (by kernel_rfl) (by kernel_rfl) (by kernel_rfl) (by kernel_rfl) (fun _ _ _ h => h) (by kernel_rfl) (by rfl) ?hy (fun _ => hHeld.out) ?_
                    case hy => intro W; first | (go_simp; done) | (go_simp; with_reducible rfl)
                    simp only [List.setIfInBounds_toArray, List.set_cons_zero, List.set_cons_succ]
                    refine sk0 (v := ?_) 2 70 #[true, true, true, false, false, false, false, false, false, false, false, false, false] rfl rfl (by kernel_rfl) (by kernel_rfl) (by kernel_rfl) (by kernel_rfl) (fun _ _ _ h => h) (by kernel_rfl) (by rfl) ?hy (fun _ => hHeld.out) ?_
                    case hy => intro W; first | (go_simp; done) | (go_simp; with_reducible rfl)
                    simp only [List.setIfInBounds_toArray, List.set_cons_zero, List.set_cons_succ]
                    refine sk0 (v := ?_) 3 71 #[true, true, true, true, false, false, false, false, false, false, false, false, false] rfl rfl (by kernel_rfl) (by kernel_rfl) (by kernel_rfl) (by kernel_rfl) (fun _ _ _ h => h) (by kernel_rfl) (by rfl) ?hy (fun _ => hHeld.out) ?_
                    case hy => intro W; first | (go_simp; done) | (go_simp; with_reducible rfl)
                    simp only [List.setIfInBounds_toArray, List.set_cons_zero, List.set_cons_succ]
                    refine sk0 (v := ?_) 4 72 #[true, true, true, true, true, false, false, false, false, false, false, false, false] rfl rfl (by kernel_rfl) (by kernel_rfl) (by kernel_rfl) (by kernel_rfl) (fun _ _ _ h => h) (by kernel_rfl) (by rfl) ?hy (fun _ => hHeld.out) ?_
                    case hy => intro W; first | (go_simp; done) | (go_simp; with_reducible rfl)
                    simp only [List.setIfInBounds_toArray, List.set_cons_zero, List.set_cons_succ]
                    refine sk0 (v := ?_) 5 73 #[true, true, true, true, true, true, false, false, false, false, false, false, false] rfl rfl (by kernel_rfl) (by kernel_rfl) (by kernel_rfl) (by kernel_rfl) (fun _ _ _ h => h) (by kernel_rfl) (by rfl) ?hy (fun _ => hHeld.out) ?_
                    case hy => intro W; first | (go_simp; done) | (go_simp; with_reducible rfl)
                    simp only [List.setIfInBounds_toArray, List.set_cons_zero, List.set_cons_succ]
                    refine sk1 (v := ?_) 6 74 #[true, true, true, true, true, true, true, false, false, false, false, false, false] rfl rfl (by kernel_rfl) (by kernel_rfl) (by kernel_rfl) (by kernel_rfl) (by kernel_rfl) (by kernel_rfl) (fun _ _ _ h => h) (by kernel_rfl) (by rfl) ?hy hHeld.out ?_
                    case hy => rintro W ⟨s1, s2⟩; first | (go_simp; done) | (go_simp; with_reducible rfl)
                    simp only [List.setIfInBounds_toArray, List.set_cons_zero, List.set_cons_succ]
                    refine sk0 (v := ?_) 7 75 #[true, true, true, true, true, true, true, true, false, false, false, false, false] rfl rfl (by kernel_rfl) (by kernel_rfl) (by kernel_rfl) (by kernel_rfl) (fun _ _ _ h => h) (by kernel_rfl) (by rfl) ?hy (fun _ => hHeld.out) ?_
                    case hy => intro W; first | (go_simp; done) | (go_simp; with_reducible rfl)
                    simp only [List.setIfInBounds_toArray, List.set_cons_zero, List.set_cons_succ]
                    refine sk1 (v := ?_) 8 76 #[true, true, true, true, true, true, true, true, true, false, false, false, false] rfl rfl (by kernel_rfl) (by kernel_rfl) (by kernel_rfl) (by kernel_rfl) (by kernel_rfl) (by kernel_rfl) (fun _ _ _ h => h) (by kernel_rfl) (by rfl) ?hy hHeld.out ?_
                    case hy => rintro W ⟨s1, s2⟩; first | (go_simp; done) | (go_simp; with_reducible rfl)
                    simp only [List.setIfInBounds_toArray, List.set_cons_zero, List.set_cons_succ]
                    refine sk0 (v := ?_) 9 77 #[true, true, true, true, true, true, true, true, true, true, false, false, false] rfl rfl (by kernel_rfl) (by kernel_rfl) (by kernel_rfl) (by kernel_rfl) (fun _ _ _ h => h) (by kernel_rfl) (by rfl) ?hy (fun _ => hHeld.out) ?_
                    case hy => intro W; first | (go_simp; done) | (go_simp; with_reducible rfl)
                    simp only [List.setIfInBounds_toArray, List.set_cons_zero, List.set_cons_succ]
                    refine sk0 (v := ?_) 10 78 #[true, true, true, true, true, true, true, true, true, true, true, false, false] rfl rfl (by kernel_rfl) (by kernel_rfl) (by kernel_rfl) (by kernel_rfl) (fun _ _ _ h => h) (by kernel_rfl) (by rfl) ?hy (fun _ => hHeld.out) ?_
                    case hy => intro W; first | (go_simp; done) | (go_simp; with_reducible rfl)
                    simp only [List.setIfInBounds_toArray, List.set_cons_zero, List.set_cons_succ]
                    refine sk0 (v := ?_) 11 79 #[true, true, true, true, true, true, true, true, true, true, true, true, false] rfl rfl (by kernel_rfl) (by kernel_rfl) (by kernel_rfl) (by kernel_rfl) (fun _ _ _ h => h) (by kernel_rfl) (by rfl) ?hy (fun _ => hHeld.out) ?_
                    case hy => intro W; first | (go_simp; done) | (go_simp; with_reducible rfl)
                    simp only [List.setIfInBounds_toArray, List.set_cons_zero, List.set_cons_succ]
                    have fz0 := HFZ.out
                    have cx0 := hHeld.out.1
                    refine s_ready 12 #[true, true, true, true, true, true, true, true, true, true, true, true, true] rfl (by kernel_rfl) (by kernel_rfl) (by rfl) (fun K hK => ?_)
                    go_simp
                    refine hK.out _ _ (fun h => absurd h (by decide)) ?_
                    clear hK K
                    refine s_done (by kernel_rfl) ?_ _
                    clear hw5 cx0 fz0
                    go_wp2_with fail
                    go_roundw
                    case rel => exact ⟨k + 1, out2, some ⟨P, 0, none⟩, lc, hkn, iv_succ wk, by rw [HOS.out], HPI4, hide (by rw [HOS.out]; exact HP5.out)⟩
                    case measure => exact meas_j wk hkn
        · have e : k = p.l.length := by omega
          have hd1 : decide ((k : Int) < (p.l.length : Int)) = false := by rw [decide_eq_false_iff_not]; omega
          have hd1' : decide (k < p.l.length) = false := decide_eq_false hkn
          have HPI4 : Hid (PI (Fi T (i + 1)) out) := hide (by rw [Fi_succ hp, ← Fk_all (Fi T i) p.l, ← e]; exact HPI.out)
          clear HPI e
          go_wp2_with fail
          go_roundw
          case rel => exact ⟨i + 1, out, lo, lc, hin, iv_succ wi, rfl, HPI4, HPS⟩
          case measure => exact meas_j wi hin
    · have e : i = T.length := by omega
      have hd1 : decide ((i : Int) < (T.length : Int)) = false := by rw [decide_eq_false_iff_not]; omega
      have hd1' : decide (i < T.length) = false := decide_eq_false hin
      have HPI4 : Hid (PI (Fa T) out) := hide (by rw [← Fi_all, ← e]; exact HPI.out)
      clear HPI e
      by_cases h0 : out.length = 0
      · have HPO := hide (HPI4.out.is0 h0)
        have e0 : ((out.length : Int) == 0) = true := by rw [beq_iff_eq]; omega
        clear h0
        go_wp2_with fail
        go_ret2
        exact ⟨.slice none 0 0, by rw [HPO.out]; rfl, by rw [HPO.out]; exact LG.OM.nil _ _, HPS.out.lo⟩
      · by_cases h4 : 4 < out.length
        · have HPO := hide (HPI4.out.is4 h0 h4)
          have e0 : ((out.length : Int) == 0) = false := by rw [beq_eq_false_iff_ne]; omega
          have e4 : decide ((4 : Int) < (out.length : Int)) = true := by rw [decide_eq_true_eq]; omega
          clear h0 h4
          go_wp2_with fail
          go_ret2
          exact ⟨.slice none 0 0, by rw [HPO.out]; rfl, by rw [HPO.out]; exact LG.OM.nil _ _, HPS.out.lo⟩
        · have HPO := hide (HPI4.out.is h0 h4)
          have e0 : ((out.length : Int) == 0) = false := by rw [beq_eq_false_iff_ne]; omega
          have e4 : decide ((4 : Int) < (out.length : Int)) = false := by rw [decide_eq_false_iff_not]; omega
          clear h0 h4
          go_wp2_with fail
          go_ret2
          exact ⟨.slice lo out.length lc, by rw [HPO.out]; rfl, by rw [HPO.out]; exact HPS.out.om, HPS.out.lo⟩
end Go.Proofs.YtfhimhjeilnkaaaDoor
