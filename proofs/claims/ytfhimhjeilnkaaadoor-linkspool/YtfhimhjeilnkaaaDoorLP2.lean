/-
  My own text: layer 23: Pool by the program.
-/
import Derived.Test.YtfhimhjeilnkaaaDoorLP1
import Derived.Test.YtfhimhjeilnkaaaDoorErrV
import Derived.Test.YtfhimhjeilnkaaaDoorLO3
namespace Go.Proofs.YtfhimhjeilnkaaaDoor
open Go.RowKit

set_option maxRecDepth 100000 in
set_option maxHeartbeats 4000000 in
theorem Pool_any (v : Value) (T : List LR) (w : World) (hv : LL w v T) (hw : ∀ x ∈ Fa T, WOK x) (hl : (Fa T).length ≤ 100000) (hT : T.length ≤ 100000) :
    Calls Tryd.prog 7 #[v] w fun e w' => ∃ v', e = .returned (.tuple #[v', errV (poolF (Fa T)).2]) ∧ LG.OM w' w.heap.size v' (poolF (Fa T)).1 ∧ Below w.heap.size w w' := by
  obtain ⟨va, vcap, rfl, hvc, hr⟩ := hv.row
  have HR := hide hr
  have HE := hide hv.each
  have HW := hide hw
  have HL := hide hl
  have HT := hide hT
  clear hr hw hl hT hv
  have mm : ∀ (W : World), (Instr.makeMap 44 none).run Tryd.prog W = .ok (.map (some W.heap.size)) (W.alloc (.map #[] 0)) := fun W => run_makeMap _ W
  go_enter Tryd.func7, Tryd.ntmps7
  go_wp2_with fail
  go_loopw [16, 4] (fun iv lv wr => ∃ (i : Nat) (out : List LG.El) (lo : Option Addr) (lc : Nat), i ≤ T.length ∧ iv = .int .i64 (i : Int) ∧ lv = .slice lo out.length lc ∧ Hid (PI (Fi T i) out) ∧ Hid (PS w (w.heap.size + 1) w.heap.size out (.slice lo out.length lc) wr)) (fun iv _ _ => T.length - (intOf iv).toNat)
  case atStart => exact ⟨0, [], none, 0, Nat.zero_le _, rfl, rfl, hide PI.nil, hide ⟨LG.OM.nil _ _, MP.made w, (Below.refl _ _).alloc (Nat.le_refl _) _, by simp, Nat.le_refl _, by omega⟩⟩
  case round =>
    obtain ⟨i, out, lo, lc, hile, rfl, rfl, HPI, HPS⟩ := hrel
    by_cases hin : i < T.length
    · obtain ⟨p, hp⟩ : ∃ p, T[i]? = some p := ⟨_, List.getElem?_eq_getElem hin⟩
      obtain ⟨b, off, rfl, hgl, hc⟩ := HR.out.resolve_left (fun h => by rw [h] at hin; simp at hin)
      have z0 : wr.cell? ⟨b, off + i, none⟩ = some p.v := (HPS.out.lo.cell (p := ⟨b, _, none⟩) hgl).trans (hc i _ hp)
      have hd1 : decide ((i : Int) < (T.length : Int)) = true := by rw [decide_eq_true_eq]; omega
      have hd1' : decide (i < T.length) = true := decide_eq_true hin
      have k0 : (0 : Int) ≤ (i : Int) := by omega
      have k1 : (i : Int) < (T.length : Int) := by omega
      have wi : wrap64 ((i : Int) + 1) = (i : Int) + 1 := by have := HT.out; unfold wrap64; omega
      obtain ⟨HEP, hpv⟩ : Hid (LG.RM w p.v p.l) ∧ p.v = .slice p.a p.l.length p.c := ⟨hide (HE.out p (List.mem_of_getElem? hp)), rfl⟩
      rw [hpv] at z0
      clear hc
      go_wp2_with fail
      have HF0 : Hid (PI (Fi T i ++ p.l.take 0) out) := hide (by rw [List.take_zero, List.append_nil]; exact HPI.out)
      go_loopw [22, 4] (fun kv lv wr => ∃ (k : Nat) (out : List LG.El) (lo : Option Addr) (lc : Nat), k ≤ p.l.length ∧ kv = .int .i64 (k : Int) ∧ lv = .slice lo out.length lc ∧ Hid (PI (Fi T i ++ p.l.take k) out) ∧ Hid (PS w (w.heap.size + 1) w.heap.size out (.slice lo out.length lc) wr)) (fun kv _ _ => p.l.length - (intOf kv).toNat)
      case atStart => exact ⟨0, out, lo, lc, Nat.zero_le _, rfl, rfl, HF0, HPS⟩
      case round =>
        clear HPI HPS HF0 z0
        obtain ⟨k, out, lo, lc, hkle, rfl, rfl, HPI, HPS⟩ := hrel
        by_cases hkn : k < p.l.length
        · obtain ⟨x, hx⟩ : ∃ x, p.l[k]? = some x := ⟨_, List.getElem?_eq_getElem hkn⟩
          have HXW : Hid (WOK x) := hide (HW.out x (by obtain ⟨G, hG⟩ := Fk_split hp hx; rw [hG]; simp))
          have HSP := hide (Fk_split hp hx)
          have HFS := hide (Fk_succ (A := Fi T i) hx)
          have HFL : Hid ((Fi T i ++ p.l.take k).length ≤ 100000) := hide (Nat.le_trans (Fk_len hp) HL.out)
          have hpl : p.l.length ≤ 100000 := Nat.le_trans (len_Fa hp) HL.out
          obtain ⟨pa, pc, hpv2, _, hpr⟩ := HEP.out
          injection hpv2 with hpa _ hpc
          clear hpc
          obtain ⟨b2, off2, hpa2, hgl2, hc2⟩ := hpr.resolve_left (fun h => by rw [h] at hkn; simp at hkn)
          rw [hpa2] at hpa
          have cc := hc2 k x hx
          have lo2 := HPS.out.lo
          have y0 := (lo2.cell (p := ⟨b2, _, none⟩) hgl2).trans cc.1
          have y1 := (lo2.cell (p := ⟨b2, _, none⟩) hgl2).trans cc.2.1
          have y2 := (lo2.cell (p := ⟨b2, _, none⟩) hgl2).trans cc.2.2.1
          have y3 := (lo2.cell (p := ⟨b2, _, none⟩) hgl2).trans cc.2.2.2.1
          have y4 := (lo2.cell (p := ⟨b2, _, none⟩) hgl2).trans cc.2.2.2.2
          obtain ⟨x0, x1, x2, x3, x4⟩ := x
          dsimp only at y0 y1 y2 y3 y4
          have hd1 : decide ((k : Int) < (p.l.length : Int)) = true := by rw [decide_eq_true_eq]; omega
          have hd1' : decide (k < p.l.length) = true := decide_eq_true hkn
          have k0 : (0 : Int) ≤ (k : Int) := by omega
          have k1 : (k : Int) < (p.l.length : Int) := by omega
          have wk : wrap64 ((k : Int) + 1) = (k : Int) + 1 := by unfold wrap64; omega
          clear cc hc2 hpr hpa2 hx lo2
          rw [hpa]
          have hb2 : Below wr.heap.size wr ((wr.alloc (.cells #[.int .i64 x0, .int .i64 x1, .int .i64 x2, .int .i64 x3, .int .i64 x4] 43)).alloc (.cells #[.int .i64 x0, .int .i64 x1, .int .i64 x2, .int .i64 0, .int .i64 x4] 43)) := ((Below.refl _ _).alloc (Nat.le_refl _) _).alloc (by simp) _
          have HPS2 := hide (HPS.out.later hb2)
          have hbx : ((wr.alloc (.cells #[.int .i64 x0, .int .i64 x1, .int .i64 x2, .int .i64 x3, .int .i64 x4] 43)).alloc (.cells #[.int .i64 x0, .int .i64 x1, .int .i64 x2, .int .i64 0, .int .i64 x4] 43)).heap[wr.heap.size]? = some (.cells #[.int .i64 x0, .int .i64 x1, .int .i64 x2, .int .i64 x3, .int .i64 x4] 43 (0, 0)) := (((Below.refl _ _).alloc (Nat.le_refl _) (.cells #[.int .i64 x0, .int .i64 x1, .int .i64 x2, .int .i64 0, .int .i64 x4] 43)).block wr.heap.size (by simp)).trans (alloc_new wr (.cells #[.int .i64 x0, .int .i64 x1, .int .i64 x2, .int .i64 x3, .int .i64 x4] 43))
          have HBX := hide hbx
          obtain ⟨rv, hrv⟩ : ∃ rv, (plM out (wayE (x0, x1, x2, x3, x4))).getD (.int .i64 0) = rv := ⟨_, rfl⟩
          obtain ⟨sv, hsv⟩ : ∃ sv, (plM out (wayE (x0, x1, x2, x3, x4))).isSome = sv := ⟨_, rfl⟩
          have hlk : (Instr.lookup 44 (.map (some w.heap.size)) (.agg #[.int .i64 x0, .int .i64 x1, .int .i64 x2, .int .i64 0, .int .i64 x4]) true).run Tryd.prog ((wr.alloc (.cells #[.int .i64 x0, .int .i64 x1, .int .i64 x2, .int .i64 x3, .int .i64 x4] 43)).alloc (.cells #[.int .i64 x0, .int .i64 x1, .int .i64 x2, .int .i64 0, .int .i64 x4] 43)) = .ok (.tuple #[rv, .bool sv]) ((wr.alloc (.cells #[.int .i64 x0, .int .i64 x1, .int .i64 x2, .int .i64 x3, .int .i64 x4] 43)).alloc (.cells #[.int .i64 x0, .int .i64 x1, .int .i64 x2, .int .i64 0, .int .i64 x4] 43)) := by
            have := pl_look HPS2.out.mp HXW.out.way
            rw [hrv, hsv] at this
            exact this
          clear hb2 hbx
          by_cases hq : x3 < 1
          · have dq : decide (x3 < 1) = true := decide_eq_true hq
            have HPO : Hid (poolF (Fa T) = ([], 16)) := hide (by obtain ⟨G, hG⟩ := HSP.out; rw [hG]; exact HPI.out.low (p := (x0, x1, x2, x3, x4)) hq G)
            clear hq HSP HFS HPI hrv hsv HPS
            go_wp2_with fail
            go_ret2
            exact ⟨.slice none 0 0, by rw [HPO.out]; rfl, by rw [HPO.out]; exact LG.OM.nil _ _, HPS2.out.lo⟩
          · have dq : decide (x3 < 1) = false := decide_eq_false hq
            cases hf : fndK out (wayE (x0, x1, x2, x3, x4)) with
            | none =>
              have er : rv = .int .i64 0 := by rw [← hrv]; unfold plM; rw [hf]; rfl
              have es : sv = false := by rw [← hsv]; unfold plM; rw [hf]; rfl
              subst er es
              have HPI2 := hide (HPI.out.fresh HXW.out hq hf)
              obtain ⟨W3, hrun, hmp3, hg3⟩ := pl_put HPS2.out.mp HXW.out hf
              have hrun' : (Instr.mapUpdate 44 (.map (some w.heap.size)) (.agg #[.int .i64 x0, .int .i64 x1, .int .i64 x2, .int .i64 0, .int .i64 x4]) (.int .i64 (out.length : Int))).run Tryd.prog ((wr.alloc (.cells #[.int .i64 x0, .int .i64 x1, .int .i64 x2, .int .i64 x3, .int .i64 x4] 43)).alloc (.cells #[.int .i64 x0, .int .i64 x1, .int .i64 x2, .int .i64 0, .int .i64 x4] 43)) = .ok () W3 := hrun
              obtain ⟨hom3, hlo3, hsz3⟩ := HPS2.out.put hg3
              have hb3 := (hg3.block wr.heap.size (by simp <;> omega) (fun e => by have := HPS.out.sz; injection e with e; omega)).trans HBX.out
              obtain ⟨c0, c1, c2, c3, c4⟩ := LG.cellsA hb3 rfl
              have HMP := hide hmp3
              have HLO := hide hlo3
              have HSZ := hide hsz3
              have HOL : Hid (out.length ≤ 100000) := hide (Nat.le_trans HPI.out.len HFL.out)
              have HT2 : Hid (LG.mc (out ++ [(x0, x1, x2, x3, x4)]) = LG.mc out ++ [.int .i64 x0, .int .i64 x1, .int .i64 x2, .int .i64 x3, .int .i64 x4]) := hide (by rw [LG.mc_app]; rfl)
              have hown := hom3
              unfold LG.OM at hown
              obtain ⟨i0, hi, hz0, hz1, hz2⟩ := info_parts LG.Tryd.infoMk
              clear hq hf hrv hsv hrun hmp3 hlo3 hsz3 hg3 hb3 hom3 HPI HPS HPS2 HSP
              go_wp2_with (first
                | (at_builtin; refine wpList_append_own_wide _ rfl _ _ 23 rfl (w.heap.size + 1) 43 i0 (.agg #[.int .i64 0, .int .i64 0, .int .i64 0, .int .i64 0, .int .i64 0]) 5 40 Tryd.underlying23 hi hz0 hz1 hz2 rfl (by decide) _ _ _ rfl (hown.alloc _) ⟨_, 0, none⟩ 1 1 [.int .i64 x0, .int .i64 x1, .int .i64 x2, .int .i64 x3, .int .i64 x4] rfl rfl ?d1 ?d2 ?d3 ?d4 ?d5 ?_)
                | fail)
              case d2 => exact ⟨rfl, rfl, rfl, rfl, rfl⟩
              case d3 => have := HOL.out; unfold maxLen; omega
              case d4 => have := HOL.out; omega
              case d5 => have := HSZ.out; omega
              intro v' w4 hown' hgrow _
              have hal := (Below.refl W3.heap.size W3).alloc (Nat.le_refl _) (.cells #[.int .i64 x0, .int .i64 x1, .int .i64 x2, .int .i64 x3, .int .i64 x4] 43)
              have hom4 : LG.OM w4 (w.heap.size + 1) v' (out ++ [(x0, x1, x2, x3, x4)]) := by
                unfold LG.OM
                rw [HT2.out, List.length_append]
                exact hown'
              have hbw : ∀ g, (Value.slice lo out.length lc).ownBlock = some g → w.heap.size + 1 ≤ g := fun g hg => (World.ownsRow.lt hown g hg).1
              obtain ⟨a4, q4, hv4⟩ := LG.OM.slice hom4
              subst hv4
              have HPS4 : Hid (PS w (w.heap.size + 1) w.heap.size (out ++ [(x0, x1, x2, x3, x4)]) (.slice a4 (out ++ [(x0, x1, x2, x3, x4)]).length q4) w4) := hide ⟨hom4, (HMP.out.later hal).kept (hgrow.block w.heap.size (by have := HSZ.out; simp; omega) (fun e => by have := hbw _ e.symm; omega)), (HLO.out.trans (hal.mono HLO.out.size)).grown hgrow (Nat.le_trans HLO.out.size hal.size) (fun g hg => by have := hbw g hg; omega), Nat.le_trans HSZ.out (Nat.le_trans hal.size hgrow.size), Nat.le_refl _, by omega⟩
              have HPI4 : Hid (PI (Fi T i ++ p.l.take (k + 1)) (out ++ [(x0, x1, x2, x3, x4)])) := hide (by rw [HFS.out]; exact HPI2.out)
              obtain ⟨m4, hm4⟩ : ∃ m4, (out ++ [(x0, x1, x2, x3, x4)]).length = m4 := ⟨_, rfl⟩
              rw [hm4] at HPS4 ⊢
              have HM4 := hide hm4
              clear hown' hgrow hown hom4 hbw hal hm4 HT2 HMP HLO HSZ HPI2 HFS
              go_wp2_with fail
              go_roundw
              case rel => exact ⟨k + 1, out ++ [(x0, x1, x2, x3, x4)], a4, q4, hkn, iv_succ wk, by rw [HM4.out], HPI4, hide (by rw [HM4.out]; exact HPS4.out)⟩
              case measure => exact meas_j wk hkn
            | some j =>
              have er : rv = .int .i64 (j : Int) := by rw [← hrv]; unfold plM; rw [hf]; rfl
              have es : sv = true := by rw [← hsv]; unfold plM; rw [hf]; rfl
              subst er es
              obtain ⟨y, hy, hyw⟩ := fndK_some hf
              have hjl : j < out.length := (List.getElem?_eq_some_iff.1 hy).1
              have hom := HPS2.out.om
              unfold LG.OM at hom
              obtain ⟨P, cap, e, hP1, hP2⟩ := World.ownsRow.form hom (by omega)
              injection e with e1 _ e3
              subst e1 e3
              have cy : ((wr.alloc (.cells #[.int .i64 x0, .int .i64 x1, .int .i64 x2, .int .i64 x3, .int .i64 x4] 43)).alloc (.cells #[.int .i64 x0, .int .i64 x1, .int .i64 x2, .int .i64 0, .int .i64 x4] 43)).cell? ⟨P, j * 5 + 3, none⟩ = some (.int .i64 (qE y)) := by
                rw [World.ownsRow.cellAt hom (j * 5 + 3) (by omega)]
                exact (LG.mc_at hy).2.2.2.1
              have hyr := HPI.out.rng j y hy
              obtain ⟨yq, hyq⟩ : ∃ yq, qE y = yq := ⟨_, rfl⟩
              rw [hyq] at cy hyr
              have j0 : (0 : Int) ≤ (j : Int) := by omega
              have j1 : (j : Int) < (out.length : Int) := by omega
              obtain ⟨d, hd⟩ : ∃ d : Int, 9223372036854775807 - yq = d := ⟨_, rfl⟩
              have wd : wrap64 (9223372036854775807 - yq) = d := by unfold wrap64; omega
              have wd2 : IntKind.i64.wrap (9223372036854775807 - yq) = d := by rw [IntKind.wrap_i64]; omega
              by_cases ho : 9223372036854775807 < yq + x3
              · have HPO : Hid (poolF (Fa T) = ([], 9)) := hide (by obtain ⟨G, hG⟩ := HSP.out; rw [hG]; exact HPI.out.over (p := (x0, x1, x2, x3, x4)) hq hf hy (by rw [hyq]; exact ho) G)
                have do1 : decide (d < x3) = true := decide_eq_true (by omega)
                clear hq hf hrv hsv HPI HPS HSP HFS hom hP1 hP2 hy hyw hyq hyr hd ho hjl
                go_wp2_with fail
                go_quiet (fail)
                go_wp2_with fail
                go_ret2
                exact ⟨.slice none 0 0, by rw [HPO.out]; rfl, by rw [HPO.out]; exact LG.OM.nil _ _, below_dN HPS2.out.lo _⟩
              · have HPI2 := hide (HPI.out.more (p := (x0, x1, x2, x3, x4)) hq hf hy (by rw [hyq]; exact ho))
                have do1 : decide (d < x3) = false := decide_eq_false (by omega)
                obtain ⟨t, ht⟩ : ∃ t : Int, yq + x3 = t := ⟨_, rfl⟩
                rw [hyq, show qE (x0, x1, x2, x3, x4) = x3 from rfl, ht] at HPI2
                have HSET := hide (fun V (h : PS w (w.heap.size + 1) w.heap.size out (.slice (some ⟨P, 0, none⟩) out.length lc) V) => h.set hy t)
                have hxr := HXW.out.q
                have hx3 : qE (x0, x1, x2, x3, x4) = x3 := rfl
                rw [hx3] at hxr
                have wt : wrap64 (yq + x3) = t := by unfold wrap64; omega
                have wt2 : IntKind.i64.wrap (yq + x3) = t := by rw [IntKind.wrap_i64]; omega
                have cx := (LG.cellsA HBX.out rfl).2.2.2.1
                have HCX := hide (And.intro cy cx)
                have HPI4 : Hid (PI (Fi T i ++ p.l.take (k + 1)) (out.set j (addE y t))) := hide (by rw [HFS.out]; exact HPI2.out)
                have HOS : Hid ((out.set j (addE y t)).length = out.length) := hide List.length_set
                generalize out.set j (addE y t) = out2 at HSET HPI4 HOS
                clear cx hq hf hrv hsv HPI HPI2 HPS HSP HFS hom hP1 hP2 hy hyw hyq hyr hd ho hjl ht hxr hx3
                go_wp2_with fail
                go_quiet (fail)
                go_wp2_with fail
                obtain ⟨V1, hV1⟩ : ∃ V, ((wr.alloc (.cells #[.int .i64 x0, .int .i64 x1, .int .i64 x2, .int .i64 x3, .int .i64 x4] 43)).alloc (.cells #[.int .i64 x0, .int .i64 x1, .int .i64 x2, .int .i64 0, .int .i64 x4] 43)).drewN nq = V := ⟨_, rfl⟩
                have HP1 : Hid (PS w (w.heap.size + 1) w.heap.size out (.slice (some ⟨P, 0, none⟩) out.length lc) V1) := hide (by rw [← hV1]; exact HPS2.out.drewN nq)
                have HC1 : Hid (V1.cell? ⟨P, j * 5 + 3, none⟩ = some (.int .i64 yq) ∧ V1.cell? ⟨wr.heap.size, 3, none⟩ = some (.int .i64 x3)) := hide (by rw [← hV1]; exact HCX.out)
                rw [hV1]
                obtain ⟨V0, hV0⟩ : ∃ V, World.drew V1 = V := ⟨_, rfl⟩
                have HP0 : Hid (PS w (w.heap.size + 1) w.heap.size out (.slice (some ⟨P, 0, none⟩) out.length lc) V0) := hide (by rw [← hV0]; exact HP1.out.drewN 1)
                have hHeld : Hid (V0.cell? ⟨P, j * 5 + 3, none⟩ = some (.int .i64 yq) ∧ V0.cell? ⟨wr.heap.size, 3, none⟩ = some (.int .i64 x3)) := hide (by rw [← hV0]; exact HC1.out)
                have HFZ : Hid (V0.frozen? ⟨P, j * 5 + 3, none⟩ = false) := hide (World.ownsRow.frozenAt (by have := HP0.out.om; unfold LG.OM at this; exact this) _)
                obtain ⟨w5, hw5⟩ : ∃ z, V0.setCell ⟨P, j * 5 + 3, none⟩ (.int .i64 t) = z := ⟨_, rfl⟩
                have HP5 : Hid (PS w (w.heap.size + 1) w.heap.size out2 (.slice (some ⟨P, 0, none⟩) out2.length lc) w5) := hide (by rw [← hw5, HOS.out]; exact HSET.out V0 HP0.out)
                rw [HOS.out] at HP5
                clear hV1 HP1 HC1 HCX cy HSET HP0 HPS2 hlk HBX wd wd2 do1 dq
                refine s_begins (S := fun W : World => W.cell? ⟨P, j * 5 + 3, none⟩ = some (.int .i64 yq) ∧ W.cell? ⟨wr.heap.size, 3, none⟩ = some (.int .i64 x3)) [10] 11 #[false, false, false, false, false, false, false, false, false, false, false] (by kernel_rfl) (by kernel_rfl) (by kernel_rfl) ?_
                rw [hV0]
                clear hV0
                refine sk0 (v := ?_) 0 34 #[true, false, false, false, false, false, false, false, false, false, false] rfl rfl (by kernel_rfl) (by kernel_rfl) (by kernel_rfl) (by kernel_rfl) (fun _ _ _ h => h) (by kernel_rfl) (by rfl) ?hy (fun _ => hHeld.out) ?_
                case hy => intro W; first | (go_simp; done) | (go_simp; with_reducible rfl)
                simp only [List.setIfInBounds_toArray, List.set_cons_zero, List.set_cons_succ]
                refine sk0 (v := ?_) 1 35 #[true, true, false, false, false, false, false, false, false, false, false] rfl rfl (by kernel_rfl) (by kernel_rfl) (by kernel_rfl) (by kernel_rfl) (fun _ _ _ h => h) (by kernel_rfl) (by rfl) ?hy (fun _ => hHeld.out) ?_
                case hy => intro W; first | (go_simp; done) | (go_simp; with_reducible rfl)
                simp only [List.setIfInBounds_toArray, List.set_cons_zero, List.set_cons_succ]
                refine sk0 (v := ?_) 2 36 #[true, true, true, false, false, false, false, false, false, false, false] rfl rfl (by kernel_rfl) (by kernel_rfl) (by kernel_rfl) (by kernel_rfl) (fun _ _ _ h => h) (by kernel_rfl) (by rfl) ?hy (fun _ => hHeld.out) ?_
                case hy => intro W; first | (go_simp; done) | (go_simp; with_reducible rfl)
                simp only [List.setIfInBounds_toArray, List.set_cons_zero, List.set_cons_succ]
                refine sk0 (v := ?_) 3 37 #[true, true, true, true, false, false, false, false, false, false, false] rfl rfl (by kernel_rfl) (by kernel_rfl) (by kernel_rfl) (by kernel_rfl) (fun _ _ _ h => h) (by kernel_rfl) (by rfl) ?hy (fun _ => hHeld.out) ?_
                case hy => intro W; first | (go_simp; done) | (go_simp; with_reducible rfl)
                simp only [List.setIfInBounds_toArray, List.set_cons_zero, List.set_cons_succ]
                refine sk1 (v := ?_) 4 38 #[true, true, true, true, true, false, false, false, false, false, false] rfl rfl (by kernel_rfl) (by kernel_rfl) (by kernel_rfl) (by kernel_rfl) (by kernel_rfl) (by kernel_rfl) (fun _ _ _ h => h) (by kernel_rfl) (by rfl) ?hy hHeld.out ?_
                case hy => rintro W ⟨s1, s2⟩; first | (go_simp; done) | (go_simp; with_reducible rfl)
                simp only [List.setIfInBounds_toArray, List.set_cons_zero, List.set_cons_succ]
                refine sk0 (v := ?_) 5 39 #[true, true, true, true, true, true, false, false, false, false, false] rfl rfl (by kernel_rfl) (by kernel_rfl) (by kernel_rfl) (by kernel_rfl) (fun _ _ _ h => h) (by kernel_rfl) (by rfl) ?hy (fun _ => hHeld.out) ?_
                case hy => intro W; first | (go_simp; done) | (go_simp; with_reducible rfl)
                simp only [List.setIfInBounds_toArray, List.set_cons_zero, List.set_cons_succ]
                refine sk1 (v := ?_) 6 40 #[true, true, true, true, true, true, true, false, false, false, false] rfl rfl (by kernel_rfl) (by kernel_rfl) (by kernel_rfl) (by kernel_rfl) (by kernel_rfl) (by kernel_rfl) (fun _ _ _ h => h) (by kernel_rfl) (by rfl) ?hy hHeld.out ?_
                case hy => rintro W ⟨s1, s2⟩; first | (go_simp; done) | (go_simp; with_reducible rfl)
                simp only [List.setIfInBounds_toArray, List.set_cons_zero, List.set_cons_succ]
                refine sk0 (v := ?_) 7 41 #[true, true, true, true, true, true, true, true, false, false, false] rfl rfl (by kernel_rfl) (by kernel_rfl) (by kernel_rfl) (by kernel_rfl) (fun _ _ _ h => h) (by kernel_rfl) (by rfl) ?hy (fun _ => hHeld.out) ?_
                case hy => intro W; first | (go_simp; done) | (go_simp; with_reducible rfl)
                simp only [List.setIfInBounds_toArray, List.set_cons_zero, List.set_cons_succ]
                refine sk0 (v := ?_) 8 42 #[true, true, true, true, true, true, true, true, true, false, false] rfl rfl (by kernel_rfl) (by kernel_rfl) (by kernel_rfl) (by kernel_rfl) (fun _ _ _ h => h) (by kernel_rfl) (by rfl) ?hy (fun _ => hHeld.out) ?_
                case hy => intro W; first | (go_simp; done) | (go_simp; with_reducible rfl)
                simp only [List.setIfInBounds_toArray, List.set_cons_zero, List.set_cons_succ]
                refine sk0 (v := ?_) 9 43 #[true, true, true, true, true, true, true, true, true, true, false] rfl rfl (by kernel_rfl) (by kernel_rfl) (by kernel_rfl) (by kernel_rfl) (fun _ _ _ h => h) (by kernel_rfl) (by rfl) ?hy (fun _ => hHeld.out) ?_
                case hy => intro W; first | (go_simp; done) | (go_simp; with_reducible rfl)
                simp only [List.setIfInBounds_toArray, List.set_cons_zero, List.set_cons_succ]
                have fz0 := HFZ.out
                have cx0 := hHeld.out.1
                refine s_ready 10 #[true, true, true, true, true, true, true, true, true, true, true] rfl (by kernel_rfl) (by kernel_rfl) (by rfl) (fun K hK => ?_)
                go_simp
                refine hK.out _ _ (fun h => absurd h (by decide)) ?_
                clear hK K
                refine s_done (by kernel_rfl) ?_ _
                clear hw5 cx0 fz0
                go_wp2_with fail
                go_roundw
                case rel => exact ⟨k + 1, out2, some ⟨P, 0, none⟩, lc, hkn, iv_succ wk, by rw [HOS.out], HPI4, hide (by rw [HOS.out]; exact HP5.out)⟩
                case measure => exact meas_j wk hkn
        · have e : k = p.l.length := by omega
          have hd1 : decide ((k : Int) < (p.l.length : Int)) = false := by rw [decide_eq_false_iff_not]; omega
          have hd1' : decide (k < p.l.length) = false := decide_eq_false hkn
          have HPI4 : Hid (PI (Fi T (i + 1)) out) := hide (by rw [Fi_succ hp, ← Fk_all (Fi T i) p.l, ← e]; exact HPI.out)
          clear HPI e
          go_wp2_with fail
          go_roundw
          case rel => exact ⟨i + 1, out, lo, lc, hin, iv_succ wi, rfl, HPI4, HPS⟩
          case measure => exact meas_j wi hin
    · have e : i = T.length := by omega
      have hd1 : decide ((i : Int) < (T.length : Int)) = false := by rw [decide_eq_false_iff_not]; omega
      have hd1' : decide (i < T.length) = false := decide_eq_false hin
      have HPI4 : Hid (PI (Fa T) out) := hide (by rw [← Fi_all, ← e]; exact HPI.out)
      clear HPI e hd1' 
      by_cases h0 : out.length = 0
      · have HPO := hide (HPI4.out.is0 h0)
        have e0 : ((out.length : Int) == 0) = true := by rw [beq_iff_eq]; omega
        clear h0
        go_wp2_with fail
        go_ret2
        exact ⟨.slice none 0 0, by rw [HPO.out]; rfl, by rw [HPO.out]; exact LG.OM.nil _ _, HPS.out.lo⟩
      · by_cases h4 : 4 < out.length
        · have HPO := hide (HPI4.out.is4 h0 h4)
          have e0 : ((out.length : Int) == 0) = false := by rw [beq_eq_false_iff_ne]; omega
          have e4 : decide ((4 : Int) < (out.length : Int)) = true := by rw [decide_eq_true_eq]; omega
          clear h0 h4
          go_wp2_with fail
          go_ret2
          exact ⟨.slice none 0 0, by rw [HPO.out]; rfl, by rw [HPO.out]; exact LG.OM.nil _ _, HPS.out.lo⟩
        · have HPO := hide (HPI4.out.is h0 h4)
          have e0 : ((out.length : Int) == 0) = false := by rw [beq_eq_false_iff_ne]; omega
          have e4 : decide ((4 : Int) < (out.length : Int)) = false := by rw [decide_eq_false_iff_not]; omega
          clear h0 h4
          go_wp2_with fail
          go_ret2
          exact ⟨.slice lo out.length lc, by rw [HPO.out]; rfl, by rw [HPO.out]; exact LG.OM.base HPS.out.om (fun g hg => by have := (World.ownsRow.lt HPS.out.om g hg).1; omega), HPS.out.lo⟩
end Go.Proofs.YtfhimhjeilnkaaaDoor
