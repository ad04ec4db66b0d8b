/-
  My own text: layer 23: the law LinksPool.
-/
import Derived.Test.YtfhimhjeilnkaaaDoorLP4
namespace Go.Proofs.YtfhimhjeilnkaaaDoor
open Go.RowKit

theorem Sp.low {K B : Nat} {av : Nat → Option Addr} {n c : Nat → Nat} {w w' : World} (h : Sp K av n c w w') (hB : B ≤ w.heap.size) (ho : ∀ k g, k < K → (Value.slice (av k) (n k) (c k)).ownBlock = some g → B ≤ g) : Below B w w' :=
  ⟨h.os, h.tape, h.output, h.size, fun b hb => h.block b (by omega) (fun k hk e => by have := ho k b hk e; omega)⟩
theorem wr_of {x : Int} (h1 : -9223372036854775808 ≤ x) (h2 : x ≤ 9223372036854775807) : wrap64 x = x := by unfold wrap64; omega
theorem al_of {A m : Nat} (h1 : A ≤ 100000) (h2 : m ≤ 3518437208800) : A + 1 + m ≤ 3518437308801 := by omega
set_option maxRecDepth 100000 in
set_option maxHeartbeats 4000000 in
theorem linksPool_law (v : Value) (T : List LR) (w : World) (hE : ErrType w) (hv : LL w v T) (hT : T.length ≤ 8796093022000) (hw : ∀ p ∈ T, p.l.length ≤ 3518437208800 ∧ ∀ x ∈ p.l, WOK x) :
    Calls Tryd.prog 3 #[v] w fun e w' => e = .returned (.bool true) ∧ Below w.heap.size w w' := by
  have HLV := hide hv
  have HEE := hide hE
  have HT := hide hT
  have HW := hide hw
  obtain ⟨va, vcap, rfl, hvc, hr⟩ := hv.row
  have HR := hide hr
  clear hr hv hE hT hw
  go_enter Tryd.func3, Tryd.ntmps3
  go_wp2_with fail
  go_loopw [4, 3] (fun iv av wr => ∃ (i A : Nat), i ≤ T.length ∧ iv = .int .i64 (i : Int) ∧ av = .int .i64 (A : Int) ∧ Hid (A = i + (Fi T i).length) ∧ Hid (A ≤ 3518437308801) ∧ w = wr) (fun iv _ _ => T.length - (intOf iv).toNat)
  case atStart => exact ⟨0, 0, Nat.zero_le _, rfl, rfl, hide rfl, hide (by omega), rfl⟩
  case round =>
    obtain ⟨i, A, hile, rfl, rfl, HA, HAL, rfl⟩ := hrel
    by_cases hin : i < T.length
    · have hd1 : decide ((i : Int) < (T.length : Int)) = true := by rw [decide_eq_true_eq]; omega
      have hd1' : decide (i < T.length) = true := decide_eq_true hin
      by_cases hA : A ≤ 100000
      · have hd2 : decide ((A : Int) ≤ 100000) = true := by rw [decide_eq_true_eq]; omega
        have hd2' : decide (A ≤ 100000) = true := decide_eq_true hA
        obtain ⟨p, hp⟩ : ∃ p, T[i]? = some p := ⟨_, List.getElem?_eq_getElem hin⟩
        obtain ⟨b, off, rfl, hgl, hc⟩ := HR.out.resolve_left (fun h => by rw [h] at hin; simp at hin)
        have z0 := hc i _ hp
        have hpv : p.v = .slice p.a p.l.length p.c := rfl
        rw [hpv] at z0
        obtain ⟨hpl, _⟩ := HW.out p (List.mem_of_getElem? hp)
        have k0 : (0 : Int) ≤ (i : Int) := by omega
        have k1 : (i : Int) < (T.length : Int) := by omega
        have wi : wrap64 ((i : Int) + 1) = (i : Int) + 1 := wr_of (by omega) (by have := HT.out; omega)
        obtain ⟨m, hm⟩ : ∃ m, p.l.length = m := ⟨_, rfl⟩
        rw [hm] at z0 hpl
        have wa1 : wrap64 ((A : Int) + 1) = (A : Int) + 1 := wr_of (by omega) (by omega)
        have wa2 : wrap64 ((A : Int) + 1 + (m : Int)) = (A : Int) + 1 + (m : Int) := wr_of (by omega) (by omega)
        have HA2 : Hid (A + 1 + m = i + 1 + (Fi T (i + 1)).length) := hide (by rw [Fi_succ hp, List.length_append, hm, HA.out]; omega)
        have HAL2 : Hid (A + 1 + m ≤ 3518437308801) := hide (al_of hA hpl)
        clear hc HA HAL hA hm
        go_wp2_with fail
        go_roundw
        case rel => exact ⟨i + 1, A + 1 + m, hin, iv_succ wi, by rw [wa2]; simp, HA2, HAL2, by first | rfl | trivial⟩
        case measure => exact meas_j wi hin
      · have hd2 : decide ((A : Int) ≤ 100000) = false := by rw [decide_eq_false_iff_not]; omega
        have hd2' : decide (A ≤ 100000) = false := decide_eq_false hA
        have hd3 : decide ((100000 : Int) < (A : Int)) = true := by rw [decide_eq_true_eq]; omega
        clear hA HA HAL
        go_wp2_with fail
        refine (works_any _).mono ?_
        rintro e w1 ⟨rfl, hb⟩
        have HB := hide hb
        clear hb
        go_wp2_with fail
        go_ret
        exact ⟨rfl, HB.out⟩
    · have hd1 : decide ((i : Int) < (T.length : Int)) = false := by rw [decide_eq_false_iff_not]; omega
      have hd1' : decide (i < T.length) = false := decide_eq_false hin
      have e : i = T.length := by omega
      have hAe : A = T.length + (Fa T).length := by rw [HA.out, e, Fi_all]
      by_cases hA : 100000 < A
      · have hd3 : decide ((100000 : Int) < (A : Int)) = true := by rw [decide_eq_true_eq]; omega
        clear hA hAe e HA HAL hin
        go_wp2_with fail
        refine (works_any _).mono ?_
        rintro e w1 ⟨rfl, hb⟩
        have HB := hide hb
        clear hb
        go_wp2_with fail
        go_ret
        exact ⟨rfl, HB.out⟩
      · have hd3 : decide ((100000 : Int) < (A : Int)) = false := by rw [decide_eq_false_iff_not]; omega
        have HT1 : Hid (T.length ≤ 100000) := hide (by omega)
        have HF1 : Hid ((Fa T).length ≤ 100000) := hide (by omega)
        have HWA : Hid (∀ x ∈ Fa T, WOK x) := hide (fun x hx => by
          unfold Fa at hx
          rw [List.mem_flatten] at hx
          obtain ⟨l, hl, hxl⟩ := hx
          obtain ⟨p, hp, rfl⟩ := List.mem_map.1 hl
          exact (HW.out p hp).2 x hxl)
        have HD := hide (rPool_any _ T w HLV.out HWA.out HF1.out HT1.out)
        obtain ⟨R, hR⟩ : ∃ R, poolF (Fa T) = R := ⟨_, rfl⟩
        have HRN := hide (poolF_rng (Fa T))
        have HRE := hide hR
        rw [hR] at HD HRN
        clear hA hAe e HA HAL hin hR
        go_wp2_with fail
        refine HD.out.mono ?_
        rintro e w1 ⟨vw, rfl, hO, hb1⟩
        have HO1 := hide hO
        have HB1 := hide hb1
        clear hO hb1 HD
        go_wp2_with fail
        obtain ⟨i0, hi0, hz0, hz1, hz2⟩ := info_parts LG.Tryd.infoMS
        go_loopw [8, 7] (fun iv lv wr => ∃ (i : Nat) (U : List LR) (a : Option Addr) (c : Nat), i ≤ T.length ∧ iv = .int .i64 (i : Int) ∧ lv = .slice a U.length c ∧ Hid (IR w1 T i U (.slice a U.length c) wr)) (fun iv _ _ => T.length - (intOf iv).toNat)
        case atStart => exact ⟨0, [], none, 0, Nat.zero_le _, rfl, rfl, hide ⟨World.ownsRow_nil w1 _ _ _, rfl, fun j q p h => by simp at h, Below.refl _ _⟩⟩
        case round =>
          clear hile
          obtain ⟨i, U, ua, uc, hile, rfl, rfl, HIR⟩ := hrel
          by_cases hin : i < T.length
          · have hd1 : decide ((i : Int) < (T.length : Int)) = true := by rw [decide_eq_true_eq]; omega
            have hd1' : decide (i < T.length) = true := decide_eq_true hin
            obtain ⟨p, hp⟩ : ∃ p, T[i]? = some p := ⟨_, List.getElem?_eq_getElem hin⟩
            obtain ⟨b, off, rfl, hgl, hc⟩ := HR.out.resolve_left (fun h => by rw [h] at hin; simp at hin)
            have hlw : Below w.heap.size w wr := HB1.out.trans (HIR.out.lo.mono HB1.out.size)
            have z0 := (hlw.cell (p := ⟨b, off + i, none⟩) hgl).trans (hc i _ hp)
            have hpv : p.v = .slice p.a p.l.length p.c := rfl
            rw [hpv] at z0
            have k0 : (0 : Int) ≤ (i : Int) := by omega
            have k1 : (i : Int) < (T.length : Int) := by omega
            have wi : wrap64 ((i : Int) + 1) = (i : Int) + 1 := wr_of (by omega) (by have := HT.out; omega)
            have HLE := hide (LG.lentMarks_any p.v p.l wr ((HLV.out.each p (List.mem_of_getElem? hp)).later hlw) (HW.out p (List.mem_of_getElem? hp)).1)
            rw [hpv] at HLE
            have HUL : Hid (U.length ≤ 100000) := hide (by have := HIR.out.len; have := HT1.out; omega)
            clear hc hlw
            go_wp2_with fail
            refine HLE.out.mono ?_
            rintro e w2 ⟨g, cap, rfl, hLM, hb2⟩
            have HIR2 := hide (HIR.out.later hb2)
            have HLM := hide (lent_down hLM HIR.out.lo.size)
            have hown := HIR2.out.own
            have HSZ := hide HIR2.out.lo.size
            clear hLM hb2 HLE HIR z0
            go_wp2_with (first
              | (at_builtin; refine wpList_append_own _ rfl _ _ 22 rfl w1.heap.size 23 i0 (.slice none 0 0) 1 24 Tryd.underlying22 hi0 hz0 hz1 hz2 rfl (by decide) _ _ _ rfl (hown.alloc _) ⟨_, 0, none⟩ 1 1 [.slice (some ⟨g, 0, none⟩) p.l.length cap] rfl rfl ?e1 ?e2 ?e3 ?e4 ?e5 ?_)
              | fail)
            case e1 => intro j u hj; match j, hj with | 0, hj => simp at hj; subst hj; simp [Addr.add]
            case e2 => intro u hu; simp at hu; subst hu; rfl
            case e3 => have := HUL.out; unfold maxLen; omega
            case e4 => have := HUL.out; omega
            case e5 => have := HSZ.out; simp; omega
            intro v' w3 hown' hgrow _
            have HIR3 := hide ((HIR2.out.later ((Below.refl w2.heap.size w2).alloc (Nat.le_refl _) (.cells #[.slice (some ⟨g, 0, none⟩) p.l.length cap] 23))).app hp (HLM.out.later ((Below.refl w2.heap.size w2).alloc (Nat.le_refl _) _)) hown' hgrow)
            obtain ⟨U2, hU2⟩ : ∃ U2, U ++ [(⟨p.l, some ⟨g, 0, none⟩, cap⟩ : LR)] = U2 := ⟨_, rfl⟩
            rw [hU2] at HIR3
            have HU2 : Hid (U.length + 1 = U2.length) := hide (by rw [← hU2]; simp)
            rw [HU2.out] at hown'
            obtain ⟨a3, c3, hv3⟩ : ∃ a c, v' = .slice a U2.length c := by
              rcases hown'.2 with ⟨h1, h0⟩ | ⟨g', cap', cur, h1, _⟩
              · exact ⟨none, 0, by rw [h1, ← h0]⟩
              · exact ⟨_, _, h1⟩
            subst hv3
            clear hown' hgrow hown hU2 HIR2 HLM HSZ
            go_wp2_with fail
            go_roundw
            case rel => exact ⟨i + 1, U2, a3, c3, hin, iv_succ wi, rfl, HIR3⟩
            case measure => exact meas_j wi hin
          · have e : i = T.length := by omega
            have hd1 : decide ((i : Int) < (T.length : Int)) = false := by rw [decide_eq_false_iff_not]; omega
            have hd1' : decide (i < T.length) = false := decide_eq_false hin
            have HIR3 : Hid (IR w1 T T.length U (.slice ua U.length uc) wr) := hide (by rw [← e]; exact HIR.out)
            clear HIR e
            have HLO3 : Hid (Below w.heap.size w wr) := hide (HB1.out.trans (HIR3.out.lo.mono HB1.out.size))
            have HO3 := hide (HO1.out.later (HIR3.out.lo))
            obtain ⟨hLL, hFU⟩ := HIR3.out.ll
            have HA : Hid (∀ W, Below wr.heap.size wr W → Calls Tryd.prog 7 #[.slice ua U.length uc] W fun e W' => ∃ v', e = .returned (.tuple #[v', errV R.2]) ∧ LG.OM W' W.heap.size v' R.1 ∧ Below W.heap.size W W') := hide (fun W hW => by
              have := Pool_any _ U W (hLL.later hW) (by rw [hFU]; exact HWA.out) (by rw [hFU]; exact HF1.out) (by have := HIR3.out.len; have := HT1.out; omega)
              rw [hFU, HRE.out] at this
              exact this)
            clear hLL hFU HO1 HB1
            go_wp2_with fail
            refine (HA.out _ (Below.refl _ _)).mono ?_
            rintro e w4 ⟨va, rfl, hO, hb4⟩
            have HB4 := hide hb4
            have HOA := hide hO
            clear hO hb4
            go_wp2_with fail
            refine (HA.out _ HB4.out).mono ?_
            rintro e w5 ⟨vb, rfl, hO, hb5⟩
            have HB5 := hide (HB4.out.trans (hb5.mono HB4.out.size))
            have HOA5 := hide (HOA.out.later hb5)
            have HOB5 := hide hO
            have HSZ : Hid (∀ g, va.ownBlock = some g → g < w4.heap.size) := hide (fun g hg => (World.ownsRow.lt HOA.out g hg).2)
            have HS4 := hide HB4.out.size
            have HE5 : Hid (∀ W, Below w5.heap.size w5 W → ErrType W) := hide (fun W h => HEE.out.below ((HLO3.out.trans (HB5.out.mono HLO3.out.size)).trans (h.mono (Nat.le_trans HLO3.out.size HB5.out.size))))
            have HO5 := hide (HO3.out.later HB5.out)
            clear hO hb5 HA HOA HB4 HO3
            obtain ⟨G, r, hGr⟩ : ∃ G r, R = (G, r) := ⟨R.1, R.2, rfl⟩
            subst hGr
            dsimp only at HRN HE5 HO5 HOA5 HOB5
            obtain ⟨ev, hev⟩ : ∃ ev, errV r = ev := ⟨_, rfl⟩
            have HTO := hide (fun W (h : Below w5.heap.size w5 W) => plain_errV r r W HRN.out.1 HRN.out.2.1 (HE5.out W h))
            rw [hev, show (r == r) = true by simp] at HTO
            dsimp only
            rw [hev]
            clear hev
            go_wp2_with fail
            refine (HTO.out _ (Below.refl _ _)).mono ?_
            rintro e w6 ⟨rfl, hb6⟩
            have HB6 := hide hb6
            clear hb6
            go_wp2_with fail
            refine (HTO.out _ HB6.out).mono ?_
            rintro e w7 ⟨rfl, hb7⟩
            have HB7 := hide (HB6.out.trans (hb7.mono HB6.out.size))
            have HO7 := hide (HO5.out.later HB7.out)
            have HA7 := hide (HOA5.out.later HB7.out)
            have HC7 := hide (HOB5.out.later HB7.out)
            have HS1 := hide (LG.sameM_any va vw G G w7 HA7.out.rm HO7.out.rm (by have := HRN.out.2.2; omega) (by have := HRN.out.2.2; omega))
            rw [decide_eq_true rfl] at HS1
            clear hb7 HTO HO5 HOA5 HOB5 HB6
            go_wp2_with fail
            refine HS1.out.mono ?_
            rintro e w8 ⟨rfl, hb8⟩
            have HB8 := hide (HB7.out.trans (hb8.mono HB7.out.size))
            have HO8 := hide (HO7.out.later hb8)
            have HA8 := hide (HA7.out.later hb8)
            have HC8 := hide (HC7.out.later hb8)
            have HS2 := hide (LG.sameM_any vb vw G G w8 HC8.out.rm HO8.out.rm (by have := HRN.out.2.2; omega) (by have := HRN.out.2.2; omega))
            rw [decide_eq_true rfl] at HS2
            clear hb8 HS1 HO7 HA7 HC7 HB7
            go_wp2_with fail
            refine HS2.out.mono ?_
            rintro e w9 ⟨rfl, hb9⟩
            have HB9 := hide (HB8.out.trans (hb9.mono HB8.out.size))
            have HA9 := hide (HA8.out.later hb9)
            have HC9 := hide (HC8.out.later hb9)
            clear hb9 HS2 HO8 HA8 HC8 HB8
            go_wp2_with fail
            refine (works_any _).mono ?_
            rintro e w10 ⟨rfl, hb10⟩
            have HB10 := hide (HB9.out.trans (hb10.mono HB9.out.size))
            have HA10 := hide (HA9.out.later hb10)
            have HC10 := hide (HC9.out.later hb10)
            clear hb10 HA9 HC9 HB9
            obtain ⟨aa, ca, hva⟩ := LG.OM.slice HA10.out
            obtain ⟨ab, cb, hvb⟩ := LG.OM.slice HC10.out
            obtain ⟨m, hm⟩ : ∃ m, G.length = m := ⟨_, rfl⟩
            have HM : Hid (m ≤ 4) := hide (by rw [← hm]; exact HRN.out.2.2)
            rw [hm] at hva hvb
            subst hva hvb
            have hCB : LG.OM w10 wr.heap.size (.slice ab m cb) G := LG.OM.base HC10.out (fun g hg => by have := (World.ownsRow.lt HC10.out g hg).1; have := HS4.out; omega)
            have hAB := two_allL HA10.out hCB (fun x h1 h2 => by have := HSZ.out x h1; have := (World.ownsRow.lt HC10.out x h2).1; omega)
            have HOW : Hid (∀ k g, k < 2 → (Value.slice (if k = 0 then aa else ab) (if k = 0 then m else m) (if k = 0 then ca else cb)).ownBlock = some g → wr.heap.size ≤ g) := hide (fun k g hk hg => (World.ownsRow.lt (hAB.own k hk) g hg).1)
            have HAP := hide (LG.apartMarks_sp wr.heap.size w10.heap.size 2 2 _ _ _ _ _ hAB (fun k => by split <;> (have := HM.out; omega)) (by decide) (Nat.le_refl _) (by have := HB5.out.size; have := HB10.out.size; simp; omega))
            have HBA : Hid (Below wr.heap.size wr (w10.alloc (.cells #[.slice aa m ca, .slice ab m cb] 23))) := hide ((HB5.out.trans (HB10.out.mono HB5.out.size)).alloc (Nat.le_trans HB5.out.size HB10.out.size) _)
            clear HA10 HC10 hm HB10 hCB hAB
            go_wp2_with fail
            refine HAP.out.mono ?_
            rintro e w11 ⟨rfl, hsp⟩
            have hb11 := hsp.low HBA.out.size HOW.out
            have HB11 : Hid (Below wr.heap.size wr w11) := hide (HBA.out.trans hb11)
            clear hb11 hsp HAP HBA HOW
            go_wp2_with fail
            obtain ⟨W3, hW3⟩ : ∃ W3, W3 = wr := ⟨_, rfl⟩
            rw [← hW3] at HB11 HIR3 HLO3
            clear hW3
            go_loopw [14] (fun iv W => ∃ (i : Nat), i ≤ T.length ∧ iv = .int .i64 (i : Int) ∧ Hid (Below W3.heap.size W3 W)) (fun iv _ => T.length - (intOf iv).toNat)
            case atStart => exact ⟨0, Nat.zero_le _, rfl, HB11⟩
            case round =>
              clear hile HB11
              obtain ⟨i, hile, rfl, HBI⟩ := hrel
              by_cases hin : i < T.length
              · have hd1 : decide ((i : Int) < (T.length : Int)) = true := by rw [decide_eq_true_eq]; omega
                have hd1' : decide (i < T.length) = true := decide_eq_true hin
                obtain ⟨p, hp⟩ : ∃ p, T[i]? = some p := ⟨_, List.getElem?_eq_getElem hin⟩
                obtain ⟨q, hq⟩ : ∃ q, U[i]? = some q := ⟨_, List.getElem?_eq_getElem (by have := HIR3.out.len; omega)⟩
                obtain ⟨hql, g, hqa, hqL⟩ := HIR3.out.lent i q p hq hp
                have hown := HIR3.out.own
                have hUl := HIR3.out.len
                obtain ⟨P, cap, e, hP1, hP2⟩ := World.ownsRow.form hown (by omega)
                injection e with e1 _ e3
                subst e1 e3
                have cU : W3.cell? ⟨P, i, none⟩ = some (.slice (some ⟨g, 0, none⟩) p.l.length q.c) := by
                  rw [World.ownsRow.cellAt hown i (by omega), List.getElem?_map, hq]
                  show some (Value.slice q.a q.l.length q.c) = _
                  rw [hqa, hql]
                obtain ⟨b, off, rfl, hgl, hc⟩ := HR.out.resolve_left (fun h => by rw [h] at hin; simp at hin)
                have cT := (HLO3.out.cell (p := ⟨b, off + i, none⟩) hgl).trans (hc i _ hp)
                have hpv : p.v = .slice p.a p.l.length p.c := rfl
                rw [hpv] at cT
                have hbW : b < W3.heap.size := Nat.lt_of_lt_of_le hgl HLO3.out.size
                have HK : Hid (∀ W, Below wr.heap.size wr W → Calls Tryd.prog 11 #[.slice (some ⟨g, 0, none⟩) p.l.length q.c, .slice p.a p.l.length p.c] W fun e w' => e = .returned (.bool true) ∧ Below W.heap.size W w') := hide (fun W hW => by
                  have hbw := HBI.out.trans (hW.mono HBI.out.size)
                  exact LG.keptMarks_any p.v p.l _ g q.c W ((HLV.out.each p (List.mem_of_getElem? hp)).later (HLO3.out.trans (hbw.mono HLO3.out.size))) (hqL.later hbw) (HW.out p (List.mem_of_getElem? hp)).1)
                have z0 : ∀ x : Gr wr, x.1.cell? ⟨P, i, none⟩ = some (.slice (some ⟨g, 0, none⟩) p.l.length q.c) := fun x => ((HBI.out.trans (x.2.mono HBI.out.size)).cell (p := ⟨P, i, none⟩) hP2).trans cU
                have z1 : ∀ x : Gr wr, x.1.cell? ⟨b, off + i, none⟩ = some (.slice p.a p.l.length p.c) := fun x => ((HBI.out.trans (x.2.mono HBI.out.size)).cell (p := ⟨b, off + i, none⟩) hbW).trans cT
                have k0 : (0 : Int) ≤ (i : Int) := by omega
                have k1 : (i : Int) < (T.length : Int) := by omega
                have u1 : (i : Int) < (U.length : Int) := by omega
                have wi : wrap64 ((i : Int) + 1) = (i : Int) + 1 := wr_of (by omega) (by have := HT.out; omega)
                have HX0 := hide ((Below.refl wr.heap.size wr).drew)
                have HBI2 := hide (fun (x : Gr wr) => HBI.out.trans (x.2.mono HBI.out.size))
                haveI : Nonempty (Gr wr) := ⟨⟨_, HX0.out⟩⟩
                obtain ⟨n1, hn1⟩ : ∃ n1, p.l.length = n1 := ⟨_, rfl⟩
                obtain ⟨a1, ha1⟩ : ∃ a1, p.a = a1 := ⟨_, rfl⟩
                obtain ⟨m1, hm1⟩ : ∃ m1, p.c = m1 := ⟨_, rfl⟩
                obtain ⟨m2, hm2⟩ : ∃ m2, q.c = m2 := ⟨_, rfl⟩
                rw [hn1, ha1, hm1, hm2] at HK
                rw [hn1, hm2] at z0
                rw [hn1, ha1, hm1] at z1
                clear hn1 ha1 hm1 hm2 hc cT cU hp hq hql hqa hqL hown hUl hpv hP1 hP2 hgl hbW
                go_wp2_with fail
                refine region_qtails (C := fun w' => ∃ x : Gr wr, w' = x.1) 9 0 rfl (by kernel_rfl) (by kernel_rfl) ⟨⟨_, HX0.out⟩, rfl⟩ ?_
                simp only [List.take_succ_cons, List.take_zero, List.drop_succ_cons, List.drop_zero]
                repeat (first
                  | go_big_quiet_skip
                  | (go_big_quiet_want; (go_big_quiet_op; first
                      | go_big_quiet_on
                      | (apply Exists.intro; refine ⟨fun x => ?_, ?_⟩; (go_at_call 11; exact x.call (HK.out x.1 x.2)); go_big_quiet_on))))
                refine wpQuiet_nil ?_
                rintro w5' ⟨x5, rfl⟩
                have HB5' := hide (HBI2.out x5)
                obtain ⟨w6, hx⟩ := x5
                dsimp only at HB5' ⊢
                clear z0 z1 HK HBI2 hx HX0
                go_wp2_with fail
                go_roundw
                case rel => exact ⟨i + 1, hin, iv_succ wi, HB5'⟩
                case measure => exact meas_j wi hin
              · have hd1 : decide ((i : Int) < (T.length : Int)) = false := by rw [decide_eq_false_iff_not]; omega
                have hd1' : decide (i < T.length) = false := decide_eq_false hin
                have HBF : Hid (Below w.heap.size w wr) := hide (HLO3.out.trans (HBI.out.mono HLO3.out.size))
                go_wp2_with fail
                go_ret
                exact ⟨rfl, HBF.out⟩
end Go.Proofs.YtfhimhjeilnkaaaDoor
