/-
  My own text: LS8, LS9, QIL in one.
-/
import Derived.Test.YtcdhblfefpkjgaaDoorLS7
import Derived.Deep.CutRange
import Derived.Test.YtcdhblfefpkjgaaDoorLO2
import Derived.Test.YtcdhblfefpkjgaaDoorLK1
namespace Go.Proofs.YtcdhblfefpkjgaaDoor
open Go.RowKit

/-- What is asked of the merge of [a, m) and [m, b). -/
def MergeOk (n a m b : Nat) : Prop := ∀ (P pb cap : Nat) (pr : Nat → Int) (L : List Nat) (w : World), NV w P L → SI pr n L → Srt pr L a m → Srt pr L m b → (∀ W, w.grownBy W (some P) → PZ W n pb pr) →
  Calls Tryd.prog 62 #[.slice (some ⟨P, 0, none⟩) n cap, .int .i64 (a : Int), .int .i64 (m : Int), .int .i64 (b : Int), lessV pb] w fun e w' => (∃ u, e = .returned u) ∧ ∃ L', NV w' P L' ∧ Mgd pr n a b L L' ∧ w.grownBy w' (some P)
theorem sT_lt {a m b c : Nat} (hc : (a + b) / 2 = c) (h : c < m) : sT a m b = c + m - b ∧ rT a m b = c := by unfold sT rT; rw [hc, if_pos h, if_pos h]; exact ⟨rfl, rfl⟩
theorem sT_ge {a m b c : Nat} (hc : (a + b) / 2 = c) (h : ¬ c < m) : sT a m b = a ∧ rT a m b = m := by unfold sT rT; rw [hc, if_neg h, if_neg h]; exact ⟨rfl, rfl⟩
theorem wSub {x y z : Nat} (h : z + y = x) (b : x ≤ 20000) : wrap64 ((x : Int) - (y : Int)) = (z : Int) ∧ IntKind.i64.wrap ((x : Int) - (y : Int)) = (z : Int) := ⟨by unfold wrap64; omega, by rw [IntKind.wrap_i64]; omega⟩
theorem wAdd {x y z : Nat} (h : x + y = z) (b : z ≤ 20000) : wrap64 ((x : Int) + (y : Int)) = (z : Int) ∧ IntKind.i64.wrap ((x : Int) + (y : Int)) = (z : Int) := ⟨by unfold wrap64; omega, by rw [IntKind.wrap_i64]; omega⟩
theorem wAdd0 {x y : Nat} (a : x ≤ 4096) (b : y ≤ 4096) : wrap64 ((x : Int) + (y : Int)) = (x : Int) + (y : Int) := by unfold wrap64; omega
theorem wSub1 {x z : Nat} (h : z + 1 = x) (b : x ≤ 20000) : wrap64 ((x : Int) - 1) = (z : Int) ∧ IntKind.i64.wrap ((x : Int) - 1) = (z : Int) := ⟨by unfold wrap64; omega, by rw [IntKind.wrap_i64]; omega⟩
theorem wAdd1 {x z : Nat} (h : x + 1 = z) (b : z ≤ 20000) : wrap64 ((x : Int) + 1) = (z : Int) ∧ IntKind.i64.wrap ((x : Int) + 1) = (z : Int) := ⟨by unfold wrap64; omega, by rw [IntKind.wrap_i64]; omega⟩
theorem half_ge {a b c m : Nat} (e : (a + b) / 2 = c) (h : c < m) : b ≤ c + m := by omega
theorem half_mid {a m b : Nat} (h : a + 1 < m) (k : m + 1 < b) : a < (a + b) / 2 ∧ (a + b) / 2 < b := by omega
theorem not_one {a d m : Nat} (h : d + a = m) (l : a + 1 < m) : decide ((d : Int) = 1) = false ∧ ¬ (d : Int) = 1 ∧ ¬ d = 1 ∧ ((d : Int) == 1) = false := ⟨by rw [decide_eq_false_iff_not]; omega, by omega, by omega, by rw [beq_eq_false_iff_ne]; omega⟩
theorem tp_nums {a m b : Nat} (ham : a < m) (hmb : m < b) : a ≤ sT a m b ∧ sT a m b ≤ rT a m b ∧ rT a m b ≤ m ∧ rT a m b ≤ (a + b) / 2 ∧ (a + b) / 2 + m ≤ b + sT a m b ∧ m + rT a m b ≤ (a + b) / 2 + m := by
  obtain ⟨q1, q2, q3, q4, q5, q6, _, _⟩ := tp_rng ham hmb
  exact ⟨q1, q2, q3, q4, by omega, by omega⟩
theorem Srt.of_eq {pr : Nat → Int} {L R : List Nat} {a b : Nat} (h : Srt pr L a b) (e : ∀ t, a ≤ t → t < b → R[t]? = L[t]?) : Srt pr R a b := fun u v x y h1 h2 h3 hx hy => h u v x y h1 h2 h3 (by rw [← e u h1 (by omega)]; exact hx) (by rw [← e v (by omega) h3]; exact hy)
set_option maxRecDepth 100000 in
set_option maxHeartbeats 4000000 in
theorem symMain_any (a m b n : Nat) (ham : a + 1 < m) (hmb : m + 1 < b) (hbn : b ≤ n) (hn : n ≤ 4096) (rec_ : ∀ a' m' b' : Nat, a' < m' → m' < b' → b' ≤ n → b' - a' < b - a → MergeOk n a' m' b') : MergeOk n a m b := by
  intro P pb cap pr L w hN hS hs1 hs2 hP
  have HP := hide hP
  have HB := hide (show _ ∧ _ ∧ _ ∧ _ from ⟨ham, hmb, hbn, hn⟩)
  have HS0 := hide hS
  have HSA := hide hs1
  have HSB := hide hs2
  have HREC := hide rec_
  have HN0 := hide hN
  clear rec_ hN hS hs1 hs2 hP
  have HC0 := half_mid ham hmb
  obtain ⟨c, hc⟩ : ∃ c, Hid ((a + b) / 2 = c) := ⟨_, hide rfl⟩
  rw [hc.out] at HC0
  have HC := hide HC0
  clear HC0
  obtain ⟨q, hq⟩ : ∃ q, Hid (c + m = q) := ⟨_, hide rfl⟩
  have HQB : Hid (q ≤ 20000) := hide (by have := hq.out; have := HC.out; omega)
  obtain ⟨p, hp⟩ : ∃ p, Hid (p + 1 = q) := ⟨q - 1, hide (by have := hq.out; omega)⟩
  obtain ⟨s0, hs0⟩ : ∃ s0, Hid (sT a m b = s0) := ⟨_, hide rfl⟩
  obtain ⟨r0, hr0⟩ : ∃ r0, Hid (rT a m b = r0) := ⟨_, hide rfl⟩
  have HT0 := tp_nums (a := a) (m := m) (b := b) (by omega) (by omega)
  rw [hs0.out, hr0.out, hc.out, hq.out] at HT0
  have HT := hide HT0
  clear HT0
  obtain ⟨d, hd⟩ : ∃ d, Hid (d + a = m) := ⟨m - a, hide (by omega)⟩
  obtain ⟨f, hf⟩ : ∃ f, Hid (f + m = b) := ⟨b - m, hide (by omega)⟩
  have bn : b ≤ 4096 := by omega
  have an : a ≤ 4096 := by omega
  have mn : m ≤ 4096 := by omega
  have ec : ((a : Int) + (b : Int)) / 2 = (c : Int) := half_eq hc.out
  obtain ⟨dd, dd2, dd3, dd4⟩ := not_one hd.out ham
  obtain ⟨df, df2, df3, df4⟩ := not_one hf.out hmb
  obtain ⟨wm, wm2⟩ := wSub hd.out (Nat.le_trans mn (by decide))
  obtain ⟨wb, wb2⟩ := wSub hf.out (Nat.le_trans bn (by decide))
  have w1 := wAdd0 an bn
  obtain ⟨wq, wq2⟩ := wAdd hq.out HQB.out
  have HS00 : Hid (s0 ≤ r0) := hide HT.out.2.1
  clear ham hmb hbn hn
  unfold lessV
  go_enter Tryd.func62, Tryd.ntmps62
  go_upto_region 24 with fail
  clear wm wm2 dd dd2 dd3 dd4 wb wb2 df df2 df3 df4
  go_upto_if 140 with fail
  try rw [ec]
  clear w1 ec wq wq2
  go_cut [20, 21] from 129 to 219 (fun sv rv wx => sv = .int .i64 (s0 : Int) ∧ rv = .int .i64 (r0 : Int) ∧ wx = w)
  case first =>
    by_cases hcm : c < m
    · have hg : decide ((c : Int) < (m : Int)) = true := by rw [decide_eq_true_eq]; omega
      have hg' : decide (c < m) = true := decide_eq_true hcm
      have e1 := sT_lt hc.out hcm
      have E1 : Hid (s0 = c + m - b ∧ r0 = c) := hide (by rw [← hs0.out, ← hr0.out]; exact e1)
      have e2 : s0 + b = q := by have := E1.out; have := hq.out; have := half_ge hc.out hcm; omega
      obtain ⟨ws, ws2⟩ := wSub e2 HQB.out
      clear e2
      clear e1
      go_wp2_with fail
      go_meet
      exact ⟨rfl, by rw [E1.out.2], rfl⟩
    · have hg : decide ((c : Int) < (m : Int)) = false := by rw [decide_eq_false_iff_not]; omega
      have hg' : decide (c < m) = false := decide_eq_false hcm
      have e1 := sT_ge hc.out hcm
      have E1 : Hid (s0 = a ∧ r0 = m) := hide (by rw [← hs0.out, ← hr0.out]; exact e1)
      clear e1
      go_wp2_with fail
      go_meet
      exact ⟨by rw [E1.out.1], by rw [E1.out.2], rfl⟩
  case rest =>
    obtain ⟨rfl, rfl, hw⟩ := hcut
    obtain rfl := hw.symm
    obtain ⟨wp, wp2⟩ := wSub1 hp.out HQB.out
    have HAT : Hid (s0 ≤ s0 ∧ s0 ≤ r0 ∧ r0 ≤ r0) := hide ⟨Nat.le_refl _, HS00.out, Nat.le_refl _⟩
    go_wp2_with fail
    clear wp wp2
    go_loopw [20, 21] (fun iv jv wr => ∃ (s r : Nat), iv = .int .i64 (s : Int) ∧ jv = .int .i64 (r : Int) ∧ Hid (s0 ≤ s ∧ s ≤ r ∧ r ≤ r0) ∧ Hid (s = s0 ∨ ∀ x y : Nat, L[s - 1]? = some x → L[q - s]? = some y → pr y ≤ pr x) ∧ Hid (r = r0 ∨ ∀ x y : Nat, L[r]? = some x → L[q - r - 1]? = some y → pr x < pr y) ∧ Hid (NV wr P L) ∧ Hid (w.grownBy wr (some P))) (fun iv jv _ => (intOf jv).toNat - (intOf iv).toNat)
    case atStart => exact ⟨s0, r0, rfl, rfl, HAT, hide (.inl rfl), hide (.inl rfl), HN0, hide (gb_refl _ _)⟩
    case round =>
      clear HN0
      obtain ⟨i, j, rfl, rfl, HJ, HF1, HF2, HV, HG⟩ := hrel
      by_cases hlt : i < j
      · have hd1 : decide ((i : Int) < (j : Int)) = true := by rw [decide_eq_true_eq]; omega
        have hd1' : decide (i < j) = true := decide_eq_true hlt
        have jn : j ≤ 4096 := by have := HJ.out; have := HT.out; have := HB.out; omega
        obtain ⟨h, hh⟩ : ∃ h, Hid ((i + j) / 2 = h) := ⟨_, hide rfl⟩
        have HH : Hid (i ≤ h ∧ h < j) := hide (half_in hlt hh.out)
        obtain ⟨h2, hh2⟩ : ∃ h2, Hid (h + 1 = h2) := ⟨_, hide rfl⟩
        obtain ⟨g, hg⟩ : ∃ g, Hid (g + h = p) := ⟨p - h, hide (by have := HH.out; have := HJ.out; have := HT.out; have := hp.out; have := HB.out; omega)⟩
        have hin : i ≤ 4096 := by omega
        have hn2 : h < n := by have := HH.out; have := HJ.out; have := HT.out; have := HB.out; omega
        have gn2 : g < n := by have := HH.out; have := HJ.out; have := HT.out; have := HB.out; have := hp.out; have := hg.out; omega
        obtain ⟨x, hx⟩ : ∃ x, L[h]? = some x := ⟨_, List.getElem?_eq_getElem (by rw [HS0.out.len]; exact hn2)⟩
        obtain ⟨y, hy⟩ : ∃ y, L[g]? = some y := ⟨_, List.getElem?_eq_getElem (by rw [HS0.out.len]; exact gn2)⟩
        have hxn := HS0.out.lt _ _ hx
        have hyn := HS0.out.lt _ _ hy
        have HX := hide hx
        have HY := hide hy
        have c1 := HV.out.cell hx
        have c2 := HV.out.cell hy
        have ix0 : (0 : Int) ≤ (h : Int) := by omega
        have ix1 : (h : Int) < (n : Int) := by omega
        have ix2 : (0 : Int) ≤ (g : Int) := by omega
        have ix3 : (g : Int) < (n : Int) := by omega
        have HR := hide (fun q => ranked1_any n pb y x pr (wr.drewN q) ((HP.out _ HG.out).drew q) hyn hxn)
        obtain ⟨r, hr⟩ : ∃ r, Hid (cmpI (pr x) (pr y) = r) := ⟨_, hide rfl⟩
        rw [hr.out] at HR
        have HV2 := hide (fun q => (hide HV.out : Hid (NV (wr.drewN q) P L)))
        have HG2 := hide (fun q => hide (gb_drewN HG.out q))
        have HQ : Hid (q - h2 = g ∧ q - h - 1 = g ∧ h2 - 1 = h) := hide (by have := hg.out; have := hp.out; have := hh2.out; omega)
        clear hx hy hxn hyn HV HG hn2 gn2
        have HJ1 : Hid (s0 ≤ i ∧ i ≤ h ∧ h ≤ r0) := hide (by have := HH.out; have := HJ.out; omega)
        have HJ2 : Hid (s0 ≤ h2 ∧ h2 ≤ j ∧ j ≤ r0) := hide (by have := HH.out; have := HJ.out; have := hh2.out; omega)
        have HM1 : Hid (h - i < j - i ∧ j - h2 < j - i) := hide (by have := HH.out; have := hh2.out; omega)
        have eh : ((i : Int) + (j : Int)) / 2 = (h : Int) := half_eq hh.out
        have w1 := wAdd0 hin jn
        have HB2 : Hid (h2 ≤ 20000 ∧ p ≤ 20000) := hide (by have := HH.out; have := hh2.out; have := hp.out; have := HQB.out; omega)
        obtain ⟨wh, wh2⟩ := wAdd1 hh2.out HB2.out.1
        obtain ⟨wg, wg2⟩ := wSub hg.out HB2.out.2
        by_cases hneg : r < 0
        · have hd3 : decide (r < 0) = true := decide_eq_true hneg
          have HPR : Hid (pr x < pr y) := hide (by rw [← hr.out] at hneg; exact cmpI_neg.1 hneg)
          clear hneg
          go_wp2_with fail
          try rw [eh]
          go_quiet (first | (go_at_call 48; exact Calls.quiet_of (HR.out _)))
          go_wp2_with fail
          go_roundw
          case rel => exact ⟨i, h, rfl, rfl, HJ1, HF1, hide (.inr (fun x2 y2 q1 q2 => by
            rw [HQ.out.2.1] at q2
            have q3 := HX.out; have q4 := HY.out; rw [q1] at q3; cases q3; rw [q2] at q4; cases q4; exact HPR.out)), HV2.out _, HG2.out _⟩
          case measure => simp only [intOf, Int.toNat_natCast]; exact HM1.out.1
        · have hd3 : decide (r < 0) = false := decide_eq_false hneg
          have HPR : Hid (pr y ≤ pr x) := hide (by rw [← hr.out] at hneg; exact Int.not_lt.1 (fun h => hneg (cmpI_neg.2 h)))
          clear hneg
          go_wp2_with fail
          try rw [eh]
          go_quiet (first | (go_at_call 48; exact Calls.quiet_of (HR.out _)))
          go_wp2_with fail
          go_roundw
          case rel => exact ⟨h2, j, by first | rfl | exact iv_succ wh, rfl, HJ2, hide (.inr (fun x2 y2 q1 q2 => by
            rw [HQ.out.2.2] at q1; rw [HQ.out.1] at q2
            have q3 := HX.out; have q4 := HY.out; rw [q1] at q3; cases q3; rw [q2] at q4; cases q4; exact HPR.out)), HF2, HV2.out _, HG2.out _⟩
          case measure => first | (rw [wh]; simp only [intOf, Int.toNat_natCast]; exact HM1.out.2) | (simp only [intOf, Int.toNat_natCast]; exact HM1.out.2)
      · have e : i = j := by have := HJ.out; omega
        subst e
        have hd1 : decide ((i : Int) < (i : Int)) = false := by simp
        have hd1' : decide (i < i) = false := by simp
        have HTP : Hid (TP pr L a m b (sT a m b) (rT a m b) i) := hide (by
          refine ⟨by rw [hs0.out]; exact HJ.out.1, by rw [hr0.out]; exact HJ.out.2.2, ?_, ?_⟩
          · rw [hs0.out, hc.out, hq.out]; exact HF1.out
          · rw [hr0.out, hc.out, hq.out]; exact HF2.out)
        obtain ⟨g, hg⟩ : ∃ g, Hid (i + g = q) := ⟨q - i, hide (by have := HJ.out; have := HT.out; omega)⟩
        have HI : Hid (a ≤ i ∧ i ≤ m ∧ i ≤ c ∧ m ≤ g ∧ c ≤ g ∧ g ≤ b ∧ a < c ∧ c < b ∧ b ≤ n ∧ n ≤ 4096) := hide (by have := hg.out; have := HJ.out; have := HT.out; have := hq.out; have := HB.out; have := HC.out; omega)
        have HE : Hid ((a + b) / 2 + m - i = g) := hide (by rw [hc.out, hq.out]; have := hg.out; omega)
        clear HF1 HF2 hlt HT HJ
        obtain ⟨wg, wg2⟩ := wSub (show g + i = q by rw [Nat.add_comm]; exact hg.out) HQB.out
        obtain ⟨W1, rfl⟩ : ∃ W1, W1 = wr := ⟨wr, rfl⟩
        have HVG : Hid (NV W1 P L ∧ w.grownBy W1 (some P)) := hide ⟨HV.out, HG.out⟩
        clear HV HG
        go_upto_region 39 with fail
        clear wg wg2
        obtain ⟨b1, hb1⟩ : ∃ b1, Hid (decide (i < m ∧ m < g) = b1) := ⟨_, hide rfl⟩
        go_cut [185] from 178 to 185 (fun v wx => v = .bool b1 ∧ Hid (NV wx P L ∧ w.grownBy wx (some P)))
        case first =>
          by_cases g1 : i < m
          · have g2 : decide ((i : Int) < (m : Int)) = true := by rw [decide_eq_true_eq]; omega
            have g2' : decide (i < m) = true := decide_eq_true g1
            by_cases g3 : m < g
            · have g4 : decide ((m : Int) < (g : Int)) = true := by rw [decide_eq_true_eq]; omega
              have g4' : decide (m < g) = true := decide_eq_true g3
              have gb : Hid (b1 = true) := hide (by rw [← hb1.out]; exact decide_eq_true ⟨g1, g3⟩)
              go_wp2_with fail
              go_meet
              exact ⟨by rw [gb.out], HVG⟩
            · have g4 : decide ((m : Int) < (g : Int)) = false := by rw [decide_eq_false_iff_not]; omega
              have g4' : decide (m < g) = false := decide_eq_false g3
              have gb : Hid (b1 = false) := hide (by rw [← hb1.out]; exact decide_eq_false (fun h => g3 h.2))
              go_wp2_with fail
              go_meet
              exact ⟨by rw [gb.out], HVG⟩
          · have g2 : decide ((i : Int) < (m : Int)) = false := by rw [decide_eq_false_iff_not]; omega
            have g2' : decide (i < m) = false := decide_eq_false g1
            have gb : Hid (b1 = false) := hide (by rw [← hb1.out]; exact decide_eq_false (fun h => g1 h.1))
            go_wp2_with fail
            go_meet
            exact ⟨by rw [gb.out], HVG⟩
        case rest =>
          clear HVG
          obtain ⟨rfl, HVG⟩ := hcut
          go_upto_if 185 with fail
          go_cut [] from 178 to 191 (fun wx => ∃ M, Hid (NV wx P M ∧ Via L M (rho i m g) ∧ w.grownBy wx (some P)))
          case first =>
            by_cases g1 : i < m ∧ m < g
            · obtain rfl : b1 = true := by rw [← hb1.out]; exact decide_eq_true g1
              have HR := hide (rotate_any i m g n P cap (lessV pb) L wc HVG.out.1 HS0.out.len g1.1 g1.2 (by have := HI.out; omega) HI.out.2.2.2.2.2.2.2.2.2)
              unfold lessV at HR
              clear g1
              go_wp2_with fail
              refine HR.out.mono ?_
              rintro e w1 ⟨⟨u, rfl⟩, L', h1, h2, h3⟩
              have HF : Hid (NV w1 P L' ∧ Via L L' (rho i m g) ∧ w.grownBy w1 (some P)) := hide ⟨h1, h2, gb_trans HVG.out.2 h3⟩
              clear h1 h2 h3 HR
              go_wp2_with fail
              go_meet
              exact ⟨L', HF⟩
            · obtain rfl : b1 = false := by rw [← hb1.out]; exact decide_eq_false g1
              have HF : Hid (NV wc P L ∧ Via L L (rho i m g) ∧ w.grownBy wc (some P)) := hide ⟨HVG.out.1, (Via.refl L).congr (fun t => (rho_none (by have := HI.out; omega) (by have := HI.out; omega) (by have := HI.out; omega)).symm), HVG.out.2⟩
              clear g1
              go_wp2_with fail
              go_meet
              exact ⟨L, HF⟩
          case rest =>
            clear HVG hb1
            obtain ⟨M, HM⟩ := hcut
            have HCUT : Hid (SI pr n M ∧ Srt pr M a i ∧ Srt pr M i c ∧ Srt pr M c g ∧ Srt pr M g b ∧ (∀ u v x y : Nat, a ≤ u → u < c → c ≤ v → v < b → M[u]? = some x → M[v]? = some y → pr y ≤ pr x) ∧ (∀ t, t < a ∨ b ≤ t → M[t]? = L[t]?) ∧ (∀ j z : Nat, a ≤ j → j < b → M[j]? = some z → ∃ k, a ≤ k ∧ k < b ∧ L[k]? = some z)) := hide (by
              have h := TP.cut (R := M) HS0.out (by have := HB.out; omega) (by have := HB.out; omega) HB.out.2.2.1 HSA.out HSB.out HTP.out (by rw [HE.out]; exact HM.out.2.1)
              rw [HE.out, hc.out] at h
              exact h)
            have HVG : Hid (NV wc P M ∧ w.grownBy wc (some P)) := hide ⟨HM.out.1, HM.out.2.2⟩
            clear HM
            obtain ⟨W2, rfl⟩ : ∃ W2, W2 = wc := ⟨wc, rfl⟩
            go_upto_region 41 with fail
            obtain ⟨b2, hb2⟩ : ∃ b2, Hid (decide (a < i ∧ i < c) = b2) := ⟨_, hide rfl⟩
            go_cut [199] from 192 to 199 (fun v wx => v = .bool b2 ∧ Hid (NV wx P M ∧ w.grownBy wx (some P)))
            case first =>
              by_cases g1 : a < i
              · have g2 : decide ((a : Int) < (i : Int)) = true := by rw [decide_eq_true_eq]; omega
                have g2' : decide (a < i) = true := decide_eq_true g1
                by_cases g3 : i < c
                · have g4 : decide ((i : Int) < (c : Int)) = true := by rw [decide_eq_true_eq]; omega
                  have g4' : decide (i < c) = true := decide_eq_true g3
                  have gb : Hid (b2 = true) := hide (by rw [← hb2.out]; exact decide_eq_true ⟨g1, g3⟩)
                  go_wp2_with fail
                  go_meet
                  exact ⟨by rw [gb.out], HVG⟩
                · have g4 : decide ((i : Int) < (c : Int)) = false := by rw [decide_eq_false_iff_not]; omega
                  have g4' : decide (i < c) = false := decide_eq_false g3
                  have gb : Hid (b2 = false) := hide (by rw [← hb2.out]; exact decide_eq_false (fun h => g3 h.2))
                  go_wp2_with fail
                  go_meet
                  exact ⟨by rw [gb.out], HVG⟩
              · have g2 : decide ((a : Int) < (i : Int)) = false := by rw [decide_eq_false_iff_not]; omega
                have g2' : decide (a < i) = false := decide_eq_false g1
                have gb : Hid (b2 = false) := hide (by rw [← hb2.out]; exact decide_eq_false (fun h => g1 h.1))
                go_wp2_with fail
                go_meet
                exact ⟨by rw [gb.out], HVG⟩
            case rest =>
              clear HVG
              obtain ⟨rfl, HVG⟩ := hcut
              go_upto_if 199 with fail
              go_cut [] from 192 to 205 (fun wx => ∃ R, Hid (NV wx P R ∧ Mgd pr n a c M R ∧ w.grownBy wx (some P)))
              case first =>
                by_cases g1 : a < i ∧ i < c
                · obtain rfl : b2 = true := by rw [← hb2.out]; exact decide_eq_true g1
                  have HR := hide (HREC.out a i c g1.1 g1.2 (by have := HI.out; omega) (by have := HI.out; omega) P pb cap pr M wc HVG.out.1 HCUT.out.1 HCUT.out.2.1 HCUT.out.2.2.1 (fun W h => HP.out W (gb_trans HVG.out.2 h)))
                  unfold lessV at HR
                  clear g1
                  go_wp2_with fail
                  refine HR.out.mono ?_
                  rintro e w1 ⟨⟨u, rfl⟩, L', h1, h2, h3⟩
                  have HF : Hid (NV w1 P L' ∧ Mgd pr n a c M L' ∧ w.grownBy w1 (some P)) := hide ⟨h1, h2, gb_trans HVG.out.2 h3⟩
                  clear h1 h2 h3 HR
                  go_wp2_with fail
                  go_meet
                  exact ⟨L', HF⟩
                · obtain rfl : b2 = false := by rw [← hb2.out]; exact decide_eq_false g1
                  have HF : Hid (NV wc P M ∧ Mgd pr n a c M M ∧ w.grownBy wc (some P)) := hide ⟨HVG.out.1, Mgd.refl HCUT.out.1 (Srt.whole HCUT.out.2.1 HCUT.out.2.2.1 (by have := HI.out; omega)), HVG.out.2⟩
                  clear g1
                  go_wp2_with fail
                  go_meet
                  exact ⟨M, HF⟩
              case rest =>
                clear HVG hb2
                obtain ⟨R, HM⟩ := hcut
                have HVG : Hid (NV wc P R ∧ w.grownBy wc (some P)) := hide ⟨HM.out.1, HM.out.2.2⟩
                have HMG := hide HM.out.2.1
                have HSG : Hid (Srt pr R c g ∧ Srt pr R g b) := hide ⟨HCUT.out.2.2.2.1.of_eq (fun t h1 h2 => HMG.out.out t (.inr h1)), HCUT.out.2.2.2.2.1.of_eq (fun t h1 h2 => HMG.out.out t (.inr (by have := HI.out; omega)))⟩
                have HEND : Hid (∀ R2, Mgd pr n c b R R2 → Mgd pr n a b L R2) := hide (fun R2 h => Mgd.join (by have := HI.out; omega) (by have := HI.out; omega) HCUT.out.2.2.2.2.2.1 HCUT.out.2.2.2.2.2.2.1 HCUT.out.2.2.2.2.2.2.2 HMG.out h)
                clear HM
                obtain ⟨W3, rfl⟩ : ∃ W3, W3 = wc := ⟨wc, rfl⟩
                go_upto_region 43 with fail
                obtain ⟨b3, hb3⟩ : ∃ b3, Hid (decide (c < g ∧ g < b) = b3) := ⟨_, hide rfl⟩
                go_cut [213] from 206 to 213 (fun v wx => v = .bool b3 ∧ Hid (NV wx P R ∧ w.grownBy wx (some P)))
                case first =>
                  by_cases g1 : c < g
                  · have g2 : decide ((c : Int) < (g : Int)) = true := by rw [decide_eq_true_eq]; omega
                    have g2' : decide (c < g) = true := decide_eq_true g1
                    by_cases g3 : g < b
                    · have g4 : decide ((g : Int) < (b : Int)) = true := by rw [decide_eq_true_eq]; omega
                      have g4' : decide (g < b) = true := decide_eq_true g3
                      have gb : Hid (b3 = true) := hide (by rw [← hb3.out]; exact decide_eq_true ⟨g1, g3⟩)
                      go_wp2_with fail
                      go_meet
                      exact ⟨by rw [gb.out], HVG⟩
                    · have g4 : decide ((g : Int) < (b : Int)) = false := by rw [decide_eq_false_iff_not]; omega
                      have g4' : decide (g < b) = false := decide_eq_false g3
                      have gb : Hid (b3 = false) := hide (by rw [← hb3.out]; exact decide_eq_false (fun h => g3 h.2))
                      go_wp2_with fail
                      go_meet
                      exact ⟨by rw [gb.out], HVG⟩
                  · have g2 : decide ((c : Int) < (g : Int)) = false := by rw [decide_eq_false_iff_not]; omega
                    have g2' : decide (c < g) = false := decide_eq_false g1
                    have gb : Hid (b3 = false) := hide (by rw [← hb3.out]; exact decide_eq_false (fun h => g1 h.1))
                    go_wp2_with fail
                    go_meet
                    exact ⟨by rw [gb.out], HVG⟩
                case rest =>
                  clear HVG
                  obtain ⟨rfl, HVG⟩ := hcut
                  by_cases g1 : c < g ∧ g < b
                  · obtain rfl : b3 = true := by rw [← hb3.out]; exact decide_eq_true g1
                    have HR := hide (HREC.out c g b g1.1 g1.2 HB.out.2.2.1 (by have := HI.out; omega) P pb cap pr R wc HVG.out.1 HMG.out.si HSG.out.1 HSG.out.2 (fun W h => HP.out W (gb_trans HVG.out.2 h)))
                    unfold lessV at HR
                    clear g1
                    go_wp2_with fail
                    refine HR.out.mono ?_
                    rintro e w1 ⟨⟨u, rfl⟩, L', h1, h2, h3⟩
                    have HF : Hid (∃ L', NV w1 P L' ∧ Mgd pr n a b L L' ∧ w.grownBy w1 (some P)) := hide ⟨L', h1, HEND.out L' h2, gb_trans HVG.out.2 h3⟩
                    clear h1 h2 h3 HR
                    go_wp2_with fail
                    refine bodyPost_end (v := .tuple #[]) ?r1 ?r2 ?r3
                    case r1 => exact results_none rfl _ _ _
                    case r2 => rfl
                    case r3 => exact ⟨⟨_, rfl⟩, HF.out⟩
                  · obtain rfl : b3 = false := by rw [← hb3.out]; exact decide_eq_false g1
                    have HF : Hid (∃ L', NV wc P L' ∧ Mgd pr n a b L L' ∧ w.grownBy wc (some P)) := hide ⟨R, HVG.out.1, HEND.out R (Mgd.refl HMG.out.si (Srt.whole HSG.out.1 HSG.out.2 (by have := HI.out; omega))), HVG.out.2⟩
                    clear g1
                    go_wp2_with fail
                    refine bodyPost_end (v := .tuple #[]) ?r1 ?r2 ?r3
                    case r1 => exact results_none rfl _ _ _
                    case r2 => rfl
                    case r3 => exact ⟨⟨_, rfl⟩, HF.out⟩
end Go.Proofs.YtcdhblfefpkjgaaDoor
namespace Go.Proofs.YtcdhblfefpkjgaaDoor
open Go.RowKit

theorem mergeOk_le {n : Nat} (hn : n ≤ 4096) : ∀ d a m b : Nat, b - a ≤ d → a < m → m < b → b ≤ n → MergeOk n a m b := by
  intro d
  induction d with
  | zero => intro a m b h1 h2 h3 _; omega
  | succ d ih =>
    intro a m b h1 h2 h3 h4
    by_cases e1 : a + 1 = m
    · intro P pb cap pr L w hN hS _ hs2 hP
      exact symFirst_any a m b n P pb cap pr L w hN hS e1 h3 h4 hn hs2 hP
    · by_cases e2 : m + 1 = b
      · intro P pb cap pr L w hN hS hs1 _ hP
        exact symLast_any a m b n P pb cap pr L w hN hS (by omega) e2 h4 hn hs1 hP
      · exact symMain_any a m b n (by omega) (by omega) h4 hn (fun a' m' b' k1 k2 k3 k4 => ih a' m' b' (by omega) k1 k2 k3)
theorem mergeOk {n a m b : Nat} (hn : n ≤ 4096) (h1 : a < m) (h2 : m < b) (h3 : b ≤ n) : MergeOk n a m b := mergeOk_le hn (b - a) a m b (Nat.le_refl _) h1 h2 h3
/-- All blocks of s places are sorted. -/
def BA (pr : Nat → Int) (L : List Nat) (s n : Nat) : Prop := ∀ t, Srt pr L (t * s) (min (t * s + s) n)
/-- The first k blocks of twenty. -/
def BK (pr : Nat → Int) (L : List Nat) (k : Nat) : Prop := ∀ t, t < k → Srt pr L (t * 20) (t * 20 + 20)
/-- The first k pairs of blocks are merged. -/
def BH (pr : Nat → Int) (L : List Nat) (s n k : Nat) : Prop := (∀ t, t < k → Srt pr L (t * (2 * s)) (min (t * (2 * s) + 2 * s) n)) ∧ ∀ t, 2 * k ≤ t → Srt pr L (t * s) (min (t * s + s) n)
theorem BK.step {pr : Nat → Int} {L R : List Nat} {k : Nat} (h : BK pr L k) (hs : Srt pr R (k * 20) (k * 20 + 20)) (ho : ∀ i, i < k * 20 ∨ k * 20 + 20 ≤ i → R[i]? = L[i]?) : BK pr R (k + 1) := by
  intro t ht
  by_cases e : t = k
  · subst e; exact hs
  · exact (h t (by omega)).of_eq (fun i h1 h2 => ho i (.inl (by omega)))
theorem BK.fin {pr : Nat → Int} {L R : List Nat} {k n : Nat} (h : BK pr L k) (hk : k * 20 ≤ n) (hn : n < k * 20 + 20) (hs : Srt pr R (k * 20) n) (ho : ∀ i, i < k * 20 ∨ n ≤ i → R[i]? = L[i]?) : BA pr R 20 n := by
  intro t
  by_cases e : t = k
  · subst e; rw [Nat.min_eq_right (by omega)]; exact hs
  · by_cases e2 : t < k
    · rw [Nat.min_eq_left (by omega)]
      exact (h t e2).of_eq (fun i h1 h2 => ho i (.inl (by omega)))
    · exact Srt.none (by omega)
theorem BA.done {pr : Nat → Int} {L : List Nat} {s n : Nat} (h : BA pr L s n) (hs : n ≤ s) : Srt pr L 0 n := by
  have := h 0
  rw [Nat.zero_mul, Nat.min_eq_right (by omega)] at this
  exact this
theorem BH.start {pr : Nat → Int} {L : List Nat} {s n : Nat} (h : BA pr L s n) : BH pr L s n 0 := ⟨fun t ht => absurd ht (Nat.not_lt_zero t), fun t _ => h t⟩
theorem BH.runs {pr : Nat → Int} {L : List Nat} {s n k a : Nat} (h : BH pr L s n k) (ha : a = k * (2 * s)) : Srt pr L a (min (a + s) n) ∧ Srt pr L (a + s) (min (a + s + s) n) := by
  have e1 : (2 * k) * s = a := by rw [ha, Nat.mul_comm 2 k, Nat.mul_assoc]
  have e2 : (2 * k + 1) * s = a + s := by rw [Nat.succ_mul, e1]
  have h1 := h.2 (2 * k) (Nat.le_refl _)
  have h2 := h.2 (2 * k + 1) (by omega)
  rw [e1] at h1
  rw [e2] at h2
  exact ⟨h1, h2⟩
theorem mul_up {t k D : Nat} (h : t < k) : t * D + D ≤ k * D := by rw [← Nat.succ_mul]; exact Nat.mul_le_mul_right D h
theorem BH.step {pr : Nat → Int} {L R : List Nat} {s n k a : Nat} (h : BH pr L s n k) (ha : a = k * (2 * s)) (hb : a + 2 * s ≤ n) (hs : Srt pr R a (a + 2 * s)) (ho : ∀ i, i < a ∨ a + 2 * s ≤ i → R[i]? = L[i]?) : BH pr R s n (k + 1) := by
  refine ⟨fun t ht => ?_, fun t ht => ?_⟩
  · by_cases e : t = k
    · subst e; rw [← ha, Nat.min_eq_left hb]; exact hs
    · have := mul_up (D := 2 * s) (show t < k by omega)
      exact (h.1 t (by omega)).of_eq (fun i h1 h2 => ho i (.inl (by omega)))
  · have e1 : (2 * k) * s = a := by rw [ha, Nat.mul_comm 2 k, Nat.mul_assoc]
    have h3 := mul_up (D := s) (show 2 * k + 1 < t by omega)
    rw [Nat.succ_mul, e1] at h3
    exact (h.2 t (by omega)).of_eq (fun i h1 h2 => ho i (.inr (by omega)))
theorem BH.fin {pr : Nat → Int} {L R : List Nat} {s n k a : Nat} (h : BH pr L s n k) (ha : a = k * (2 * s)) (hb : n < a + 2 * s) (hs : Srt pr R a n) (ho : ∀ i, i < a → R[i]? = L[i]?) : BA pr R (2 * s) n := by
  intro t
  by_cases e : t = k
  · subst e; rw [← ha, Nat.min_eq_right (by omega)]; exact hs
  · by_cases e2 : t < k
    · have := mul_up (D := 2 * s) e2
      exact (h.1 t e2).of_eq (fun i h1 h2 => ho i (by omega))
    · have := mul_up (D := 2 * s) (show k < t by omega)
      rw [← ha] at this
      exact Srt.none (by omega)
theorem wMul2 {s D : Nat} (h : 2 * s = D) (b : s ≤ 9000) : (wrap64 (2 * (s : Int)) = (D : Int) ∧ IntKind.i64.wrap (2 * (s : Int)) = (D : Int)) ∧ wrap64 ((s : Int) * 2) = (D : Int) ∧ IntKind.i64.wrap ((s : Int) * 2) = (D : Int) := ⟨⟨by unfold wrap64; omega, by rw [IntKind.wrap_i64]; omega⟩, by unfold wrap64; omega, by rw [IntKind.wrap_i64]; omega⟩
theorem wAdd20 {b c : Nat} (h : b + 20 = c) (k : b ≤ 9000) : wrap64 ((b : Int) + 20) = (c : Int) ∧ IntKind.i64.wrap ((b : Int) + 20) = (c : Int) := ⟨by unfold wrap64; omega, by rw [IntKind.wrap_i64]; omega⟩
/-- What the sort's rows are at a moment. -/
structure SM (w0 : World) (P n : Nat) (pr : Nat → Int) (M : List Nat) (wr : World) : Prop where
  nv : NV wr P M
  si : SI pr n M
  gb : w0.grownBy wr (some P)
set_option maxRecDepth 100000 in
set_option maxHeartbeats 4000000 in
theorem stable_any (n P pb cap : Nat) (hn : n ≤ 4096) (pr : Nat → Int) (L : List Nat) (w : World) (hN : NV w P L) (hS : SI pr n L) (hP : ∀ W, w.grownBy W (some P) → PZ W n pb pr) :
    Calls Tryd.prog 55 #[.slice (some ⟨P, 0, none⟩) n cap, .int .i64 (n : Int), lessV pb] w fun e w' => (∃ u, e = .returned u) ∧ ∃ L', NV w' P L' ∧ SI pr n L' ∧ Srt pr L' 0 n ∧ w.grownBy w' (some P) := by
  have HP := hide hP
  have HN := hide hn
  have HM0 : Hid (SM w P n pr L w) := hide ⟨hN, hS, gb_refl _ _⟩
  clear hN hS hP
  unfold lessV
  go_enter Tryd.func55, Tryd.ntmps55
  go_wp2_with fail
  go_loopw [7, 8] (fun av bv wr => ∃ (k a b : Nat) (M : List Nat), av = .int .i64 (a : Int) ∧ bv = .int .i64 (b : Int) ∧ Hid (a = k * 20 ∧ b = a + 20 ∧ a ≤ n) ∧ Hid (SM w P n pr M wr) ∧ Hid (BK pr M k)) (fun av _ _ => n - (intOf av).toNat)
  case atStart => exact ⟨0, 0, 20, L, rfl, rfl, hide ⟨rfl, rfl, Nat.zero_le _⟩, HM0, hide (fun t ht => absurd ht (Nat.not_lt_zero t))⟩
  case round =>
    clear HM0
    obtain ⟨k, a, b, M, rfl, rfl, HK, HM, HB⟩ := hrel
    by_cases hle : b ≤ n
    · have hd1 : decide ((b : Int) ≤ (n : Int)) = true := by rw [decide_eq_true_eq]; omega
      have hd1' : decide (b ≤ n) = true := decide_eq_true hle
      have HI := hide (isort_any a b n P pb cap pr M wr HM.out.nv HM.out.si (by have := HK.out; omega) hle HN.out (fun W h => HP.out W (gb_trans HM.out.gb h)))
      obtain ⟨c, hc⟩ : ∃ c, Hid (b + 20 = c) := ⟨_, hide rfl⟩
      have HK2 : Hid (b = (k + 1) * 20 ∧ c = b + 20 ∧ b ≤ n) := hide (by have := HK.out; have := hc.out; omega)
      have HMS : Hid (n - b < n - a) := hide (by have := HK.out; omega)
      obtain ⟨wc1, wc2⟩ := wAdd20 hc.out (by omega)
      unfold lessV at HI
      go_wp2_with fail
      refine HI.out.mono ?_
      rintro e w1 ⟨⟨u, rfl⟩, L', h1, h2, h3, h4, h5⟩
      have HM2 : Hid (SM w P n pr L' w1) := hide ⟨h1, h2, gb_trans HM.out.gb h5⟩
      have HB2 : Hid (BK pr L' (k + 1)) := hide (HB.out.step (by
        have e1 := HK.out.1; have e2 := HK.out.2.1
        rw [← e1, ← e2]; exact h3) (by
        have e1 := HK.out.1; have e2 := HK.out.2.1
        rw [← e1, ← e2]; exact h4))
      clear h1 h2 h3 h4 h5 HI HM HB
      go_wp2_with fail
      go_roundw
      case rel => exact ⟨k + 1, b, c, L', rfl, rfl, HK2, HM2, HB2⟩
      case measure => simp only [intOf, Int.toNat_natCast]; exact HMS.out
    · have hd1 : decide ((b : Int) ≤ (n : Int)) = false := by rw [decide_eq_false_iff_not]; omega
      have hd1' : decide (b ≤ n) = false := decide_eq_false hle
      have HI := hide (isort_any a n n P pb cap pr M wr HM.out.nv HM.out.si HK.out.2.2 (Nat.le_refl _) HN.out (fun W h => HP.out W (gb_trans HM.out.gb h)))
      have HLT : Hid (n < k * 20 + 20) := hide (by have := HK.out; omega)
      unfold lessV at HI
      go_wp2_with fail
      refine HI.out.mono ?_
      rintro e w1 ⟨⟨u, rfl⟩, L', h1, h2, h3, h4, h5⟩
      have HM2 : Hid (SM w P n pr L' w1) := hide ⟨h1, h2, gb_trans HM.out.gb h5⟩
      have HA : Hid (BA pr L' 20 n) := hide (HB.out.fin (by rw [← HK.out.1]; exact HK.out.2.2) HLT.out (by rw [← HK.out.1]; exact h3) (by rw [← HK.out.1]; exact h4))
      clear h1 h2 h3 h4 h5 HI HM HB hd1 hd1' hle
      go_wp2_with fail
      go_loopw [6] (fun sv wr => ∃ (s : Nat) (M : List Nat), sv = .int .i64 (s : Int) ∧ Hid (0 < s ∧ s ≤ 9000) ∧ Hid (SM w P n pr M wr) ∧ Hid (BA pr M s n)) (fun sv _ => n - (intOf sv).toNat)
      case atStart => exact ⟨20, L', rfl, hide ⟨by decide, by decide⟩, HM2, HA⟩
      case round =>
        clear HM2 HA
        obtain ⟨s, M1, rfl, HSB, HM, HA⟩ := hrel
        by_cases hsn : s < n
        · have hd1 : decide ((s : Int) < (n : Int)) = true := by rw [decide_eq_true_eq]; omega
          have hd1' : decide (s < n) = true := decide_eq_true hsn
          obtain ⟨D, hD⟩ : ∃ D, Hid (2 * s = D) := ⟨_, hide rfl⟩
          have HMS : Hid (n - D < n - s ∧ 0 < D ∧ D ≤ 9000) := hide (by have := hD.out; have := HSB.out; omega)
          obtain ⟨⟨wd1, wd2⟩, wd3, wd4⟩ := wMul2 hD.out HSB.out.2
          go_wp2_with fail
          go_loopw [7, 8] (fun av bv wr => ∃ (k a b : Nat) (M : List Nat), av = .int .i64 (a : Int) ∧ bv = .int .i64 (b : Int) ∧ Hid (a = k * (2 * s) ∧ b = a + D ∧ a ≤ n) ∧ Hid (SM w P n pr M wr) ∧ Hid (BH pr M s n k)) (fun av _ _ => n - (intOf av).toNat)
          case atStart => exact ⟨0, 0, D, M1, rfl, rfl, hide ⟨(Nat.zero_mul _).symm, (Nat.zero_add _).symm, Nat.zero_le _⟩, HM, hide (BH.start HA.out)⟩
          case round =>
            clear HM HA hd1 hd1'
            obtain ⟨k, a, b, M, rfl, rfl, HK, HM, HB⟩ := hrel
            obtain ⟨m, hm⟩ : ∃ m, Hid (a + s = m) := ⟨_, hide rfl⟩
            have HMB : Hid (a < m ∧ m < b ∧ m + s = b ∧ b = a + 2 * s ∧ m ≤ 20000) := hide (by have := HK.out; have := hD.out; have := HSB.out; have := hm.out; have := HN.out; omega)
            obtain ⟨wm1, wm2⟩ := wAdd hm.out HMB.out.2.2.2.2
            by_cases hle : b ≤ n
            · have hd2 : decide ((b : Int) ≤ (n : Int)) = true := by rw [decide_eq_true_eq]; omega
              have hd2' : decide (b ≤ n) = true := decide_eq_true hle
              have HR : Hid (Srt pr M a m ∧ Srt pr M m b) := hide (by
                have h := HB.out.runs HK.out.1
                rw [hm.out, HMB.out.2.2.1, Nat.min_eq_left (by have := HMB.out; omega), Nat.min_eq_left hle] at h
                exact h)
              have HI := hide (mergeOk HN.out HMB.out.1 HMB.out.2.1 hle P pb cap pr M wr HM.out.nv HM.out.si HR.out.1 HR.out.2 (fun W h => HP.out W (gb_trans HM.out.gb h)))
              obtain ⟨c, hc⟩ : ∃ c, Hid (b + D = c) := ⟨_, hide rfl⟩
              have HK2 : Hid (b = (k + 1) * (2 * s) ∧ c = b + D ∧ b ≤ n) := hide ⟨by rw [Nat.succ_mul, ← HK.out.1]; exact HMB.out.2.2.2.1, hc.out.symm, hle⟩
              have HMS2 : Hid (n - b < n - a) := hide (by have := HMB.out; omega)
              obtain ⟨wc1, wc2⟩ := wAdd hc.out (by have := hc.out; have := HMS.out; omega)
              unfold lessV at HI
              go_wp2_with fail
              refine HI.out.mono ?_
              rintro e w1 ⟨⟨u, rfl⟩, L', h1, h2, h5⟩
              have HM2 : Hid (SM w P n pr L' w1) := hide ⟨h1, h2.si, gb_trans HM.out.gb h5⟩
              have HB2 : Hid (BH pr L' s n (k + 1)) := hide (HB.out.step HK.out.1 (by rw [← HMB.out.2.2.2.1]; exact HK2.out.2.2) (by rw [← HMB.out.2.2.2.1]; exact h2.srt) (by rw [← HMB.out.2.2.2.1]; exact h2.out))
              clear h1 h2 h5 HI HM HB
              go_wp2_with fail
              go_roundw
              case rel => exact ⟨k + 1, b, c, L', rfl, rfl, HK2, HM2, HB2⟩
              case measure => simp only [intOf, Int.toNat_natCast]; exact HMS2.out
            · have hd2 : decide ((b : Int) ≤ (n : Int)) = false := by rw [decide_eq_false_iff_not]; omega
              have hd2' : decide (b ≤ n) = false := decide_eq_false hle
              have HLT : Hid (n < a + 2 * s) := hide (by have := HMB.out; omega)
              by_cases hmn : m < n
              · have hd3 : decide ((m : Int) < (n : Int)) = true := by rw [decide_eq_true_eq]; omega
                have hd3' : decide (m < n) = true := decide_eq_true hmn
                have HR : Hid (Srt pr M a m ∧ Srt pr M m n) := hide (by
                  have h := HB.out.runs HK.out.1
                  rw [hm.out, HMB.out.2.2.1, Nat.min_eq_left (by omega), Nat.min_eq_right (by omega)] at h
                  exact h)
                have HI := hide (mergeOk HN.out HMB.out.1 hmn (Nat.le_refl _) P pb cap pr M wr HM.out.nv HM.out.si HR.out.1 HR.out.2 (fun W h => HP.out W (gb_trans HM.out.gb h)))
                unfold lessV at HI
                go_wp2_with fail
                refine HI.out.mono ?_
                rintro e w1 ⟨⟨u, rfl⟩, L', h1, h2, h5⟩
                have HM2 : Hid (SM w P n pr L' w1) := hide ⟨h1, h2.si, gb_trans HM.out.gb h5⟩
                have HA2 : Hid (BA pr L' D n) := hide (by
                  rw [← hD.out]
                  exact HB.out.fin HK.out.1 HLT.out h2.srt (fun i hi => h2.out i (.inl hi)))
                clear h1 h2 h5 HI HM HB
                go_wp2_with fail
                go_roundw
                case rel => exact ⟨D, L', rfl, hide ⟨HMS.out.2.1, HMS.out.2.2⟩, HM2, HA2⟩
                case measure => simp only [intOf, Int.toNat_natCast]; exact HMS.out.1
              · have hd3 : decide ((m : Int) < (n : Int)) = false := by rw [decide_eq_false_iff_not]; omega
                have hd3' : decide (m < n) = false := decide_eq_false hmn
                have HA2 : Hid (BA pr M D n) := hide (by
                  rw [← hD.out]
                  have h := (HB.out.runs HK.out.1).1
                  rw [hm.out, Nat.min_eq_right (by omega)] at h
                  exact HB.out.fin HK.out.1 HLT.out h (fun _ _ => rfl))
                clear HB
                go_wp2_with fail
                go_roundw
                case rel => exact ⟨D, M, rfl, hide ⟨HMS.out.2.1, HMS.out.2.2⟩, HM, HA2⟩
                case measure => simp only [intOf, Int.toNat_natCast]; exact HMS.out.1
        · have hd1 : decide ((s : Int) < (n : Int)) = false := by rw [decide_eq_false_iff_not]; omega
          have hd1' : decide (s < n) = false := decide_eq_false hsn
          have HR : Hid (∃ L', NV wr P L' ∧ SI pr n L' ∧ Srt pr L' 0 n ∧ w.grownBy wr (some P)) := hide ⟨M1, HM.out.nv, HM.out.si, HA.out.done (by omega), HM.out.gb⟩
          go_wp2_with fail
          refine bodyPost_end (v := .tuple #[]) ?r1 ?r2 ?r3
          case r1 => exact results_none rfl _ _ _
          case r2 => rfl
          case r3 => exact ⟨⟨_, rfl⟩, HR.out⟩
theorem sortOk {n : Nat} (hn : n ≤ 4096) : SortOk n := by
  intro P pb cap pr L w hN hS hP
  have HS := hide (stable_any n P pb cap hn pr L w hN hS hP)
  unfold lessV at HS ⊢
  clear hN hS hP
  go_enter Tryd.func47, Tryd.ntmps47
  go_wp2_with fail
  refine HS.out.mono ?_
  rintro e w1 ⟨⟨u, rfl⟩, L', h1, h2, h3, h5⟩
  have HR : Hid (∃ L', NV w1 P L' ∧ SI pr n L' ∧ Srt pr L' 0 n ∧ w.grownBy w1 (some P)) := hide ⟨L', h1, h2, h3, h5⟩
  clear h1 h2 h3 h5 HS
  go_wp2_with fail
  refine bodyPost_end (v := .tuple #[]) ?r1 ?r2 ?r3
  case r1 => exact results_none rfl _ _ _
  case r2 => rfl
  case r3 => exact ⟨⟨_, rfl⟩, HR.out⟩
end Go.Proofs.YtcdhblfefpkjgaaDoor
namespace Go.Proofs.YtcdhblfefpkjgaaDoor.IN
open Go.RowKit Go.Extern

/-- A mark. -/
def mkB (k i : Int) : Int := 1000003 * (k + 1) + i
def marksB : List Int := (List.range 16).map fun i : Nat => mkB 90 (i : Int)
theorem marksB_len : marksB.length = 16 := by simp [marksB]
theorem marksB_at {j : Nat} (h : j < 16) : marksB[j]? = some (mkB 90 (j : Int)) := by
  unfold marksB; rw [List.getElem?_map, List.getElem?_range h]; rfl
theorem mc_take {l : List Int} {k : Nat} {c : Int} (h : l[k]? = some c) : mc (l.take (k + 1)) = mc (l.take k) ++ [.int .i64 c] := by rw [List.take_add_one, h]; rw [mc_app]; rfl

theorem markInts_any (k i : Int) (w : World) (h1 : 0 ≤ k) (h2 : k ≤ 1000000) (h3 : -1125899906842624 ≤ i) (h4 : i ≤ 1125899906842624) :
    Calls Tryd.prog 35 #[.int .i64 k, .int .i64 i] w fun e w' => e = .returned (.int .i64 (mkB k i)) ∧ w' = w := by
  have HM : Hid (1000003 * (k + 1) + i = mkB k i) := rfl
  go_enter Tryd.func35, Tryd.ntmps35
  go_wp2
  go_ret
  exact ⟨ret_i (by rw [← HM.out]), rfl⟩
/-- A list that was lent, in block g, from B on. -/
structure LentB (w : World) (B g cap : Nat) (l : List Int) : Prop where
  base : B ≤ g
  own : OM w B (.slice (some ⟨g, 0, none⟩) (l.length + 16) cap) (l ++ marksB)
theorem lent_of {w : World} {B : Nat} {v : Value} {l : List Int} (h : OM w B v (l ++ marksB)) : ∃ g cap, v = .slice (some ⟨g, 0, none⟩) (l.length + 16) cap ∧ LentB w B g cap l := by
  have hn : (l ++ marksB).length = l.length + 16 := by rw [List.length_append, marksB_len]
  have h' := h
  unfold OM at h'
  obtain ⟨g, cap, hv, hb, hlt⟩ := World.ownsRow.form h' (by rw [hn]; omega)
  rw [hn] at hv
  subst hv
  exact ⟨g, cap, rfl, hb, h⟩
theorem LentB.later {w w' : World} {B g cap : Nat} {l : List Int} (h : LentB w B g cap l) (hb : Below w.heap.size w w') : LentB w' B g cap l := ⟨h.base, h.own.later hb⟩
theorem LentB.parts {w : World} {B g cap : Nat} {l : List Int} (h : LentB w B g cap l) : g < w.heap.size ∧ l.length + 16 ≤ cap ∧ (∀ j c, (l ++ marksB)[j]? = some c → w.cell? ⟨g, j, none⟩ = some (.int .i64 c)) ∧ (∀ j, w.frozen? ⟨g, j, none⟩ = false) := by
  have hn : (l ++ marksB).length = l.length + 16 := by rw [List.length_append, marksB_len]
  have h' := h.own
  unfold OM at h'
  rw [hn] at h'
  rcases h'.2 with ⟨h0, _⟩ | ⟨g', cap', cur, hv, hb, hh, hn2, _⟩
  · cases h0
  · cases hv
    refine ⟨(Array.getElem?_eq_some_iff.1 hh).1, hn2, fun j c hj => ?_, fun j => h'.frozenAt j⟩
    have hjl : j < (l ++ marksB).length := (List.getElem?_eq_some_iff.1 hj).1
    rw [h'.cellAt j (by omega)]
    exact mc_at hj
theorem LentB.rg {w : World} {B g cap : Nat} {l : List Int} (h : LentB w B g cap l) : RG w g (.slice (some ⟨g, 0, none⟩) l.length cap) l := by
  obtain ⟨h1, h2, h3, _⟩ := h.parts
  refine ⟨_, _, rfl, by omega, .inr ⟨0, rfl, h1, fun j c hj => ?_⟩⟩
  rw [Nat.zero_add]
  exact h3 j c (by rw [List.getElem?_append_left (List.getElem?_eq_some_iff.1 hj).1]; exact hj)

theorem mc_set (l : List Int) (k : Nat) (c : Int) : mc (l.set k c) = (mc l).set k (.int .i64 c) := by unfold mc; rw [List.map_set]
theorem LentB.set {w : World} {B g cap : Nat} {l : List Int} (h : LentB w B g cap l) {k : Nat} {c : Int} (hk : k < l.length) : LentB (w.setCell ⟨g, k, none⟩ (.int .i64 c)) B g cap (l.set k c) := by
  refine ⟨h.base, ?_⟩
  have hn : (l ++ marksB).length = l.length + 16 := by rw [List.length_append, marksB_len]
  have h' := h.own
  unfold OM at h' ⊢
  rw [hn] at h'
  have h2 := (h'.stored k (.int .i64 c)).1
  rw [← mc_set, List.set_append_left _ _ hk] at h2
  rw [List.length_set, List.length_append, List.length_set, marksB_len]
  exact h2
end Go.Proofs.YtcdhblfefpkjgaaDoor.IN
