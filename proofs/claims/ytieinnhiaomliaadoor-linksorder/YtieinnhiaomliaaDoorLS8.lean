/-
  My own text: layer 23: merging two runs in place: the halves parted.
-/
import Derived.Test.YtieinnhiaomliaaDoorLS7
import Derived.Deep.CutRange
namespace Go.Proofs.YtieinnhiaomliaaDoor
open Go.RowKit

/-- What is asked of the merge of [a, m) and [m, b). -/
def MergeOk (n a m b : Nat) : Prop := ∀ (P pb cap : Nat) (pr : Nat → Int) (L : List Nat) (w : World), NV w P L → SI pr n L → Srt pr L a m → Srt pr L m b → (∀ W, w.grownBy W (some P) → PZ W n pb pr) →
  Calls Tryd.prog 53 #[.slice (some ⟨P, 0, none⟩) n cap, .int .i64 (a : Int), .int .i64 (m : Int), .int .i64 (b : Int), lessV pb] w fun e w' => (∃ u, e = .returned u) ∧ ∃ L', NV w' P L' ∧ Mgd pr n a b L L' ∧ w.grownBy w' (some P)
theorem sT_lt {a m b c : Nat} (hc : (a + b) / 2 = c) (h : c < m) : sT a m b = c + m - b ∧ rT a m b = c := by unfold sT rT; rw [hc, if_pos h, if_pos h]; exact ⟨rfl, rfl⟩
theorem sT_ge {a m b c : Nat} (hc : (a + b) / 2 = c) (h : ¬ c < m) : sT a m b = a ∧ rT a m b = m := by unfold sT rT; rw [hc, if_neg h, if_neg h]; exact ⟨rfl, rfl⟩
theorem wSub {x y z : Nat} (h : z + y = x) (b : x ≤ 20000) : wrap64 ((x : Int) - (y : Int)) = (z : Int) ∧ IntKind.i64.wrap ((x : Int) - (y : Int)) = (z : Int) := ⟨by unfold wrap64; omega, by rw [IntKind.wrap_i64]; omega⟩
theorem wAdd {x y z : Nat} (h : x + y = z) (b : z ≤ 20000) : wrap64 ((x : Int) + (y : Int)) = (z : Int) ∧ IntKind.i64.wrap ((x : Int) + (y : Int)) = (z : Int) := ⟨by unfold wrap64; omega, by rw [IntKind.wrap_i64]; omega⟩
theorem wAdd0 {x y : Nat} (a : x ≤ 4096) (b : y ≤ 4096) : wrap64 ((x : Int) + (y : Int)) = (x : Int) + (y : Int) := by unfold wrap64; omega
theorem wSub1 {x z : Nat} (h : z + 1 = x) (b : x ≤ 20000) : wrap64 ((x : Int) - 1) = (z : Int) ∧ IntKind.i64.wrap ((x : Int) - 1) = (z : Int) := ⟨by unfold wrap64; omega, by rw [IntKind.wrap_i64]; omega⟩
theorem wAdd1 {x z : Nat} (h : x + 1 = z) (b : z ≤ 20000) : wrap64 ((x : Int) + 1) = (z : Int) ∧ IntKind.i64.wrap ((x : Int) + 1) = (z : Int) := ⟨by unfold wrap64; omega, by rw [IntKind.wrap_i64]; omega⟩
theorem half_ge {a b c m : Nat} (e : (a + b) / 2 = c) (h : c < m) : b ≤ c + m := by omega
theorem half_mid {a m b : Nat} (h : a + 1 < m) (k : m + 1 < b) : a < (a + b) / 2 ∧ (a + b) / 2 < b := by omega
theorem not_one {a d m : Nat} (h : d + a = m) (l : a + 1 < m) : decide ((d : Int) = 1) = false ∧ ¬ (d : Int) = 1 ∧ ¬ d = 1 ∧ ((d : Int) == 1) = false := ⟨by rw [decide_eq_false_iff_not]; omega, by omega, by omega, by rw [beq_eq_false_iff_ne]; omega⟩
theorem tp_nums {a m b : Nat} (ham : a < m) (hmb : m < b) : a ≤ sT a m b ∧ sT a m b ≤ rT a m b ∧ rT a m b ≤ m ∧ rT a m b ≤ (a + b) / 2 ∧ (a + b) / 2 + m ≤ b + sT a m b ∧ m + rT a m b ≤ (a + b) / 2 + m := by
  obtain ⟨q1, q2, q3, q4, q5, q6, _, _⟩ := tp_rng ham hmb
  exact ⟨q1, q2, q3, q4, by omega, by omega⟩
theorem Srt.of_eq {pr : Nat → Int} {L R : List Nat} {a b : Nat} (h : Srt pr L a b) (e : ∀ t, a ≤ t → t < b → R[t]? = L[t]?) : Srt pr R a b := fun u v x y h1 h2 h3 hx hy => h u v x y h1 h2 h3 (by rw [← e u h1 (by omega)]; exact hx) (by rw [← e v (by omega) h3]; exact hy)
set_option maxRecDepth 100000 in
set_option maxHeartbeats 4000000 in
theorem symMain_any (a m b n : Nat) (ham : a + 1 < m) (hmb : m + 1 < b) (hbn : b ≤ n) (hn : n ≤ 4096) (rec_ : ∀ a' m' b' : Nat, a' < m' → m' < b' → b' ≤ n → b' - a' < b - a → MergeOk n a' m' b') : MergeOk n a m b := by
  intro P pb cap pr L w hN hS hs1 hs2 hP
  have HP := hide hP
  have HB := hide (show _ ∧ _ ∧ _ ∧ _ from ⟨ham, hmb, hbn, hn⟩)
  have HS0 := hide hS
  have HSA := hide hs1
  have HSB := hide hs2
  have HREC := hide rec_
  have HN0 := hide hN
  clear rec_ hN hS hs1 hs2 hP
  have HC0 := half_mid ham hmb
  obtain ⟨c, hc⟩ : ∃ c, Hid ((a + b) / 2 = c) := ⟨_, hide rfl⟩
  rw [hc.out] at HC0
  have HC := hide HC0
  clear HC0
  obtain ⟨q, hq⟩ : ∃ q, Hid (c + m = q) := ⟨_, hide rfl⟩
  have HQB : Hid (q ≤ 20000) := hide (by have := hq.out; have := HC.out; omega)
  obtain ⟨p, hp⟩ : ∃ p, Hid (p + 1 = q) := ⟨q - 1, hide (by have := hq.out; omega)⟩
  obtain ⟨s0, hs0⟩ : ∃ s0, Hid (sT a m b = s0) := ⟨_, hide rfl⟩
  obtain ⟨r0, hr0⟩ : ∃ r0, Hid (rT a m b = r0) := ⟨_, hide rfl⟩
  have HT0 := tp_nums (a := a) (m := m) (b := b) (by omega) (by omega)
  rw [hs0.out, hr0.out, hc.out, hq.out] at HT0
  have HT := hide HT0
  clear HT0
  obtain ⟨d, hd⟩ : ∃ d, Hid (d + a = m) := ⟨m - a, hide (by omega)⟩
  obtain ⟨f, hf⟩ : ∃ f, Hid (f + m = b) := ⟨b - m, hide (by omega)⟩
  have bn : b ≤ 4096 := by omega
  have an : a ≤ 4096 := by omega
  have mn : m ≤ 4096 := by omega
  have ec : ((a : Int) + (b : Int)) / 2 = (c : Int) := half_eq hc.out
  obtain ⟨dd, dd2, dd3, dd4⟩ := not_one hd.out ham
  obtain ⟨df, df2, df3, df4⟩ := not_one hf.out hmb
  obtain ⟨wm, wm2⟩ := wSub hd.out (Nat.le_trans mn (by decide))
  obtain ⟨wb, wb2⟩ := wSub hf.out (Nat.le_trans bn (by decide))
  have w1 := wAdd0 an bn
  obtain ⟨wq, wq2⟩ := wAdd hq.out HQB.out
  have HS00 : Hid (s0 ≤ r0) := hide HT.out.2.1
  clear ham hmb hbn hn
  unfold lessV
  go_enter Tryd.func53, Tryd.ntmps53
  go_upto_region 24 with fail
  clear wm wm2 dd dd2 dd3 dd4 wb wb2 df df2 df3 df4
  go_upto_if 140 with fail
  try rw [ec]
  clear w1 ec wq wq2
  go_cut [20, 21] from 129 to 219 (fun sv rv wx => sv = .int .i64 (s0 : Int) ∧ rv = .int .i64 (r0 : Int) ∧ wx = w)
  case first =>
    by_cases hcm : c < m
    · have hg : decide ((c : Int) < (m : Int)) = true := by rw [decide_eq_true_eq]; omega
      have hg' : decide (c < m) = true := decide_eq_true hcm
      have e1 := sT_lt hc.out hcm
      have E1 : Hid (s0 = c + m - b ∧ r0 = c) := hide (by rw [← hs0.out, ← hr0.out]; exact e1)
      have e2 : s0 + b = q := by have := E1.out; have := hq.out; have := half_ge hc.out hcm; omega
      obtain ⟨ws, ws2⟩ := wSub e2 HQB.out
      clear e2
      clear e1
      go_wp2_with fail
      go_meet
      exact ⟨rfl, by rw [E1.out.2], rfl⟩
    · have hg : decide ((c : Int) < (m : Int)) = false := by rw [decide_eq_false_iff_not]; omega
      have hg' : decide (c < m) = false := decide_eq_false hcm
      have e1 := sT_ge hc.out hcm
      have E1 : Hid (s0 = a ∧ r0 = m) := hide (by rw [← hs0.out, ← hr0.out]; exact e1)
      clear e1
      go_wp2_with fail
      go_meet
      exact ⟨by rw [E1.out.1], by rw [E1.out.2], rfl⟩
  case rest =>
    obtain ⟨rfl, rfl, hw⟩ := hcut
    obtain rfl := hw.symm
    obtain ⟨wp, wp2⟩ := wSub1 hp.out HQB.out
    have HAT : Hid (s0 ≤ s0 ∧ s0 ≤ r0 ∧ r0 ≤ r0) := hide ⟨Nat.le_refl _, HS00.out, Nat.le_refl _⟩
    go_wp2_with fail
    clear wp wp2
    go_loopw [20, 21] (fun iv jv wr => ∃ (s r : Nat), iv = .int .i64 (s : Int) ∧ jv = .int .i64 (r : Int) ∧ Hid (s0 ≤ s ∧ s ≤ r ∧ r ≤ r0) ∧ Hid (s = s0 ∨ ∀ x y : Nat, L[s - 1]? = some x → L[q - s]? = some y → pr y ≤ pr x) ∧ Hid (r = r0 ∨ ∀ x y : Nat, L[r]? = some x → L[q - r - 1]? = some y → pr x < pr y) ∧ Hid (NV wr P L) ∧ Hid (w.grownBy wr (some P))) (fun iv jv _ => (intOf jv).toNat - (intOf iv).toNat)
    case atStart => exact ⟨s0, r0, rfl, rfl, HAT, hide (.inl rfl), hide (.inl rfl), HN0, hide (gb_refl _ _)⟩
    case round =>
      clear HN0
      obtain ⟨i, j, rfl, rfl, HJ, HF1, HF2, HV, HG⟩ := hrel
      by_cases hlt : i < j
      · have hd1 : decide ((i : Int) < (j : Int)) = true := by rw [decide_eq_true_eq]; omega
        have hd1' : decide (i < j) = true := decide_eq_true hlt
        have jn : j ≤ 4096 := by have := HJ.out; have := HT.out; have := HB.out; omega
        obtain ⟨h, hh⟩ : ∃ h, Hid ((i + j) / 2 = h) := ⟨_, hide rfl⟩
        have HH : Hid (i ≤ h ∧ h < j) := hide (half_in hlt hh.out)
        obtain ⟨h2, hh2⟩ : ∃ h2, Hid (h + 1 = h2) := ⟨_, hide rfl⟩
        obtain ⟨g, hg⟩ : ∃ g, Hid (g + h = p) := ⟨p - h, hide (by have := HH.out; have := HJ.out; have := HT.out; have := hp.out; have := HB.out; omega)⟩
        have hin : i ≤ 4096 := by omega
        have hn2 : h < n := by have := HH.out; have := HJ.out; have := HT.out; have := HB.out; omega
        have gn2 : g < n := by have := HH.out; have := HJ.out; have := HT.out; have := HB.out; have := hp.out; have := hg.out; omega
        obtain ⟨x, hx⟩ : ∃ x, L[h]? = some x := ⟨_, List.getElem?_eq_getElem (by rw [HS0.out.len]; exact hn2)⟩
        obtain ⟨y, hy⟩ : ∃ y, L[g]? = some y := ⟨_, List.getElem?_eq_getElem (by rw [HS0.out.len]; exact gn2)⟩
        have hxn := HS0.out.lt _ _ hx
        have hyn := HS0.out.lt _ _ hy
        have HX := hide hx
        have HY := hide hy
        have c1 := HV.out.cell hx
        have c2 := HV.out.cell hy
        have ix0 : (0 : Int) ≤ (h : Int) := by omega
        have ix1 : (h : Int) < (n : Int) := by omega
        have ix2 : (0 : Int) ≤ (g : Int) := by omega
        have ix3 : (g : Int) < (n : Int) := by omega
        have HR := hide (fun q => ranked1_any n pb y x pr (wr.drewN q) ((HP.out _ HG.out).drew q) hyn hxn)
        obtain ⟨r, hr⟩ : ∃ r, Hid (cmpI (pr x) (pr y) = r) := ⟨_, hide rfl⟩
        rw [hr.out] at HR
        have HV2 := hide (fun q => (hide HV.out : Hid (NV (wr.drewN q) P L)))
        have HG2 := hide (fun q => hide (gb_drewN HG.out q))
        have HQ : Hid (q - h2 = g ∧ q - h - 1 = g ∧ h2 - 1 = h) := hide (by have := hg.out; have := hp.out; have := hh2.out; omega)
        clear hx hy hxn hyn HV HG hn2 gn2
        have HJ1 : Hid (s0 ≤ i ∧ i ≤ h ∧ h ≤ r0) := hide (by have := HH.out; have := HJ.out; omega)
        have HJ2 : Hid (s0 ≤ h2 ∧ h2 ≤ j ∧ j ≤ r0) := hide (by have := HH.out; have := HJ.out; have := hh2.out; omega)
        have HM1 : Hid (h - i < j - i ∧ j - h2 < j - i) := hide (by have := HH.out; have := hh2.out; omega)
        have eh : ((i : Int) + (j : Int)) / 2 = (h : Int) := half_eq hh.out
        have w1 := wAdd0 hin jn
        have HB2 : Hid (h2 ≤ 20000 ∧ p ≤ 20000) := hide (by have := HH.out; have := hh2.out; have := hp.out; have := HQB.out; omega)
        obtain ⟨wh, wh2⟩ := wAdd1 hh2.out HB2.out.1
        obtain ⟨wg, wg2⟩ := wSub hg.out HB2.out.2
        by_cases hneg : r < 0
        · have hd3 : decide (r < 0) = true := decide_eq_true hneg
          have HPR : Hid (pr x < pr y) := hide (by rw [← hr.out] at hneg; exact cmpI_neg.1 hneg)
          clear hneg
          go_wp2_with fail
          try rw [eh]
          go_quiet (first | (go_at_call 38; exact Calls.quiet_of (HR.out _)))
          go_wp2_with fail
          go_roundw
          case rel => exact ⟨i, h, rfl, rfl, HJ1, HF1, hide (.inr (fun x2 y2 q1 q2 => by
            rw [HQ.out.2.1] at q2
            have q3 := HX.out; have q4 := HY.out; rw [q1] at q3; cases q3; rw [q2] at q4; cases q4; exact HPR.out)), HV2.out _, HG2.out _⟩
          case measure => simp only [intOf, Int.toNat_natCast]; exact HM1.out.1
        · have hd3 : decide (r < 0) = false := decide_eq_false hneg
          have HPR : Hid (pr y ≤ pr x) := hide (by rw [← hr.out] at hneg; exact Int.not_lt.1 (fun h => hneg (cmpI_neg.2 h)))
          clear hneg
          go_wp2_with fail
          try rw [eh]
          go_quiet (first | (go_at_call 38; exact Calls.quiet_of (HR.out _)))
          go_wp2_with fail
          go_roundw
          case rel => exact ⟨h2, j, by first | rfl | exact iv_succ wh, rfl, HJ2, hide (.inr (fun x2 y2 q1 q2 => by
            rw [HQ.out.2.2] at q1; rw [HQ.out.1] at q2
            have q3 := HX.out; have q4 := HY.out; rw [q1] at q3; cases q3; rw [q2] at q4; cases q4; exact HPR.out)), HF2, HV2.out _, HG2.out _⟩
          case measure => first | (rw [wh]; simp only [intOf, Int.toNat_natCast]; exact HM1.out.2) | (simp only [intOf, Int.toNat_natCast]; exact HM1.out.2)
      · have e : i = j := by have := HJ.out; omega
        subst e
        have hd1 : decide ((i : Int) < (i : Int)) = false := by simp
        have hd1' : decide (i < i) = false := by simp
        have HTP : Hid (TP pr L a m b (sT a m b) (rT a m b) i) := hide (by
          refine ⟨by rw [hs0.out]; exact HJ.out.1, by rw [hr0.out]; exact HJ.out.2.2, ?_, ?_⟩
          · rw [hs0.out, hc.out, hq.out]; exact HF1.out
          · rw [hr0.out, hc.out, hq.out]; exact HF2.out)
        obtain ⟨g, hg⟩ : ∃ g, Hid (i + g = q) := ⟨q - i, hide (by have := HJ.out; have := HT.out; omega)⟩
        have HI : Hid (a ≤ i ∧ i ≤ m ∧ i ≤ c ∧ m ≤ g ∧ c ≤ g ∧ g ≤ b ∧ a < c ∧ c < b ∧ b ≤ n ∧ n ≤ 4096) := hide (by have := hg.out; have := HJ.out; have := HT.out; have := hq.out; have := HB.out; have := HC.out; omega)
        have HE : Hid ((a + b) / 2 + m - i = g) := hide (by rw [hc.out, hq.out]; have := hg.out; omega)
        clear HF1 HF2 hlt HT HJ
        obtain ⟨wg, wg2⟩ := wSub (show g + i = q by rw [Nat.add_comm]; exact hg.out) HQB.out
        obtain ⟨W1, rfl⟩ : ∃ W1, W1 = wr := ⟨wr, rfl⟩
        have HVG : Hid (NV W1 P L ∧ w.grownBy W1 (some P)) := hide ⟨HV.out, HG.out⟩
        clear HV HG
        go_upto_region 39 with fail
        clear wg wg2
        obtain ⟨b1, hb1⟩ : ∃ b1, Hid (decide (i < m ∧ m < g) = b1) := ⟨_, hide rfl⟩
        go_cut [185] from 178 to 185 (fun v wx => v = .bool b1 ∧ Hid (NV wx P L ∧ w.grownBy wx (some P)))
        case first =>
          by_cases g1 : i < m
          · have g2 : decide ((i : Int) < (m : Int)) = true := by rw [decide_eq_true_eq]; omega
            have g2' : decide (i < m) = true := decide_eq_true g1
            by_cases g3 : m < g
            · have g4 : decide ((m : Int) < (g : Int)) = true := by rw [decide_eq_true_eq]; omega
              have g4' : decide (m < g) = true := decide_eq_true g3
              have gb : Hid (b1 = true) := hide (by rw [← hb1.out]; exact decide_eq_true ⟨g1, g3⟩)
              go_wp2_with fail
              go_meet
              exact ⟨by rw [gb.out], HVG⟩
            · have g4 : decide ((m : Int) < (g : Int)) = false := by rw [decide_eq_false_iff_not]; omega
              have g4' : decide (m < g) = false := decide_eq_false g3
              have gb : Hid (b1 = false) := hide (by rw [← hb1.out]; exact decide_eq_false (fun h => g3 h.2))
              go_wp2_with fail
              go_meet
              exact ⟨by rw [gb.out], HVG⟩
          · have g2 : decide ((i : Int) < (m : Int)) = false := by rw [decide_eq_false_iff_not]; omega
            have g2' : decide (i < m) = false := decide_eq_false g1
            have gb : Hid (b1 = false) := hide (by rw [← hb1.out]; exact decide_eq_false (fun h => g1 h.1))
            go_wp2_with fail
            go_meet
            exact ⟨by rw [gb.out], HVG⟩
        case rest =>
          clear HVG
          obtain ⟨rfl, HVG⟩ := hcut
          go_upto_if 185 with fail
          go_cut [] from 178 to 191 (fun wx => ∃ M, Hid (NV wx P M ∧ Via L M (rho i m g) ∧ w.grownBy wx (some P)))
          case first =>
            by_cases g1 : i < m ∧ m < g
            · obtain rfl : b1 = true := by rw [← hb1.out]; exact decide_eq_true g1
              have HR := hide (rotate_any i m g n P cap (lessV pb) L wc HVG.out.1 HS0.out.len g1.1 g1.2 (by have := HI.out; omega) HI.out.2.2.2.2.2.2.2.2.2)
              unfold lessV at HR
              clear g1
              go_wp2_with fail
              refine HR.out.mono ?_
              rintro e w1 ⟨⟨u, rfl⟩, L', h1, h2, h3⟩
              have HF : Hid (NV w1 P L' ∧ Via L L' (rho i m g) ∧ w.grownBy w1 (some P)) := hide ⟨h1, h2, gb_trans HVG.out.2 h3⟩
              clear h1 h2 h3 HR
              go_wp2_with fail
              go_meet
              exact ⟨L', HF⟩
            · obtain rfl : b1 = false := by rw [← hb1.out]; exact decide_eq_false g1
              have HF : Hid (NV wc P L ∧ Via L L (rho i m g) ∧ w.grownBy wc (some P)) := hide ⟨HVG.out.1, (Via.refl L).congr (fun t => (rho_none (by have := HI.out; omega) (by have := HI.out; omega) (by have := HI.out; omega)).symm), HVG.out.2⟩
              clear g1
              go_wp2_with fail
              go_meet
              exact ⟨L, HF⟩
          case rest =>
            clear HVG hb1
            obtain ⟨M, HM⟩ := hcut
            have HCUT : Hid (SI pr n M ∧ Srt pr M a i ∧ Srt pr M i c ∧ Srt pr M c g ∧ Srt pr M g b ∧ (∀ u v x y : Nat, a ≤ u → u < c → c ≤ v → v < b → M[u]? = some x → M[v]? = some y → pr y ≤ pr x) ∧ (∀ t, t < a ∨ b ≤ t → M[t]? = L[t]?) ∧ (∀ j z : Nat, a ≤ j → j < b → M[j]? = some z → ∃ k, a ≤ k ∧ k < b ∧ L[k]? = some z)) := hide (by
              have h := TP.cut (R := M) HS0.out (by have := HB.out; omega) (by have := HB.out; omega) HB.out.2.2.1 HSA.out HSB.out HTP.out (by rw [HE.out]; exact HM.out.2.1)
              rw [HE.out, hc.out] at h
              exact h)
            have HVG : Hid (NV wc P M ∧ w.grownBy wc (some P)) := hide ⟨HM.out.1, HM.out.2.2⟩
            clear HM
            obtain ⟨W2, rfl⟩ : ∃ W2, W2 = wc := ⟨wc, rfl⟩
            go_upto_region 41 with fail
            obtain ⟨b2, hb2⟩ : ∃ b2, Hid (decide (a < i ∧ i < c) = b2) := ⟨_, hide rfl⟩
            go_cut [199] from 192 to 199 (fun v wx => v = .bool b2 ∧ Hid (NV wx P M ∧ w.grownBy wx (some P)))
            case first =>
              by_cases g1 : a < i
              · have g2 : decide ((a : Int) < (i : Int)) = true := by rw [decide_eq_true_eq]; omega
                have g2' : decide (a < i) = true := decide_eq_true g1
                by_cases g3 : i < c
                · have g4 : decide ((i : Int) < (c : Int)) = true := by rw [decide_eq_true_eq]; omega
                  have g4' : decide (i < c) = true := decide_eq_true g3
                  have gb : Hid (b2 = true) := hide (by rw [← hb2.out]; exact decide_eq_true ⟨g1, g3⟩)
                  go_wp2_with fail
                  go_meet
                  exact ⟨by rw [gb.out], HVG⟩
                · have g4 : decide ((i : Int) < (c : Int)) = false := by rw [decide_eq_false_iff_not]; omega
                  have g4' : decide (i < c) = false := decide_eq_false g3
                  have gb : Hid (b2 = false) := hide (by rw [← hb2.out]; exact decide_eq_false (fun h => g3 h.2))
                  go_wp2_with fail
                  go_meet
                  exact ⟨by rw [gb.out], HVG⟩
              · have g2 : decide ((a : Int) < (i : Int)) = false := by rw [decide_eq_false_iff_not]; omega
                have g2' : decide (a < i) = false := decide_eq_false g1
                have gb : Hid (b2 = false) := hide (by rw [← hb2.out]; exact decide_eq_false (fun h => g1 h.1))
                go_wp2_with fail
                go_meet
                exact ⟨by rw [gb.out], HVG⟩
            case rest =>
              clear HVG
              obtain ⟨rfl, HVG⟩ := hcut
              go_upto_if 199 with fail
              go_cut [] from 192 to 205 (fun wx => ∃ R, Hid (NV wx P R ∧ Mgd pr n a c M R ∧ w.grownBy wx (some P)))
              case first =>
                by_cases g1 : a < i ∧ i < c
                · obtain rfl : b2 = true := by rw [← hb2.out]; exact decide_eq_true g1
                  have HR := hide (HREC.out a i c g1.1 g1.2 (by have := HI.out; omega) (by have := HI.out; omega) P pb cap pr M wc HVG.out.1 HCUT.out.1 HCUT.out.2.1 HCUT.out.2.2.1 (fun W h => HP.out W (gb_trans HVG.out.2 h)))
                  unfold lessV at HR
                  clear g1
                  go_wp2_with fail
                  refine HR.out.mono ?_
                  rintro e w1 ⟨⟨u, rfl⟩, L', h1, h2, h3⟩
                  have HF : Hid (NV w1 P L' ∧ Mgd pr n a c M L' ∧ w.grownBy w1 (some P)) := hide ⟨h1, h2, gb_trans HVG.out.2 h3⟩
                  clear h1 h2 h3 HR
                  go_wp2_with fail
                  go_meet
                  exact ⟨L', HF⟩
                · obtain rfl : b2 = false := by rw [← hb2.out]; exact decide_eq_false g1
                  have HF : Hid (NV wc P M ∧ Mgd pr n a c M M ∧ w.grownBy wc (some P)) := hide ⟨HVG.out.1, Mgd.refl HCUT.out.1 (Srt.whole HCUT.out.2.1 HCUT.out.2.2.1 (by have := HI.out; omega)), HVG.out.2⟩
                  clear g1
                  go_wp2_with fail
                  go_meet
                  exact ⟨M, HF⟩
              case rest =>
                clear HVG hb2
                obtain ⟨R, HM⟩ := hcut
                have HVG : Hid (NV wc P R ∧ w.grownBy wc (some P)) := hide ⟨HM.out.1, HM.out.2.2⟩
                have HMG := hide HM.out.2.1
                have HSG : Hid (Srt pr R c g ∧ Srt pr R g b) := hide ⟨HCUT.out.2.2.2.1.of_eq (fun t h1 h2 => HMG.out.out t (.inr h1)), HCUT.out.2.2.2.2.1.of_eq (fun t h1 h2 => HMG.out.out t (.inr (by have := HI.out; omega)))⟩
                have HEND : Hid (∀ R2, Mgd pr n c b R R2 → Mgd pr n a b L R2) := hide (fun R2 h => Mgd.join (by have := HI.out; omega) (by have := HI.out; omega) HCUT.out.2.2.2.2.2.1 HCUT.out.2.2.2.2.2.2.1 HCUT.out.2.2.2.2.2.2.2 HMG.out h)
                clear HM
                obtain ⟨W3, rfl⟩ : ∃ W3, W3 = wc := ⟨wc, rfl⟩
                go_upto_region 43 with fail
                obtain ⟨b3, hb3⟩ : ∃ b3, Hid (decide (c < g ∧ g < b) = b3) := ⟨_, hide rfl⟩
                go_cut [213] from 206 to 213 (fun v wx => v = .bool b3 ∧ Hid (NV wx P R ∧ w.grownBy wx (some P)))
                case first =>
                  by_cases g1 : c < g
                  · have g2 : decide ((c : Int) < (g : Int)) = true := by rw [decide_eq_true_eq]; omega
                    have g2' : decide (c < g) = true := decide_eq_true g1
                    by_cases g3 : g < b
                    · have g4 : decide ((g : Int) < (b : Int)) = true := by rw [decide_eq_true_eq]; omega
                      have g4' : decide (g < b) = true := decide_eq_true g3
                      have gb : Hid (b3 = true) := hide (by rw [← hb3.out]; exact decide_eq_true ⟨g1, g3⟩)
                      go_wp2_with fail
                      go_meet
                      exact ⟨by rw [gb.out], HVG⟩
                    · have g4 : decide ((g : Int) < (b : Int)) = false := by rw [decide_eq_false_iff_not]; omega
                      have g4' : decide (g < b) = false := decide_eq_false g3
                      have gb : Hid (b3 = false) := hide (by rw [← hb3.out]; exact decide_eq_false (fun h => g3 h.2))
                      go_wp2_with fail
                      go_meet
                      exact ⟨by rw [gb.out], HVG⟩
                  · have g2 : decide ((c : Int) < (g : Int)) = false := by rw [decide_eq_false_iff_not]; omega
                    have g2' : decide (c < g) = false := decide_eq_false g1
                    have gb : Hid (b3 = false) := hide (by rw [← hb3.out]; exact decide_eq_false (fun h => g1 h.1))
                    go_wp2_with fail
                    go_meet
                    exact ⟨by rw [gb.out], HVG⟩
                case rest =>
                  clear HVG
                  obtain ⟨rfl, HVG⟩ := hcut
                  by_cases g1 : c < g ∧ g < b
                  · obtain rfl : b3 = true := by rw [← hb3.out]; exact decide_eq_true g1
                    have HR := hide (HREC.out c g b g1.1 g1.2 HB.out.2.2.1 (by have := HI.out; omega) P pb cap pr R wc HVG.out.1 HMG.out.si HSG.out.1 HSG.out.2 (fun W h => HP.out W (gb_trans HVG.out.2 h)))
                    unfold lessV at HR
                    clear g1
                    go_wp2_with fail
                    refine HR.out.mono ?_
                    rintro e w1 ⟨⟨u, rfl⟩, L', h1, h2, h3⟩
                    have HF : Hid (∃ L', NV w1 P L' ∧ Mgd pr n a b L L' ∧ w.grownBy w1 (some P)) := hide ⟨L', h1, HEND.out L' h2, gb_trans HVG.out.2 h3⟩
                    clear h1 h2 h3 HR
                    go_wp2_with fail
                    refine bodyPost_end (v := .tuple #[]) ?r1 ?r2 ?r3
                    case r1 => exact results_none rfl _ _ _
                    case r2 => rfl
                    case r3 => exact ⟨⟨_, rfl⟩, HF.out⟩
                  · obtain rfl : b3 = false := by rw [← hb3.out]; exact decide_eq_false g1
                    have HF : Hid (∃ L', NV wc P L' ∧ Mgd pr n a b L L' ∧ w.grownBy wc (some P)) := hide ⟨R, HVG.out.1, HEND.out R (Mgd.refl HMG.out.si (Srt.whole HSG.out.1 HSG.out.2 (by have := HI.out; omega))), HVG.out.2⟩
                    clear g1
                    go_wp2_with fail
                    refine bodyPost_end (v := .tuple #[]) ?r1 ?r2 ?r3
                    case r1 => exact results_none rfl _ _ _
                    case r2 => rfl
                    case r3 => exact ⟨⟨_, rfl⟩, HF.out⟩
end Go.Proofs.YtieinnhiaomliaaDoor
