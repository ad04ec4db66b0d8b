/-
  My own text: frames, taken apart.
-/
import Derived.Test.YthalmfbcdkihgaaDoorWF1
namespace Go.Proofs.YthalmfbcdkihgaaDoor
open Go.RowKit Go.Extern

/-- What is read ahead of the sum's test. -/
def un1 (l : List UInt8) : Int × List UInt8 × Int := rdU 65536 l 0
def un2 (l : List UInt8) : Int × List UInt8 × Int := rdU 18446744073709551615 (un1 l).2.1 (un1 l).2.2
def un3 (l : List UInt8) : List UInt8 × List UInt8 × Int := rdT 4 (un2 l).2.1 (un2 l).2.2
def un4 (l : List UInt8) : List UInt8 × List UInt8 × Int := rdT (un1 l).1 (un3 l).2.1 (un3 l).2.2
/-- The error of a frame. -/
def unE (l : List UInt8) : Int := if (un4 l).2.2 ≠ 0 then (un4 l).2.2 else if bval (un3 l).1 = ((fsum (un2 l).1 (un4 l).1).toNat : Int) then 0 else 7
theorem un_rng (l : List UInt8) : (0 ≤ (un1 l).1 ∧ (un1 l).1 < 18446744073709551616 ∧ 0 ≤ (un1 l).2.2 ∧ (un1 l).2.2 ≤ 24 ∧ (un1 l).2.1.length ≤ l.length) ∧ (0 ≤ (un2 l).1 ∧ (un2 l).1 < 18446744073709551616 ∧ 0 ≤ (un2 l).2.2 ∧ (un2 l).2.2 ≤ 24 ∧ (un2 l).2.1.length ≤ l.length) ∧ (0 ≤ (un3 l).2.2 ∧ (un3 l).2.2 ≤ 24 ∧ (un3 l).2.1.length ≤ l.length) ∧ (0 ≤ (un4 l).2.2 ∧ (un4 l).2.2 ≤ 24 ∧ (un4 l).2.1.length ≤ l.length) := by
  have h1 := rdU_rng 65536 l 0 (by decide) (by decide)
  have h2 := rdU_rng 18446744073709551615 (un1 l).2.1 (un1 l).2.2 h1.2.2.1 h1.2.2.2.1
  have h3 := rdT_rng 4 (un2 l).2.1 (un2 l).2.2 h2.2.2.1 h2.2.2.2.1
  have h4 := rdT_rng (un1 l).1 (un3 l).2.1 (un3 l).2.2 h3.1 h3.2.1
  have e1 : (un1 l).2.1.length ≤ l.length := h1.2.2.2.2
  have e2 : (un2 l).2.1.length ≤ (un1 l).2.1.length := h2.2.2.2.2
  have e3 : (un3 l).2.1.length ≤ (un2 l).2.1.length := h3.2.2.2
  have e4 : (un4 l).2.1.length ≤ (un3 l).2.1.length := h4.2.2.2
  exact ⟨⟨h1.1, h1.2.1, h1.2.2.1, h1.2.2.2.1, e1⟩, ⟨h2.1, h2.2.1, h2.2.2.1, h2.2.2.2.1, by omega⟩, ⟨h3.1, h3.2.1, by omega⟩, ⟨h4.1, h4.2.1, by omega⟩⟩
theorem rdT_len (size : Int) (l : List UInt8) (e : Int) : (rdT size l e).1.length ≤ l.length := by
  unfold rdT
  split
  · exact Nat.zero_le _
  · split
    · exact Nat.zero_le _
    · show (List.take _ _).length ≤ _; rw [List.length_take]; omega
theorem rdT_four (l : List UInt8) (e : Int) : (rdT 4 l e).1.length ≤ 4 := by
  unfold rdT
  split
  · exact Nat.zero_le _
  · split
    · exact Nat.zero_le _
    · show (List.take _ _).length ≤ _; rw [List.length_take]; simp; omega

set_option maxRecDepth 100000 in
set_option maxHeartbeats 2000000 in
theorem unframe_any (v : Value) (l : List UInt8) (w : World) (hv : RB w v l) (hT : Tab w) (hl : l.length ≤ 140737488355328) :
    Calls Tryd.prog 21 #[v] w fun e w' => (∃ u, e = .returned (.tuple #[.int .u64 (if unE l = 0 then (un2 l).1 else 0), u, .int .i64 (if unE l = 0 then (l.length : Int) - ((un4 l).2.1.length : Int) else 0), errV (unE l)]) ∧ Own w' w.heap.size u (if unE l = 0 then (un4 l).1 else [])) ∧ Below w.heap.size w w' := by
  obtain ⟨⟨x0, x1, a0, a24, al⟩, ⟨y0, y1, b0, b24, bl⟩, ⟨c0, c24, cl⟩, ⟨d0, d24, dl⟩⟩ := un_rng l
  have HT := hide hT
  have p4 : (un3 l).1.length ≤ 4 := rdT_four _ _
  have pl : (un4 l).1.length ≤ l.length := Nat.le_trans (rdT_len _ _ _) cl
  obtain ⟨g0, hg0⟩ := hv
  have hgg : ∃ g, RG w g v l ∧ g ≠ w.heap.size := by
    by_cases h : l = []
    · subst h; exact ⟨w.heap.size + 1, hg0.any, by omega⟩
    · refine ⟨g0, hg0, ?_⟩
      obtain ⟨a, cap, _, _, hr⟩ := hg0
      rcases hr with h0 | ⟨off, _, hlt, _⟩
      · exact absurd h0 h
      · omega
  obtain ⟨g, hg, hne⟩ := hgg
  have HRD : Hid (Rd (w.alloc (.cells #[v, .nilIface] 40)) 40 w.heap.size g l 0) := hide ⟨⟨v, Blk.new _ _ _, hg.later ((Below.refl _ _).alloc (Nat.le_refl _) _)⟩, hne⟩
  have HB0 := hide ((Below.refl w.heap.size w).alloc (Nat.le_refl _) (.cells #[v, .nilIface] 40))
  have HU1 := hide (srcUint_any 65536 _ _ _ _ _ _ HRD.out (by decide) hl)
  have HU2 := hide (fun (W : World) (h : Rd W 40 w.heap.size g (un1 l).2.1 (un1 l).2.2) => srcUint_any 18446744073709551615 _ _ _ _ _ W h a0 (by omega))
  have HU3 := hide (fun (W : World) (h : Rd W 40 w.heap.size g (un2 l).2.1 (un2 l).2.2) => take_any 4 _ _ _ _ _ W (by decide) h b0 (by omega))
  have HU4 := hide (fun (W : World) (h : Rd W 40 w.heap.size g (un3 l).2.1 (un3 l).2.2) => take_any (un1 l).1 _ _ _ _ _ W x0 h c0 (by omega))
  have HE : Hid (unE l = if (un4 l).2.2 ≠ 0 then (un4 l).2.2 else if bval (un3 l).1 = ((fsum (un2 l).1 (un4 l).1).toNat : Int) then 0 else 7) := hide rfl
  have q1 : un1 l = rdU 65536 l 0 := rfl
  have q2 : un2 l = rdU 18446744073709551615 (un1 l).2.1 (un1 l).2.2 := rfl
  have q3 : un3 l = rdT 4 (un2 l).2.1 (un2 l).2.2 := rfl
  have q4 : un4 l = rdT (un1 l).1 (un3 l).2.1 (un3 l).2.2 := rfl
  rw [← q1] at HU1
  rw [← q2] at HU2
  rw [← q3] at HU3
  rw [← q4] at HU4
  clear q1 q2 q3 q4
  obtain ⟨av, cv, rfl, _, _⟩ := hg
  have nG := Tryd.nilNeqG
  have nN := Tryd.nilNeq
  clear hT hg0 hne al bl cl a0 a24 b24 c24
  generalize un1 l = U1 at *
  generalize un2 l = U2 at *
  generalize un3 l = U3 at *
  generalize un4 l = U4 at *
  obtain ⟨X, l1, e1⟩ := U1
  obtain ⟨Y, l2, e2⟩ := U2
  obtain ⟨s3, l3, e3⟩ := U3
  obtain ⟨s4, l4, e4⟩ := U4
  dsimp only at *
  by_cases h4 : e4 = 0
  · subst h4
    rw [if_neg (by simp)] at HE
    by_cases hs : bval s3 = ((fsum Y s4).toNat : Int)
    · rw [if_pos hs] at HE
      rw [HE.out]
      simp only [if_true]
      have hq : (bval s3 != ((fsum Y s4).toNat : Int)) = false := by simpa using hs
      rw [errV_zero]
      clear HE hs
      go_enter Tryd.func21, Tryd.ntmps21
      go_wp2_with fail
      refine HU1.out.mono ?_
      rintro en w1 ⟨rfl, hd1, ho1⟩
      have HO1 := hide ho1
      have H2 := hide (HU2.out w1 hd1)
      clear hd1 ho1 HU1 HU2 HRD
      go_wp2_with fail
      refine H2.out.mono ?_
      rintro en w2 ⟨rfl, hd2, ho2⟩
      have HO2 := hide (HO1.out.trans ho2)
      have H3 := hide (HU3.out w2 hd2)
      clear hd2 ho2 HO1 HU3 H2
      go_wp2_with fail
      refine H3.out.mono ?_
      rintro en w3 ⟨⟨v3, rfl, hv3⟩, hd3, ho3⟩
      have HO3 := hide (HO2.out.trans ho3)
      have H4 := hide (HU4.out w3 hd3)
      have HV3 := hide hv3
      obtain ⟨a3, k3, rfl, _, _⟩ := hv3
      clear hd3 ho3 HO2 HU4 H3
      go_wp2_with fail
      refine H4.out.mono ?_
      rintro en w4 ⟨⟨v4, rfl, hv4⟩, hd4, ho4⟩
      have HO4 := hide (HO3.out.trans ho4)
      have HB4 := hide (HO4.out.toBelow HB0.out HB0.out.size (Nat.le_refl _))
      have HV3' := hide (HV3.out.keep ho4.size (fun _ h => ho4.block g h hd4.2))
      have HN := hide (numberOf_any g _ s3 w4 HV3'.out (by omega))
      have HFS := hide (frameSum_any Y _ s4 w4 y0 y1 ⟨g, hv4⟩ (HT.out.below HB4.out) (by omega))
      have HV4 := hide hv4
      have HL := hide (fun (W : World) (h : Below w4.heap.size w4 W) => left_any _ _ _ _ _ _ (hd4.later h))
      have hc1 : w4.cell? ⟨w.heap.size, 1, none⟩ = some .nilIface := by
        obtain ⟨⟨vv, hbb, _⟩, _⟩ := hd4
        exact hbb.cell 1
      obtain ⟨a4, k4, rfl, _, _⟩ := hv4
      clear hd4 ho4 HO3 H4 HO4 HV3 HV3'
      go_wp2_with fail
      refine HN.out.mono ?_
      rintro en w5 ⟨rfl, hw⟩
      obtain rfl := hw.symm
      go_wp2_with fail
      refine HFS.out.mono ?_
      rintro en w5 ⟨rfl, hb5⟩
      have HC := hide (clone_any _ s4 w5 ⟨g, HV4.out.later hb5⟩ (by omega))
      have HB5 := hide (HB4.out.trans (hb5.mono HB4.out.size))
      have HB45 := hide hb5
      clear hb5 HFS HN hc1
      have s1 := bv_lt (fsum Y s4)
      have s0 : (0 : Int) ≤ ((fsum Y s4).toNat : Int) := by omega
      obtain ⟨Z, hZ⟩ : ∃ Z : Int, Hid (((fsum Y s4).toNat : Int) = Z) := ⟨_, hide rfl⟩
      rw [hZ.out] at s1 s0 hq ⊢
      go_wp2_with fail
      refine HC.out.mono ?_
      rintro en w6 ⟨v6, rfl, ho6, hb6⟩
      have HB6 := hide (HB5.out.trans (hb6.mono HB5.out.size))
      have HL6 := hide (HL.out w6 (HB45.out.trans (hb6.mono HB45.out.size)))
      have HO6 := hide (ho6.base fun g hg => Nat.le_trans HB5.out.size (ho6.at g hg))
      obtain ⟨a6, k6, rfl⟩ := ho6.slice
      clear ho6 hb6 HC HL
      go_wp2_with fail
      refine HL6.out.mono ?_
      rintro en w7 ⟨rfl, hw⟩
      obtain rfl := hw.symm
      go_wp2_with fail
      exact bodyPost_ret (v := .tuple #[.int .u64 Y, .slice a6 s4.length k6, .int .i64 ((l.length : Int) - (l4.length : Int)), .nilIface]) (by simp [results, Tryd.results21, go_sem]) rfl ⟨⟨_, rfl, HO6.out⟩, HB6.out⟩
    · rw [if_neg hs] at HE
      rw [HE.out]
      simp only [show ¬ ((7 : Int) = 0) by decide, if_false]
      have hq : (bval s3 != ((fsum Y s4).toNat : Int)) = true := by simpa using hs
      rw [errV_pos (by decide)]
      clear HE hs
      go_enter Tryd.func21, Tryd.ntmps21
      go_wp2_with fail
      refine HU1.out.mono ?_
      rintro en w1 ⟨rfl, hd1, ho1⟩
      have HO1 := hide ho1
      have H2 := hide (HU2.out w1 hd1)
      clear hd1 ho1 HU1 HU2 HRD
      go_wp2_with fail
      refine H2.out.mono ?_
      rintro en w2 ⟨rfl, hd2, ho2⟩
      have HO2 := hide (HO1.out.trans ho2)
      have H3 := hide (HU3.out w2 hd2)
      clear hd2 ho2 HO1 HU3 H2
      go_wp2_with fail
      refine H3.out.mono ?_
      rintro en w3 ⟨⟨v3, rfl, hv3⟩, hd3, ho3⟩
      have HO3 := hide (HO2.out.trans ho3)
      have H4 := hide (HU4.out w3 hd3)
      have HV3 := hide hv3
      obtain ⟨a3, k3, rfl, _, _⟩ := hv3
      clear hd3 ho3 HO2 HU4 H3
      go_wp2_with fail
      refine H4.out.mono ?_
      rintro en w4 ⟨⟨v4, rfl, hv4⟩, hd4, ho4⟩
      have HO4 := hide (HO3.out.trans ho4)
      have HB4 := hide (HO4.out.toBelow HB0.out HB0.out.size (Nat.le_refl _))
      have HV3' := hide (HV3.out.keep ho4.size (fun _ h => ho4.block g h hd4.2))
      have HN := hide (numberOf_any g _ s3 w4 HV3'.out (by omega))
      have HFS := hide (frameSum_any Y _ s4 w4 y0 y1 ⟨g, hv4⟩ (HT.out.below HB4.out) (by omega))
      have hc1 : w4.cell? ⟨w.heap.size, 1, none⟩ = some .nilIface := by
        obtain ⟨⟨vv, hbb, _⟩, _⟩ := hd4
        exact hbb.cell 1
      obtain ⟨a4, k4, rfl, _, _⟩ := hv4
      clear hd4 ho4 HO3 H4 HO4 HV3 HV3'
      go_wp2_with fail
      refine HN.out.mono ?_
      rintro en w5 ⟨rfl, hw⟩
      obtain rfl := hw.symm
      go_wp2_with fail
      refine HFS.out.mono ?_
      rintro en w5 ⟨rfl, hb5⟩
      have HB5 := hide (HB4.out.trans (hb5.mono HB4.out.size))
      clear hb5 HFS HN hc1
      have s1 := bv_lt (fsum Y s4)
      have s0 : (0 : Int) ≤ ((fsum Y s4).toNat : Int) := by omega
      obtain ⟨Z, hZ⟩ : ∃ Z : Int, Hid (((fsum Y s4).toNat : Int) = Z) := ⟨_, hide rfl⟩
      rw [hZ.out] at s1 s0 hq ⊢
      go_wp2_with fail
      exact bodyPost_ret (v := .tuple #[.int .u64 0, .slice none 0 0, .int .i64 0, .iface 68 (.int .i64 7)]) (by simp [results, Tryd.results21, go_sem]) rfl ⟨⟨_, rfl, Own.nil _ _⟩, HB5.out⟩
  · rw [if_pos h4] at HE
    rw [HE.out]
    have k1 : 1 ≤ e4 := by omega
    simp only [h4, if_false]
    rw [errV_pos k1]
    clear HE h4
    go_enter Tryd.func21, Tryd.ntmps21
    go_wp2_with fail
    refine HU1.out.mono ?_
    rintro en w1 ⟨rfl, hd1, ho1⟩
    have HO1 := hide ho1
    have H2 := hide (HU2.out w1 hd1)
    clear hd1 ho1 HU1 HU2 HRD
    go_wp2_with fail
    refine H2.out.mono ?_
    rintro en w2 ⟨rfl, hd2, ho2⟩
    have HO2 := hide (HO1.out.trans ho2)
    have H3 := hide (HU3.out w2 hd2)
    clear hd2 ho2 HO1 HU3 H2
    go_wp2_with fail
    refine H3.out.mono ?_
    rintro en w3 ⟨⟨v3, rfl, hv3⟩, hd3, ho3⟩
    have HO3 := hide (HO2.out.trans ho3)
    have H4 := hide (HU4.out w3 hd3)
    have HV3 := hide hv3
    obtain ⟨a3, k3, rfl, _, _⟩ := hv3
    clear hd3 ho3 HO2 HU4 H3
    go_wp2_with fail
    refine H4.out.mono ?_
    rintro en w4 ⟨⟨v4, rfl, hv4⟩, hd4, ho4⟩
    have HO4 := hide (HO3.out.trans ho4)
    have HB4 := hide (HO4.out.toBelow HB0.out HB0.out.size (Nat.le_refl _))
    have HV3' := hide (HV3.out.keep ho4.size (fun _ h => ho4.block g h hd4.2))
    have hc1 : w4.cell? ⟨w.heap.size, 1, none⟩ = some (errV e4) := by
      obtain ⟨⟨vv, hbb, _⟩, _⟩ := hd4
      exact hbb.cell 1
    rw [errV_pos k1] at hc1
    obtain ⟨a4, k4, rfl, _, _⟩ := hv4
    clear hd4 ho4 HO3 H4 HO4 HV3 HV3'
    go_wp2_with fail
    go_quiet (fail)
    go_wp2_with fail
    exact bodyPost_ret (v := .tuple #[.int .u64 0, .slice none 0 0, .int .i64 0, .iface 68 (.int .i64 e4)]) (by simp [results, Tryd.results21, go_sem]) rfl ⟨⟨_, rfl, Own.nil _ _⟩, below_drewN HB4.out _⟩
end Go.Proofs.YthalmfbcdkihgaaDoor
