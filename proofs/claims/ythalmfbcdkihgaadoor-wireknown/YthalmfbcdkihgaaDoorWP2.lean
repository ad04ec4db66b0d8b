/-
  My own text: the document's own frame.
-/
import Derived.Test.YthalmfbcdkihgaaDoorWP1
import Derived.Test.YthalmfbcdkihgaaDoorWR2
namespace Go.Proofs.YthalmfbcdkihgaaDoor
open Go.RowKit Go.Extern

theorem ret_fi {a : Option Addr} {c n m : Nat} {k : Int} (h : n = m) : Ending.returned (.tuple #[.slice a n c, .int .i64 k]) = .returned (.tuple #[.slice a m c, .int .i64 k]) := by rw [h]
theorem refFrame_many (x : Int) (v : Value) (l : List UInt8) (w : World) (hv : RB w v l) (hl : 65536 < l.length) :
    Calls Tryd.prog 54 #[.int .u64 x, v] w fun e w' => e = .returned (.tuple #[.slice none 0 0, .int .i64 5]) ∧ w' = w := by
  obtain ⟨gv, av, cv, rfl, _, _⟩ := hv
  go_enter Tryd.func54, Tryd.ntmps54
  go_wp2
  go_ret2
  exact ⟨rfl, rfl⟩
theorem Own.keptBy {w w' : World} {B : Nat} {v : Value} {l : List UInt8} {u u' : Value} (h : Own w B v l) (hg : Grew w u w' u') (hne : ∀ g, v.ownBlock = some g → u.ownBlock ≠ some g) : Own w' B v l := by
  refine World.ownsRow.kept h hg.grown ?_
  rcases e : v.ownBlock with _ | b
  · exact .inl rfl
  · exact .inr (fun e2 => hne b e e2.symm)
theorem own_rg {w : World} {B g cap n : Nat} {l : List UInt8} (h : Own w B (.slice (some ⟨g, 0, none⟩) n cap) l) : RG w g (.slice (some ⟨g, 0, none⟩) n cap) l := by
  obtain ⟨g', hg, he⟩ := h.rg
  by_cases hl : l = []
  · subst hl; exact hg.any
  · have := he hl
    injection this with this
    have e : g = g' := this
    subst e
    exact hg
set_option maxRecDepth 100000 in
set_option maxHeartbeats 2000000 in
theorem refFrame_ok (x : Int) (v : Value) (l : List UInt8) (w : World) (h0 : 0 ≤ x) (h1 : x < 18446744073709551616) (hv : RB w v l) (hl : l.length ≤ 65536) :
    Calls Tryd.prog 54 #[.int .u64 x, v] w fun e w' => ∃ a c, e = .returned (.tuple #[.slice a (frameL x l).length c, .int .i64 0]) ∧ Own w' w.heap.size (.slice a (frameL x l).length c) (frameL x l) ∧ Below w.heap.size w w' := by
  have HP1 := hide (refPutUint_any x w.heap.size (.slice none 0 0) [] w h0 h1 (Own.nil _ _) (Nat.le_refl _) (by simp))
  have HV := hide hv
  have L1 := form_le (l.length : Int)
  have L2 := form_le x
  have L0 : 1 ≤ (form x).length := by rw [form_len]; omega
  have s0 : (0 : Int) ≤ ((fsum x l).toNat : Int) := by omega
  have s1 := bv_lt (fsum x l)
  have HSM : Hid (((sumB (form x ++ l)).toNat : Int) = ((fsum x l).toNat : Int)) := hide rfl
  obtain ⟨R, hR⟩ : ∃ R, Hid (frameL x l = R) := ⟨_, hide rfl⟩
  have HFR : Hid (R = form (l.length : Int) ++ form x ++ be 4 ((fsum x l).toNat : Int) ++ l) := hide hR.out.symm
  rw [hR.out]
  obtain ⟨sm, hsm⟩ : ∃ sm : Int, Hid (((fsum x l).toNat : Int) = sm) := ⟨_, hide rfl⟩
  rw [hsm.out] at s0 s1 HFR HSM
  obtain ⟨F, hF⟩ : ∃ F, Hid (form x = F) := ⟨_, hide rfl⟩
  rw [hF.out] at HP1 HFR HSM L2 L0
  obtain ⟨gv, av, cv, rfl, _, _⟩ := hv
  have dl : decide (65536 < (l.length : Int)) = false := by rw [decide_eq_false_iff_not]; omega
  clear h0 h1
  go_enter Tryd.func54, Tryd.ntmps54
  go_wp2_with fail
  refine HP1.out.mono ?_
  rintro e w1 ⟨v1, rfl, ho1, hg1⟩
  rw [List.nil_append] at ho1
  have hb1 : Below w.heap.size w w1 := hg1.toBelow (Below.refl _ _) (Nat.le_refl _) (fun g h => by cases h)
  have HB1 := hide hb1
  have HO1 := hide ho1
  have HV1 := hide (HV.out.later hb1)
  obtain ⟨a1, c1, rfl⟩ := ho1.slice
  clear ho1 hg1 hb1 HP1
  go_wp2_with (first
    | (at_builtin; refine wp_append_rb rfl _ _ rfl w.heap.size _ _ F l rfl rfl HO1.out HV1.out HB1.out.size (by omega) ?_)
    | go_in)
  intro v2 w2 ho2 hg2
  have HB2 := hide (hg2.toBelow HB1.out HB1.out.size (fun g h => HO1.out.at g h))
  have hlen2 : (F ++ l).length = F.length + l.length := List.length_append
  have HO2 := hide ho2
  have hform : ∃ g2 c2, v2 = .slice (some ⟨g2, 0, none⟩) (F ++ l).length c2 := by
    have h := ho2
    unfold Own at h
    obtain ⟨g2, c2, h2, _⟩ := World.ownsRow.form h (by omega)
    exact ⟨g2, c2, h2⟩
  obtain ⟨g2, c2, rfl⟩ := hform
  have HPC : Hid ((F ++ l).length ≤ c2) := by
    obtain ⟨g', hg', _⟩ := ho2.rg
    obtain ⟨a', cap', e', hc', _⟩ := hg'
    injection e' with _ _ e3
    exact hide (by rw [e3]; exact hc')
  have hFc : (F.length : Int) ≤ (c2 : Int) := by have := HPC.out; omega
  have HP3 := hide (refPutUint_any (l.length : Int) w.heap.size (.slice none 0 0) [] w2 (by omega) (by omega) (Own.nil _ _) HB2.out.size (by simp))
  obtain ⟨M, hM⟩ : ∃ M, Hid (F ++ l = M) := ⟨_, hide rfl⟩
  obtain ⟨G, hG⟩ : ∃ G, Hid (form (l.length : Int) = G) := ⟨_, hide rfl⟩
  rw [hM.out] at HO2 HPC HSM ⊢
  rw [hG.out] at HP3 L1 HFR
  have HTK : Hid (M.take F.length = F) := hide (by rw [← hM.out]; exact List.take_left)
  have hMl : (F.length : Int) ≤ (M.length : Int) := by rw [← hM.out, hlen2]; omega
  have hMl2 : M.length ≤ 65600 := by rw [← hM.out, hlen2]; omega
  clear ho2 hg2 HO1 HB1 HV1 hlen2
  go_wp2_with fail
  refine HP3.out.mono ?_
  rintro e w3 ⟨v3, rfl, ho3, hg3⟩
  rw [List.nil_append] at ho3
  have hb3 : Below w2.heap.size w2 w3 := hg3.toBelow (Below.refl _ _) (Nat.le_refl _) (fun g h => by cases h)
  have HB3 := hide (HB2.out.trans (hb3.mono HB2.out.size))
  have HO3 := hide ho3
  have HO23 := hide (HO2.out.later hb3)
  have HNE : Hid (∀ g, (Value.slice (some ⟨g2, 0, none⟩) M.length c2).ownBlock = some g → v3.ownBlock ≠ some g) := hide (fun g hg e => by
    have h1 := (World.ownsRow.lt HO2.out g hg).2
    rcases hg3.lies g e with h2 | h2
    · cases h2
    · omega)
  have HIN : Hid (RB w3 (.slice (some ⟨g2, 0, none⟩) F.length c2) F) := hide (by
    have h := rg_take (own_rg HO23.out) (n := F.length) (by omega)
    rw [HTK.out] at h
    exact ⟨g2, h⟩)
  obtain ⟨a3, c3, rfl⟩ := ho3.slice
  clear ho3 hg3 hb3 HP3 HO2 HB2
  go_wp2_with (first
    | (at_builtin; refine wp_append_rb rfl _ _ rfl w.heap.size _ _ G F rfl rfl HO3.out HIN.out HB3.out.size (by omega) ?_)
    | go_in)
  intro v4 w4 ho4 hg4
  have HB4 := hide (hg4.toBelow HB3.out HB3.out.size (fun g h => HO3.out.at g h))
  have HO24 := hide (HO23.out.keptBy hg4 HNE.out)
  have hrg := HO24.out.rg
  obtain ⟨g5, hg5, _⟩ := hrg
  have HSU := hide (refSum_any g5 _ M w4 hg5 (by omega))
  rw [HSM.out] at HSU
  have L3 : (G ++ F).length ≤ 18 := by rw [List.length_append]; omega
  have HPS := hide (putSum_any sm w.heap.size v4 (G ++ F) w4 s0 (by omega) ho4 HB4.out.size (by omega))
  have HO4 := hide ho4
  obtain ⟨a4, c4, rfl⟩ := ho4.slice
  obtain ⟨H, hH⟩ : ∃ H, Hid (G ++ F = H) := ⟨_, hide rfl⟩
  rw [hH.out] at HO4 HPS L3 HFR ⊢
  clear ho4 hg4 hg5 HO3 HB3 HIN HNE HO23
  go_wp2_with fail
  refine HSU.out.mono ?_
  rintro e w5 ⟨rfl, hw⟩
  obtain rfl := hw.symm
  go_wp2_with fail
  refine HPS.out.mono ?_
  rintro e w5 ⟨v5, rfl, ho5, hg5⟩
  have HB5 := hide (hg5.toBelow HB4.out HB4.out.size (fun g h => HO4.out.at g h))
  have HO5 := hide ho5
  have HV5 := hide (HV.out.later HB5.out)
  obtain ⟨a5, c5, rfl⟩ := ho5.slice
  have L5 : (H ++ be 4 sm).length ≤ 22 := by rw [List.length_append, be_len]; omega
  obtain ⟨J, hJ⟩ : ∃ J, Hid (H ++ be 4 sm = J) := ⟨_, hide rfl⟩
  rw [hJ.out] at HO5 L5 HFR ⊢
  clear ho5 hg5 HPS HSU HO4 HB4 HO24
  go_wp2_with (first
    | (at_builtin; refine wp_append_rb rfl _ _ rfl w.heap.size _ _ J l rfl rfl HO5.out HV5.out HB5.out.size (by omega) ?_)
    | go_in)
  intro v6 w6 ho6 hg6
  have HB6 := hide (hg6.toBelow HB5.out HB5.out.size (fun g h => HO5.out.at g h))
  rw [← HFR.out] at ho6
  have HO6 := hide ho6
  obtain ⟨a6, c6, rfl⟩ := ho6.slice
  clear ho6 hg6 HO5 HB5
  go_wp2_with fail
  go_ret2
  exact ⟨a6, c6, rfl, HO6.out, HB6.out⟩
end Go.Proofs.YthalmfbcdkihgaaDoor
