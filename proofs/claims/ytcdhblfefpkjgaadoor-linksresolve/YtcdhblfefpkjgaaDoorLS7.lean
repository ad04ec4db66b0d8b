/-
  My own text: LS6, LS7 in one.
-/
import Derived.Test.YtcdhblfefpkjgaaDoorLS5
namespace Go.Proofs.YtcdhblfefpkjgaaDoor
open Go.RowKit

theorem half_eq {i j h : Nat} (e : (i + j) / 2 = h) : ((i : Int) + (j : Int)) / 2 = (h : Int) := by omega
theorem half_in {i j h : Nat} (l : i < j) (e : (i + j) / 2 = h) : i ≤ h ∧ h < j := by omega
theorem Via.exch {L M : List Nat} {f g : Nat → Nat} {i j x y : Nat} (h : Via L M f) (hx : M[i]? = some x) (hy : M[j]? = some y) (gi : g i = f j) (gj : g j = f i) (go : ∀ t, t ≠ i → t ≠ j → g t = f t) : Via L ((M.set i y).set j x) g := by
  have h1 := (List.getElem?_eq_some_iff.1 hx).1
  have h2 := (List.getElem?_eq_some_iff.1 hy).1
  refine ⟨by rw [List.length_set, List.length_set]; exact h.len, fun t => ?_⟩
  rw [List.getElem?_set, List.getElem?_set]
  by_cases e : j = t
  · subst e
    rw [if_pos rfl, if_pos (by rw [List.length_set]; exact h2), gj, ← h.at_, hx]
  · rw [if_neg e]
    by_cases e1 : i = t
    · subst e1
      rw [if_pos rfl, if_pos h1, gi, ← h.at_, hy]
    · rw [if_neg e1, h.at_, go t (Ne.symm e1) (Ne.symm e)]
set_option maxRecDepth 100000 in
set_option maxHeartbeats 4000000 in
theorem symFirst_any (a m b n P pb cap : Nat) (pr : Nat → Int) (L : List Nat) (w : World) (hN : NV w P L) (hS : SI pr n L) (hm : a + 1 = m) (hmb : m < b) (hbn : b ≤ n) (hn : n ≤ 4096) (hs : Srt pr L m b) (hP : ∀ W, w.grownBy W (some P) → PZ W n pb pr) :
    Calls Tryd.prog 62 #[.slice (some ⟨P, 0, none⟩) n cap, .int .i64 (a : Int), .int .i64 (m : Int), .int .i64 (b : Int), lessV pb] w fun e w' => (∃ u, e = .returned u) ∧ ∃ L', NV w' P L' ∧ Mgd pr n a b L L' ∧ w.grownBy w' (some P) := by
  have HP := hide hP
  have HB := hide (show _ ∧ _ ∧ _ ∧ _ from ⟨hm, hmb, hbn, hn⟩)
  have HS0 := hide hS
  have HSR := hide hs
  have wm : wrap64 ((m : Int) - (a : Int)) = 1 := by have := HB.out; unfold wrap64; omega
  have wm2 : IntKind.i64.wrap ((m : Int) - (a : Int)) = 1 := by have := HB.out; rw [IntKind.wrap_i64]; omega
  obtain ⟨x, hx⟩ : ∃ x, L[a]? = some x := ⟨_, List.getElem?_eq_getElem (by rw [hS.len]; omega)⟩
  have hxn := hS.lt _ _ hx
  have HX := hide hx
  have hatn : a < n := by omega
  have at0 : (0 : Int) ≤ (a : Int) := by omega
  have at1 : (a : Int) < (n : Int) := by omega
  clear hx hatn
  unfold lessV
  go_enter Tryd.func62, Tryd.ntmps62
  go_wp2_with fail
  go_loopw [10, 11] (fun iv jv wr => ∃ (i j : Nat), iv = .int .i64 (i : Int) ∧ jv = .int .i64 (j : Int) ∧ Hid (m ≤ i ∧ i ≤ j ∧ j ≤ b) ∧ Hid (i = m ∨ ∃ z, L[i - 1]? = some z ∧ pr x < pr z) ∧ Hid (j = b ∨ ¬ ∃ z, L[j]? = some z ∧ pr x < pr z) ∧ Hid (NV wr P L) ∧ Hid (w.grownBy wr (some P))) (fun iv jv _ => (intOf jv).toNat - (intOf iv).toNat)
  case atStart => exact ⟨m, b, rfl, rfl, hide (by have := HB.out; omega), hide (.inl rfl), hide (.inl rfl), hide hN, hide (gb_refl _ _)⟩
  case round =>
    clear hN hS hP hm hmb wm wm2 hbn hn hs
    obtain ⟨i, j, rfl, rfl, HJ, HF1, HF2, HV, HG⟩ := hrel
    by_cases hlt : i < j
    · have hd1 : decide ((i : Int) < (j : Int)) = true := by rw [decide_eq_true_eq]; omega
      have hd1' : decide (i < j) = true := decide_eq_true hlt
      have jn : j ≤ 4096 := by have := HJ.out; have := HB.out; omega
      have w1 : wrap64 ((i : Int) + (j : Int)) = (i : Int) + (j : Int) := by unfold wrap64; omega
      obtain ⟨h, hh⟩ : ∃ h, Hid ((i + j) / 2 = h) := ⟨_, hide rfl⟩
      have eh : ((i : Int) + (j : Int)) / 2 = (h : Int) := half_eq hh.out
      have HH : Hid (i ≤ h ∧ h < j) := hide (half_in hlt hh.out)
      obtain ⟨h2, hh2⟩ : ∃ h2, Hid (h + 1 = h2) := ⟨_, hide rfl⟩
      have wh : wrap64 ((h : Int) + 1) = (h2 : Int) := by have := HH.out; have := hh2.out; unfold wrap64; omega
      have wh2 : IntKind.i64.wrap ((h : Int) + 1) = (h2 : Int) := by have := HH.out; have := hh2.out; rw [IntKind.wrap_i64]; omega
      have hn2 : h < n := by have := HH.out; have := HJ.out; have := HB.out; omega
      obtain ⟨z, hz⟩ : ∃ z, L[h]? = some z := ⟨_, List.getElem?_eq_getElem (by rw [HS0.out.len]; exact hn2)⟩
      have hzn := HS0.out.lt _ _ hz
      have HZ := hide hz
      have c1 := HV.out.cell HX.out
      have c2 := HV.out.cell hz
      have ix0 : (0 : Int) ≤ (h : Int) := by omega
      have ix1 : (h : Int) < (n : Int) := by omega
      have HR := hide (fun q => ranked1_any n pb z x pr (wr.drewN q) ((HP.out _ HG.out).drew q) hzn hxn)
      obtain ⟨r, hr⟩ : ∃ r, Hid (cmpI (pr x) (pr z) = r) := ⟨_, hide rfl⟩
      rw [hr.out] at HR
      have HV2 := hide (fun q => (hide HV.out : Hid (NV (wr.drewN q) P L)))
      have HG2 := hide (fun q => hide (gb_drewN HG.out q))
      clear hz hzn hxn HV HG hn2
      by_cases hneg : r < 0
      · have hd3 : decide (r < 0) = true := decide_eq_true hneg
        have HPR : Hid (pr x < pr z) := hide (by rw [← hr.out] at hneg; exact cmpI_neg.1 hneg)
        clear hneg
        go_wp2_with fail
        try rw [eh]
        go_quiet (first | (go_at_call 48; exact Calls.quiet_of (HR.out _)))
        go_wp2_with fail
        go_roundw
        case rel => exact ⟨h2, j, by first | rfl | exact iv_succ wh, rfl, hide (by have := HH.out; have := HJ.out; have := hh2.out; omega), hide (.inr (by rw [show h2 - 1 = h by have := hh2.out; omega]; exact ⟨z, HZ.out, HPR.out⟩)), HF2, HV2.out _, HG2.out _⟩
        case measure => have := HH.out; have := hh2.out; first | (rw [wh]; simp [intOf]; omega) | (simp [intOf]; omega)
      · have hd3 : decide (r < 0) = false := decide_eq_false hneg
        have HPR : Hid (¬ (pr x < pr z)) := hide (by rw [← hr.out] at hneg; exact fun h => hneg (cmpI_neg.2 h))
        clear hneg
        go_wp2_with fail
        try rw [eh]
        go_quiet (first | (go_at_call 48; exact Calls.quiet_of (HR.out _)))
        go_wp2_with fail
        go_roundw
        case rel => exact ⟨i, h, rfl, rfl, hide (by have := HH.out; have := HJ.out; omega), HF1, hide (.inr (by rintro ⟨z2, q1, q2⟩; have q3 := HZ.out; rw [q1] at q3; cases q3; have q4 := HPR.out; omega)), HV2.out _, HG2.out _⟩
        case measure => have := HH.out; simp [intOf]; omega
    · have e : i = j := by have := HJ.out; omega
      subst e
      have hd1 : decide ((i : Int) < (i : Int)) = false := by simp
      have hd1' : decide (i < i) = false := by simp
      have HFB : Hid (FB (fun t => ∃ z, L[t]? = some z ∧ pr x < pr z) m b i) := hide ⟨HJ.out.1, HJ.out.2.2, HF1.out, HF2.out⟩
      have HP1 := HP
      obtain ⟨i1, hi1⟩ : ∃ i1, Hid (i1 + 1 = i) := ⟨i - 1, hide (by have := HJ.out; have := HB.out; omega)⟩
      have wi : wrap64 ((i : Int) - 1) = (i1 : Int) := by have := HJ.out; have := HB.out; have := hi1.out; unfold wrap64; omega
      have wi2 : IntKind.i64.wrap ((i : Int) - 1) = (i1 : Int) := by have := HJ.out; have := HB.out; have := hi1.out; rw [IntKind.wrap_i64]; omega
      clear HF1 HF2 hlt
      obtain ⟨W1, rfl⟩ : ∃ W1, W1 = wr := ⟨wr, rfl⟩
      go_wp2_with fail
      go_loopw [13] (fun kv wr => ∃ (k : Nat) (M : List Nat), kv = .int .i64 (k : Int) ∧ Hid (a ≤ k ∧ k ≤ i1) ∧ Hid (NV wr P M) ∧ Hid (Via L M (rho a m (k + 1))) ∧ Hid (w.grownBy wr (some P))) (fun kv _ => i1 - (intOf kv).toNat)
      case atStart => exact ⟨a, L, rfl, hide (by have := HJ.out; have := HB.out; have := hi1.out; omega), HV, hide ((Via.refl L).congr (fun t => (rho_none (.inr (by have := HB.out; omega)) (by have := HB.out; omega) (by have := HB.out; omega)).symm)), HG⟩
      case round =>
        clear HV HG
        obtain ⟨k, M, rfl, HK, HV, HM, HG⟩ := hrel
        by_cases hc : k < i1
        · have hd1 : decide ((k : Int) < (i1 : Int)) = true := by rw [decide_eq_true_eq]; omega
          have hd1' : decide (k < i1) = true := decide_eq_true hc
          have hck := hide hc
          obtain ⟨k2, hk2⟩ : ∃ k2, Hid (k + 1 = k2) := ⟨k + 1, hide (by omega)⟩
          have wk : wrap64 ((k : Int) + 1) = (k2 : Int) := by have := HK.out; have := HJ.out; have := HB.out; have := hi1.out; have := hk2.out; unfold wrap64; omega
          have wk2 : IntKind.i64.wrap ((k : Int) + 1) = (k2 : Int) := by have := HK.out; have := HJ.out; have := HB.out; have := hi1.out; have := hk2.out; rw [IntKind.wrap_i64]; omega
          have k1n : k < n := by have := HK.out; have := HJ.out; have := HB.out; have := hi1.out; have := hk2.out; omega
          have k2n : k2 < n := by have := HK.out; have := HJ.out; have := HB.out; have := hi1.out; have := hk2.out; omega
          have hMl : M.length = n := by rw [HM.out.len]; exact HS0.out.len
          have ix0 : (0 : Int) ≤ (k : Int) := by omega
          have ix1 : (k : Int) < (n : Int) := by omega
          have ix2 : (0 : Int) ≤ (k2 : Int) := by omega
          have ix3 : (k2 : Int) < (n : Int) := by omega
          obtain ⟨x, hx⟩ : ∃ x, M[k]? = some x := ⟨_, List.getElem?_eq_getElem (by omega)⟩
          obtain ⟨y, hy⟩ : ∃ y, M[k2]? = some y := ⟨_, List.getElem?_eq_getElem (by omega)⟩
          have HXK := hide hx
          have HY := hide hy
          have HNE : Hid (k ≠ k2) := hide (by have := hk2.out; omega)
          obtain ⟨V0, hV0⟩ : ∃ V, World.drew wr = V := ⟨_, rfl⟩
          have HV0 : Hid (NV V0 P M ∧ w.grownBy V0 (some P)) := hide (by rw [← hV0]; exact ⟨HV.out, gb_drew HG.out⟩)
          obtain ⟨V1, hV1⟩ : ∃ V, V0.setCell ⟨P, k, none⟩ (.int .i64 (y : Int)) = V := ⟨_, rfl⟩
          obtain ⟨V2, hV2⟩ : ∃ V, V1.setCell ⟨P, k2, none⟩ (.int .i64 (x : Int)) = V := ⟨_, rfl⟩
          have HV1 : Hid (NV V1 P (M.set k y)) := hide (by rw [← hV1]; exact HV0.out.1.set k y)
          have HV2 : Hid (NV V2 P ((M.set k y).set k2 x)) := hide (by rw [← hV2]; exact HV1.out.set k2 x)
          have HG2 : Hid (w.grownBy V2 (some P)) := hide (by
            rw [← hV2, ← hV1]
            exact gb_trans HV0.out.2 (gb_trans (gb_set V0 P k _) (gb_set _ P k2 _)))
          have HM2 : Hid (Via L ((M.set k y).set k2 x) (rho a m (k2 + 1))) := hide (by
            refine Via.exch HM.out HXK.out HY.out (g := rho a m (k2 + 1)) ?_ ?_ ?_
            · have := hk2.out; have := HK.out; have := HB.out; unfold rho; (repeat' split) <;> omega
            · have := hk2.out; have := HK.out; have := HB.out; unfold rho; (repeat' split) <;> omega
            · intro t t1 t2; have := hk2.out; have := HK.out; have := HB.out; unfold rho; (repeat' split) <;> omega)
          have HF : Hid (∀ (W : World) (q : Nat), (W = V0 ∨ W = V1) → W.frozen? ⟨P, q, none⟩ = false) := hide (fun W q h => by
            rcases h with rfl | rfl
            · exact HV0.out.1.frozen q
            · exact HV1.out.frozen q)
          have hHeld : Hid (V0.cell? ⟨P, k2, none⟩ = some (.int .i64 (y : Int)) ∧ V0.cell? ⟨P, k, none⟩ = some (.int .i64 (x : Int))) := hide ⟨HV0.out.1.cell HY.out, HV0.out.1.cell HXK.out⟩
          have CX0 : Hid (V0.cell? ⟨P, k, none⟩ = some (.int .i64 (x : Int))) := hide hHeld.out.2
          have CX1 : Hid (V1.cell? ⟨P, k2, none⟩ = some (.int .i64 (y : Int))) := hide (HV1.out.cell (by rw [List.getElem?_set_ne HNE.out]; exact HY.out))
          have HK2 : Hid (a ≤ k2 ∧ k2 ≤ i1) := hide (by have := HK.out; have := hk2.out; have := hck.out; omega)
          clear HV HM HG hx hy hMl k1n k2n hc
          go_wp2_with fail
          refine s_begins (S := fun W : World => W.cell? ⟨P, k2, none⟩ = some (.int .i64 (y : Int)) ∧ W.cell? ⟨P, k, none⟩ = some (.int .i64 (x : Int))) [15, 17] 18 #[false, false, false, false, false, false, false, false, false, false, false, false, false, false, false, false, false, false] (by kernel_rfl) (by kernel_rfl) (by kernel_rfl) ?_
          rw [hV0]
          clear hV0
          refine sk0 (v := ?_) 0 61 #[true, false, false, false, false, false, false, false, false, false, false, false, false, false, false, false, false, false] rfl rfl (by kernel_rfl) (by kernel_rfl) (by kernel_rfl) (by kernel_rfl) (fun _ _ _ h => h) (by kernel_rfl) (by rfl) ?hy (fun _ => hHeld.out) ?_
          case hy => intro W; first | (go_simp; done) | (go_simp; with_reducible rfl)
          simp only [List.setIfInBounds_toArray, List.set_cons_zero, List.set_cons_succ]
          refine sk0 (v := ?_) 1 62 #[true, true, false, false, false, false, false, false, false, false, false, false, false, false, false, false, false, false] rfl rfl (by kernel_rfl) (by kernel_rfl) (by kernel_rfl) (by kernel_rfl) (fun _ _ _ h => h) (by kernel_rfl) (by rfl) ?hy (fun _ => hHeld.out) ?_
          case hy => intro W; first | (go_simp; done) | (go_simp; with_reducible rfl)
          simp only [List.setIfInBounds_toArray, List.set_cons_zero, List.set_cons_succ]
          refine sk0 (v := ?_) 2 63 #[true, true, true, false, false, false, false, false, false, false, false, false, false, false, false, false, false, false] rfl rfl (by kernel_rfl) (by kernel_rfl) (by kernel_rfl) (by kernel_rfl) (fun _ _ _ h => h) (by kernel_rfl) (by rfl) ?hy (fun _ => hHeld.out) ?_
          case hy => intro W; first | (go_simp; done) | (go_simp; with_reducible rfl)
          simp only [List.setIfInBounds_toArray, List.set_cons_zero, List.set_cons_succ]
          refine sk0 (v := ?_) 3 64 #[true, true, true, true, false, false, false, false, false, false, false, false, false, false, false, false, false, false] rfl rfl (by kernel_rfl) (by kernel_rfl) (by kernel_rfl) (by kernel_rfl) (fun _ _ _ h => h) (by kernel_rfl) (by rfl) ?hy (fun _ => hHeld.out) ?_
          case hy => intro W; first | (go_simp; done) | (go_simp; with_reducible rfl)
          simp only [List.setIfInBounds_toArray, List.set_cons_zero, List.set_cons_succ]
          refine sk0 (v := ?_) 4 65 #[true, true, true, true, true, false, false, false, false, false, false, false, false, false, false, false, false, false] rfl rfl (by kernel_rfl) (by kernel_rfl) (by kernel_rfl) (by kernel_rfl) (fun _ _ _ h => h) (by kernel_rfl) (by rfl) ?hy (fun _ => hHeld.out) ?_
          case hy => intro W; first | (go_simp; done) | (go_simp; with_reducible rfl)
          simp only [List.setIfInBounds_toArray, List.set_cons_zero, List.set_cons_succ]
          refine sk0 (v := ?_) 5 66 #[true, true, true, true, true, true, false, false, false, false, false, false, false, false, false, false, false, false] rfl rfl (by kernel_rfl) (by kernel_rfl) (by kernel_rfl) (by kernel_rfl) (fun _ _ _ h => h) (by kernel_rfl) (by rfl) ?hy (fun _ => hHeld.out) ?_
          case hy => intro W; first | (go_simp; done) | (go_simp; with_reducible rfl)
          simp only [List.setIfInBounds_toArray, List.set_cons_zero, List.set_cons_succ]
          refine sk0 (v := ?_) 6 67 #[true, true, true, true, true, true, true, false, false, false, false, false, false, false, false, false, false, false] rfl rfl (by kernel_rfl) (by kernel_rfl) (by kernel_rfl) (by kernel_rfl) (fun _ _ _ h => h) (by kernel_rfl) (by rfl) ?hy (fun _ => hHeld.out) ?_
          case hy => intro W; first | (go_simp; done) | (go_simp; with_reducible rfl)
          simp only [List.setIfInBounds_toArray, List.set_cons_zero, List.set_cons_succ]
          refine sk0 (v := ?_) 7 68 #[true, true, true, true, true, true, true, true, false, false, false, false, false, false, false, false, false, false] rfl rfl (by kernel_rfl) (by kernel_rfl) (by kernel_rfl) (by kernel_rfl) (fun _ _ _ h => h) (by kernel_rfl) (by rfl) ?hy (fun _ => hHeld.out) ?_
          case hy => intro W; first | (go_simp; done) | (go_simp; with_reducible rfl)
          simp only [List.setIfInBounds_toArray, List.set_cons_zero, List.set_cons_succ]
          refine sk0 (v := ?_) 8 69 #[true, true, true, true, true, true, true, true, true, false, false, false, false, false, false, false, false, false] rfl rfl (by kernel_rfl) (by kernel_rfl) (by kernel_rfl) (by kernel_rfl) (fun _ _ _ h => h) (by kernel_rfl) (by rfl) ?hy (fun _ => hHeld.out) ?_
          case hy => intro W; first | (go_simp; done) | (go_simp; with_reducible rfl)
          simp only [List.setIfInBounds_toArray, List.set_cons_zero, List.set_cons_succ]
          refine sk1 (v := ?_) 9 70 #[true, true, true, true, true, true, true, true, true, true, false, false, false, false, false, false, false, false] rfl rfl (by kernel_rfl) (by kernel_rfl) (by kernel_rfl) (by kernel_rfl) (by kernel_rfl) (by kernel_rfl) (fun _ _ _ h => h) (by kernel_rfl) (by rfl) ?hy hHeld.out ?_
          case hy => rintro W ⟨s1, s2⟩; first | (go_simp; done) | (go_simp; with_reducible rfl)
          simp only [List.setIfInBounds_toArray, List.set_cons_zero, List.set_cons_succ]
          refine sk0 (v := ?_) 10 71 #[true, true, true, true, true, true, true, true, true, true, true, false, false, false, false, false, false, false] rfl rfl (by kernel_rfl) (by kernel_rfl) (by kernel_rfl) (by kernel_rfl) (fun _ _ _ h => h) (by kernel_rfl) (by rfl) ?hy (fun _ => hHeld.out) ?_
          case hy => intro W; first | (go_simp; done) | (go_simp; with_reducible rfl)
          simp only [List.setIfInBounds_toArray, List.set_cons_zero, List.set_cons_succ]
          refine sk0 (v := ?_) 11 72 #[true, true, true, true, true, true, true, true, true, true, true, true, false, false, false, false, false, false] rfl rfl (by kernel_rfl) (by kernel_rfl) (by kernel_rfl) (by kernel_rfl) (fun _ _ _ h => h) (by kernel_rfl) (by rfl) ?hy (fun _ => hHeld.out) ?_
          case hy => intro W; first | (go_simp; done) | (go_simp; with_reducible rfl)
          simp only [List.setIfInBounds_toArray, List.set_cons_zero, List.set_cons_succ]
          refine sk0 (v := ?_) 12 73 #[true, true, true, true, true, true, true, true, true, true, true, true, true, false, false, false, false, false] rfl rfl (by kernel_rfl) (by kernel_rfl) (by kernel_rfl) (by kernel_rfl) (fun _ _ _ h => h) (by kernel_rfl) (by rfl) ?hy (fun _ => hHeld.out) ?_
          case hy => intro W; first | (go_simp; done) | (go_simp; with_reducible rfl)
          simp only [List.setIfInBounds_toArray, List.set_cons_zero, List.set_cons_succ]
          refine sk1 (v := ?_) 13 74 #[true, true, true, true, true, true, true, true, true, true, true, true, true, true, false, false, false, false] rfl rfl (by kernel_rfl) (by kernel_rfl) (by kernel_rfl) (by kernel_rfl) (by kernel_rfl) (by kernel_rfl) (fun _ _ _ h => h) (by kernel_rfl) (by rfl) ?hy hHeld.out ?_
          case hy => rintro W ⟨s1, s2⟩; first | (go_simp; done) | (go_simp; with_reducible rfl)
          simp only [List.setIfInBounds_toArray, List.set_cons_zero, List.set_cons_succ]
          refine s_ready 14 #[true, true, true, true, true, true, true, true, true, true, true, true, true, true, true, false, false, false] rfl (by kernel_rfl) (by kernel_rfl) (by rfl) (fun K hK => ?_)
          go_simp
          refine hK.out _ _ (fun _ => hHeld.out) ?_
          clear hK K
          have fz0 := HF.out V0 k (.inl rfl)
          have cx0 := CX0.out
          refine s_ready 15 #[true, true, true, true, true, true, true, true, true, true, true, true, true, true, true, true, false, false] rfl (by kernel_rfl) (by kernel_rfl) (by rfl) (fun K hK => ?_)
          go_simp
          refine hK.out _ _ (fun h => absurd h (by decide)) ?_
          clear hK K
          refine s_ready 16 #[true, true, true, true, true, true, true, true, true, true, true, true, true, true, true, true, true, false] rfl (by kernel_rfl) (by kernel_rfl) (by rfl) (fun K hK => ?_)
          go_simp
          refine hK.out _ _ (fun h => absurd h (by decide)) ?_
          clear hK K
          have fz1 := HF.out V1 k2 (.inr rfl)
          have cx1 := CX1.out
          refine s_ready 17 #[true, true, true, true, true, true, true, true, true, true, true, true, true, true, true, true, true, true] rfl (by kernel_rfl) (by kernel_rfl) (by rfl) (fun K hK => ?_)
          go_simp
          refine hK.out _ _ (fun h => absurd h (by decide)) ?_
          clear hK K
          refine s_done (by kernel_rfl) ?_ _
          clear hV1 hV2 cx0 fz0 cx1 fz1
          go_wp2_with fail
          go_roundw
          case rel => exact ⟨k2, (M.set k y).set k2 x, by first | rfl | (congr 1), HK2, HV2, HM2, HG2⟩
          case measure => have := hck.out; have := hk2.out; simp [intOf]; omega
        · have e : k = i1 := by have := HK.out; omega
          subst e
          have hd1 : decide ((k : Int) < (k : Int)) = false := by simp
          have hd1' : decide (k < k) = false := by simp
          have HMG : Hid (Mgd pr n a b L M) := hide (by
          obtain ⟨g1, g2, g3, g4⟩ := merge_one HS0.out (by have := HB.out; omega) HB.out.2.2.1 HX.out (by rw [HB.out.1]; exact HSR.out) (i := i) (by rw [HB.out.1]; exact HFB.out) (by
            rw [HB.out.1, ← hi1.out]; exact HM.out)
          exact ⟨g1, g2, g3, g4⟩)
          go_wp2_with fail
          refine bodyPost_ret (v := .tuple #[]) ?r1 ?r2 ?r3
          case r1 => exact results_none rfl _ _ _
          case r2 => rfl
          case r3 => exact ⟨⟨_, rfl⟩, M, HV.out, HMG.out, HG.out⟩
end Go.Proofs.YtcdhblfefpkjgaaDoor
namespace Go.Proofs.YtcdhblfefpkjgaaDoor
open Go.RowKit

set_option maxRecDepth 100000 in
set_option maxHeartbeats 4000000 in
theorem symLast_any (a m b n P pb cap : Nat) (pr : Nat → Int) (L : List Nat) (w : World) (hN : NV w P L) (hS : SI pr n L) (ham : a + 1 < m) (hmb : m + 1 = b) (hbn : b ≤ n) (hn : n ≤ 4096) (hs : Srt pr L a m) (hP : ∀ W, w.grownBy W (some P) → PZ W n pb pr) :
    Calls Tryd.prog 62 #[.slice (some ⟨P, 0, none⟩) n cap, .int .i64 (a : Int), .int .i64 (m : Int), .int .i64 (b : Int), lessV pb] w fun e w' => (∃ u, e = .returned u) ∧ ∃ L', NV w' P L' ∧ Mgd pr n a b L L' ∧ w.grownBy w' (some P) := by
  have HP := hide hP
  have HB := hide (show _ ∧ _ ∧ _ ∧ _ from ⟨ham, hmb, hbn, hn⟩)
  have HS0 := hide hS
  have HSR := hide hs
  obtain ⟨d, hd⟩ : ∃ d, Hid (m - a = d) := ⟨_, hide rfl⟩
  have wm : wrap64 ((m : Int) - (a : Int)) = (d : Int) := by have := HB.out; have := hd.out; unfold wrap64; omega
  have wm2 : IntKind.i64.wrap ((m : Int) - (a : Int)) = (d : Int) := by have := HB.out; have := hd.out; rw [IntKind.wrap_i64]; omega
  have dd : decide ((d : Int) = 1) = false := by have := hd.out; have := HB.out; rw [decide_eq_false_iff_not]; omega
  have dd2 : ¬ (d : Int) = 1 := by have := hd.out; have := HB.out; omega
  have dd3 : ¬ d = 1 := by have := hd.out; have := HB.out; omega
  have dd4 : ((d : Int) == 1) = false := by have := hd.out; have := HB.out; rw [beq_eq_false_iff_ne]; omega
  have wb : wrap64 ((b : Int) - (m : Int)) = 1 := by have := HB.out; unfold wrap64; omega
  have wb2 : IntKind.i64.wrap ((b : Int) - (m : Int)) = 1 := by have := HB.out; rw [IntKind.wrap_i64]; omega
  obtain ⟨x, hx⟩ : ∃ x, L[m]? = some x := ⟨_, List.getElem?_eq_getElem (by rw [hS.len]; omega)⟩
  have hxn := hS.lt _ _ hx
  have HX := hide hx
  have hatn : m < n := by omega
  have at0 : (0 : Int) ≤ (m : Int) := by omega
  have at1 : (m : Int) < (n : Int) := by omega
  clear hx hatn
  unfold lessV
  go_enter Tryd.func62, Tryd.ntmps62
  go_wp2_with fail
  go_loopw [14, 15] (fun iv jv wr => ∃ (i j : Nat), iv = .int .i64 (i : Int) ∧ jv = .int .i64 (j : Int) ∧ Hid (a ≤ i ∧ i ≤ j ∧ j ≤ m) ∧ Hid (i = a ∨ ∃ z, L[i - 1]? = some z ∧ pr x ≤ pr z) ∧ Hid (j = m ∨ ¬ ∃ z, L[j]? = some z ∧ pr x ≤ pr z) ∧ Hid (NV wr P L) ∧ Hid (w.grownBy wr (some P))) (fun iv jv _ => (intOf jv).toNat - (intOf iv).toNat)
  case atStart => exact ⟨a, m, rfl, rfl, hide (by have := HB.out; omega), hide (.inl rfl), hide (.inl rfl), hide hN, hide (gb_refl _ _)⟩
  case round =>
    clear hN hS hP ham hmb wm wm2 dd dd2 dd3 dd4 wb wb2 hbn hn hs
    obtain ⟨i, j, rfl, rfl, HJ, HF1, HF2, HV, HG⟩ := hrel
    by_cases hlt : i < j
    · have hd1 : decide ((i : Int) < (j : Int)) = true := by rw [decide_eq_true_eq]; omega
      have hd1' : decide (i < j) = true := decide_eq_true hlt
      have jn : j ≤ 4096 := by have := HJ.out; have := HB.out; omega
      have w1 : wrap64 ((i : Int) + (j : Int)) = (i : Int) + (j : Int) := by unfold wrap64; omega
      obtain ⟨h, hh⟩ : ∃ h, Hid ((i + j) / 2 = h) := ⟨_, hide rfl⟩
      have eh : ((i : Int) + (j : Int)) / 2 = (h : Int) := half_eq hh.out
      have HH : Hid (i ≤ h ∧ h < j) := hide (half_in hlt hh.out)
      obtain ⟨h2, hh2⟩ : ∃ h2, Hid (h + 1 = h2) := ⟨_, hide rfl⟩
      have wh : wrap64 ((h : Int) + 1) = (h2 : Int) := by have := HH.out; have := hh2.out; unfold wrap64; omega
      have wh2 : IntKind.i64.wrap ((h : Int) + 1) = (h2 : Int) := by have := HH.out; have := hh2.out; rw [IntKind.wrap_i64]; omega
      have hn2 : h < n := by have := HH.out; have := HJ.out; have := HB.out; omega
      obtain ⟨z, hz⟩ : ∃ z, L[h]? = some z := ⟨_, List.getElem?_eq_getElem (by rw [HS0.out.len]; exact hn2)⟩
      have hzn := HS0.out.lt _ _ hz
      have HZ := hide hz
      have c1 := HV.out.cell HX.out
      have c2 := HV.out.cell hz
      have ix0 : (0 : Int) ≤ (h : Int) := by omega
      have ix1 : (h : Int) < (n : Int) := by omega
      have HR := hide (fun q => ranked1_any n pb x z pr (wr.drewN q) ((HP.out _ HG.out).drew q) hxn hzn)
      obtain ⟨r, hr⟩ : ∃ r, Hid (cmpI (pr z) (pr x) = r) := ⟨_, hide rfl⟩
      rw [hr.out] at HR
      have HV2 := hide (fun q => (hide HV.out : Hid (NV (wr.drewN q) P L)))
      have HG2 := hide (fun q => hide (gb_drewN HG.out q))
      clear hz hzn hxn HV HG hn2
      by_cases hneg : r < 0
      · have hd3 : decide (r < 0) = true := decide_eq_true hneg
        have HPR : Hid (¬ (pr x ≤ pr z)) := hide (by rw [← hr.out] at hneg; have := cmpI_neg.1 hneg; omega)
        clear hneg
        go_wp2_with fail
        try rw [eh]
        go_quiet (first | (go_at_call 48; exact Calls.quiet_of (HR.out _)))
        go_wp2_with fail
        go_roundw
        case rel => exact ⟨i, h, rfl, rfl, hide (by have := HH.out; have := HJ.out; omega), HF1, hide (.inr (by rintro ⟨z2, q1, q2⟩; have q3 := HZ.out; rw [q1] at q3; cases q3; have q4 := HPR.out; omega)), HV2.out _, HG2.out _⟩
        case measure => have := HH.out; simp [intOf]; omega
      · have hd3 : decide (r < 0) = false := decide_eq_false hneg
        have HPR : Hid (pr x ≤ pr z) := hide (by rw [← hr.out] at hneg; exact Int.not_lt.1 (fun h => hneg (cmpI_neg.2 h)))
        clear hneg
        go_wp2_with fail
        try rw [eh]
        go_quiet (first | (go_at_call 48; exact Calls.quiet_of (HR.out _)))
        go_wp2_with fail
        go_roundw
        case rel => exact ⟨h2, j, by first | rfl | exact iv_succ wh, rfl, hide (by have := HH.out; have := HJ.out; have := hh2.out; omega), hide (.inr (by rw [show h2 - 1 = h by have := hh2.out; omega]; exact ⟨z, HZ.out, HPR.out⟩)), HF2, HV2.out _, HG2.out _⟩
        case measure => have := HH.out; have := hh2.out; first | (rw [wh]; simp [intOf]; omega) | (simp [intOf]; omega)
    · have e : i = j := by have := HJ.out; omega
      subst e
      have hd1 : decide ((i : Int) < (i : Int)) = false := by simp
      have hd1' : decide (i < i) = false := by simp
      have HFB : Hid (FB (fun t => ∃ z, L[t]? = some z ∧ pr x ≤ pr z) a m i) := hide ⟨HJ.out.1, HJ.out.2.2, HF1.out, HF2.out⟩
      have HP1 := HP
      clear HF1 HF2 hlt
      obtain ⟨W1, rfl⟩ : ∃ W1, W1 = wr := ⟨wr, rfl⟩
      go_wp2_with fail
      go_loopw [17] (fun kv wr => ∃ (k : Nat) (M : List Nat), kv = .int .i64 (k : Int) ∧ Hid (i ≤ k ∧ k ≤ m) ∧ Hid (NV wr P M) ∧ Hid (Via L M (rho k m (m + 1))) ∧ Hid (w.grownBy wr (some P))) (fun kv _ => (intOf kv).toNat - i)
      case atStart => exact ⟨m, L, rfl, hide (by have := HJ.out; omega), HV, hide ((Via.refl L).congr (fun t => (rho_none (.inl rfl) (Nat.le_refl _) (by omega)).symm)), HG⟩
      case round =>
        clear HV HG
        obtain ⟨k, M, rfl, HK, HV, HM, HG⟩ := hrel
        by_cases hc : i < k
        · have hd1 : decide ((i : Int) < (k : Int)) = true := by rw [decide_eq_true_eq]; omega
          have hd1' : decide (i < k) = true := decide_eq_true hc
          have hck := hide hc
          obtain ⟨k2, hk2⟩ : ∃ k2, Hid (k = k2 + 1) := ⟨k - 1, hide (by omega)⟩
          have wk : wrap64 ((k : Int) - 1) = (k2 : Int) := by have := HK.out; have := HJ.out; have := HB.out; have := hk2.out; unfold wrap64; omega
          have wk2 : IntKind.i64.wrap ((k : Int) - 1) = (k2 : Int) := by have := HK.out; have := HJ.out; have := HB.out; have := hk2.out; rw [IntKind.wrap_i64]; omega
          have k1n : k < n := by have := HK.out; have := HJ.out; have := HB.out; have := hk2.out; omega
          have k2n : k2 < n := by have := HK.out; have := HJ.out; have := HB.out; have := hk2.out; omega
          have hMl : M.length = n := by rw [HM.out.len]; exact HS0.out.len
          have ix0 : (0 : Int) ≤ (k : Int) := by omega
          have ix1 : (k : Int) < (n : Int) := by omega
          have ix2 : (0 : Int) ≤ (k2 : Int) := by omega
          have ix3 : (k2 : Int) < (n : Int) := by omega
          obtain ⟨x, hx⟩ : ∃ x, M[k]? = some x := ⟨_, List.getElem?_eq_getElem (by omega)⟩
          obtain ⟨y, hy⟩ : ∃ y, M[k2]? = some y := ⟨_, List.getElem?_eq_getElem (by omega)⟩
          have HXK := hide hx
          have HY := hide hy
          have HNE : Hid (k ≠ k2) := hide (by have := hk2.out; omega)
          obtain ⟨V0, hV0⟩ : ∃ V, World.drew wr = V := ⟨_, rfl⟩
          have HV0 : Hid (NV V0 P M ∧ w.grownBy V0 (some P)) := hide (by rw [← hV0]; exact ⟨HV.out, gb_drew HG.out⟩)
          obtain ⟨V1, hV1⟩ : ∃ V, V0.setCell ⟨P, k, none⟩ (.int .i64 (y : Int)) = V := ⟨_, rfl⟩
          obtain ⟨V2, hV2⟩ : ∃ V, V1.setCell ⟨P, k2, none⟩ (.int .i64 (x : Int)) = V := ⟨_, rfl⟩
          have HV1 : Hid (NV V1 P (M.set k y)) := hide (by rw [← hV1]; exact HV0.out.1.set k y)
          have HV2 : Hid (NV V2 P ((M.set k y).set k2 x)) := hide (by rw [← hV2]; exact HV1.out.set k2 x)
          have HG2 : Hid (w.grownBy V2 (some P)) := hide (by
            rw [← hV2, ← hV1]
            exact gb_trans HV0.out.2 (gb_trans (gb_set V0 P k _) (gb_set _ P k2 _)))
          have HM2 : Hid (Via L ((M.set k y).set k2 x) (rho k2 m (m + 1))) := hide (by
            refine Via.exch HM.out HXK.out HY.out (g := rho k2 m (m + 1)) ?_ ?_ ?_
            · have := hk2.out; have := HK.out; have := HB.out; unfold rho; (repeat' split) <;> omega
            · have := hk2.out; have := HK.out; have := HB.out; unfold rho; (repeat' split) <;> omega
            · intro t t1 t2; have := hk2.out; have := HK.out; have := HB.out; unfold rho; (repeat' split) <;> omega)
          have HF : Hid (∀ (W : World) (q : Nat), (W = V0 ∨ W = V1) → W.frozen? ⟨P, q, none⟩ = false) := hide (fun W q h => by
            rcases h with rfl | rfl
            · exact HV0.out.1.frozen q
            · exact HV1.out.frozen q)
          have hHeld : Hid (V0.cell? ⟨P, k2, none⟩ = some (.int .i64 (y : Int)) ∧ V0.cell? ⟨P, k, none⟩ = some (.int .i64 (x : Int))) := hide ⟨HV0.out.1.cell HY.out, HV0.out.1.cell HXK.out⟩
          have CX0 : Hid (V0.cell? ⟨P, k, none⟩ = some (.int .i64 (x : Int))) := hide hHeld.out.2
          have CX1 : Hid (V1.cell? ⟨P, k2, none⟩ = some (.int .i64 (y : Int))) := hide (HV1.out.cell (by rw [List.getElem?_set_ne HNE.out]; exact HY.out))
          have HK2 : Hid (i ≤ k2 ∧ k2 ≤ m) := hide (by have := HK.out; have := hk2.out; have := hck.out; omega)
          clear HV HM HG hx hy hMl k1n k2n hc
          go_wp2_with fail
          refine s_begins (S := fun W : World => W.cell? ⟨P, k2, none⟩ = some (.int .i64 (y : Int)) ∧ W.cell? ⟨P, k, none⟩ = some (.int .i64 (x : Int))) [15, 17] 18 #[false, false, false, false, false, false, false, false, false, false, false, false, false, false, false, false, false, false] (by kernel_rfl) (by kernel_rfl) (by kernel_rfl) ?_
          rw [hV0]
          clear hV0
          refine sk0 (v := ?_) 0 113 #[true, false, false, false, false, false, false, false, false, false, false, false, false, false, false, false, false, false] rfl rfl (by kernel_rfl) (by kernel_rfl) (by kernel_rfl) (by kernel_rfl) (fun _ _ _ h => h) (by kernel_rfl) (by rfl) ?hy (fun _ => hHeld.out) ?_
          case hy => intro W; first | (go_simp; done) | (go_simp; with_reducible rfl)
          simp only [List.setIfInBounds_toArray, List.set_cons_zero, List.set_cons_succ]
          refine sk0 (v := ?_) 1 114 #[true, true, false, false, false, false, false, false, false, false, false, false, false, false, false, false, false, false] rfl rfl (by kernel_rfl) (by kernel_rfl) (by kernel_rfl) (by kernel_rfl) (fun _ _ _ h => h) (by kernel_rfl) (by rfl) ?hy (fun _ => hHeld.out) ?_
          case hy => intro W; first | (go_simp; done) | (go_simp; with_reducible rfl)
          simp only [List.setIfInBounds_toArray, List.set_cons_zero, List.set_cons_succ]
          refine sk0 (v := ?_) 2 115 #[true, true, true, false, false, false, false, false, false, false, false, false, false, false, false, false, false, false] rfl rfl (by kernel_rfl) (by kernel_rfl) (by kernel_rfl) (by kernel_rfl) (fun _ _ _ h => h) (by kernel_rfl) (by rfl) ?hy (fun _ => hHeld.out) ?_
          case hy => intro W; first | (go_simp; done) | (go_simp; with_reducible rfl)
          simp only [List.setIfInBounds_toArray, List.set_cons_zero, List.set_cons_succ]
          refine sk0 (v := ?_) 3 116 #[true, true, true, true, false, false, false, false, false, false, false, false, false, false, false, false, false, false] rfl rfl (by kernel_rfl) (by kernel_rfl) (by kernel_rfl) (by kernel_rfl) (fun _ _ _ h => h) (by kernel_rfl) (by rfl) ?hy (fun _ => hHeld.out) ?_
          case hy => intro W; first | (go_simp; done) | (go_simp; with_reducible rfl)
          simp only [List.setIfInBounds_toArray, List.set_cons_zero, List.set_cons_succ]
          refine sk0 (v := ?_) 4 117 #[true, true, true, true, true, false, false, false, false, false, false, false, false, false, false, false, false, false] rfl rfl (by kernel_rfl) (by kernel_rfl) (by kernel_rfl) (by kernel_rfl) (fun _ _ _ h => h) (by kernel_rfl) (by rfl) ?hy (fun _ => hHeld.out) ?_
          case hy => intro W; first | (go_simp; done) | (go_simp; with_reducible rfl)
          simp only [List.setIfInBounds_toArray, List.set_cons_zero, List.set_cons_succ]
          refine sk0 (v := ?_) 5 118 #[true, true, true, true, true, true, false, false, false, false, false, false, false, false, false, false, false, false] rfl rfl (by kernel_rfl) (by kernel_rfl) (by kernel_rfl) (by kernel_rfl) (fun _ _ _ h => h) (by kernel_rfl) (by rfl) ?hy (fun _ => hHeld.out) ?_
          case hy => intro W; first | (go_simp; done) | (go_simp; with_reducible rfl)
          simp only [List.setIfInBounds_toArray, List.set_cons_zero, List.set_cons_succ]
          refine sk0 (v := ?_) 6 119 #[true, true, true, true, true, true, true, false, false, false, false, false, false, false, false, false, false, false] rfl rfl (by kernel_rfl) (by kernel_rfl) (by kernel_rfl) (by kernel_rfl) (fun _ _ _ h => h) (by kernel_rfl) (by rfl) ?hy (fun _ => hHeld.out) ?_
          case hy => intro W; first | (go_simp; done) | (go_simp; with_reducible rfl)
          simp only [List.setIfInBounds_toArray, List.set_cons_zero, List.set_cons_succ]
          refine sk0 (v := ?_) 7 120 #[true, true, true, true, true, true, true, true, false, false, false, false, false, false, false, false, false, false] rfl rfl (by kernel_rfl) (by kernel_rfl) (by kernel_rfl) (by kernel_rfl) (fun _ _ _ h => h) (by kernel_rfl) (by rfl) ?hy (fun _ => hHeld.out) ?_
          case hy => intro W; first | (go_simp; done) | (go_simp; with_reducible rfl)
          simp only [List.setIfInBounds_toArray, List.set_cons_zero, List.set_cons_succ]
          refine sk0 (v := ?_) 8 121 #[true, true, true, true, true, true, true, true, true, false, false, false, false, false, false, false, false, false] rfl rfl (by kernel_rfl) (by kernel_rfl) (by kernel_rfl) (by kernel_rfl) (fun _ _ _ h => h) (by kernel_rfl) (by rfl) ?hy (fun _ => hHeld.out) ?_
          case hy => intro W; first | (go_simp; done) | (go_simp; with_reducible rfl)
          simp only [List.setIfInBounds_toArray, List.set_cons_zero, List.set_cons_succ]
          refine sk1 (v := ?_) 9 122 #[true, true, true, true, true, true, true, true, true, true, false, false, false, false, false, false, false, false] rfl rfl (by kernel_rfl) (by kernel_rfl) (by kernel_rfl) (by kernel_rfl) (by kernel_rfl) (by kernel_rfl) (fun _ _ _ h => h) (by kernel_rfl) (by rfl) ?hy hHeld.out ?_
          case hy => rintro W ⟨s1, s2⟩; first | (go_simp; done) | (go_simp; with_reducible rfl)
          simp only [List.setIfInBounds_toArray, List.set_cons_zero, List.set_cons_succ]
          refine sk0 (v := ?_) 10 123 #[true, true, true, true, true, true, true, true, true, true, true, false, false, false, false, false, false, false] rfl rfl (by kernel_rfl) (by kernel_rfl) (by kernel_rfl) (by kernel_rfl) (fun _ _ _ h => h) (by kernel_rfl) (by rfl) ?hy (fun _ => hHeld.out) ?_
          case hy => intro W; first | (go_simp; done) | (go_simp; with_reducible rfl)
          simp only [List.setIfInBounds_toArray, List.set_cons_zero, List.set_cons_succ]
          refine sk0 (v := ?_) 11 124 #[true, true, true, true, true, true, true, true, true, true, true, true, false, false, false, false, false, false] rfl rfl (by kernel_rfl) (by kernel_rfl) (by kernel_rfl) (by kernel_rfl) (fun _ _ _ h => h) (by kernel_rfl) (by rfl) ?hy (fun _ => hHeld.out) ?_
          case hy => intro W; first | (go_simp; done) | (go_simp; with_reducible rfl)
          simp only [List.setIfInBounds_toArray, List.set_cons_zero, List.set_cons_succ]
          refine sk0 (v := ?_) 12 125 #[true, true, true, true, true, true, true, true, true, true, true, true, true, false, false, false, false, false] rfl rfl (by kernel_rfl) (by kernel_rfl) (by kernel_rfl) (by kernel_rfl) (fun _ _ _ h => h) (by kernel_rfl) (by rfl) ?hy (fun _ => hHeld.out) ?_
          case hy => intro W; first | (go_simp; done) | (go_simp; with_reducible rfl)
          simp only [List.setIfInBounds_toArray, List.set_cons_zero, List.set_cons_succ]
          refine sk1 (v := ?_) 13 126 #[true, true, true, true, true, true, true, true, true, true, true, true, true, true, false, false, false, false] rfl rfl (by kernel_rfl) (by kernel_rfl) (by kernel_rfl) (by kernel_rfl) (by kernel_rfl) (by kernel_rfl) (fun _ _ _ h => h) (by kernel_rfl) (by rfl) ?hy hHeld.out ?_
          case hy => rintro W ⟨s1, s2⟩; first | (go_simp; done) | (go_simp; with_reducible rfl)
          simp only [List.setIfInBounds_toArray, List.set_cons_zero, List.set_cons_succ]
          refine s_ready 14 #[true, true, true, true, true, true, true, true, true, true, true, true, true, true, true, false, false, false] rfl (by kernel_rfl) (by kernel_rfl) (by rfl) (fun K hK => ?_)
          go_simp
          refine hK.out _ _ (fun _ => hHeld.out) ?_
          clear hK K
          have fz0 := HF.out V0 k (.inl rfl)
          have cx0 := CX0.out
          refine s_ready 15 #[true, true, true, true, true, true, true, true, true, true, true, true, true, true, true, true, false, false] rfl (by kernel_rfl) (by kernel_rfl) (by rfl) (fun K hK => ?_)
          go_simp
          refine hK.out _ _ (fun h => absurd h (by decide)) ?_
          clear hK K
          refine s_ready 16 #[true, true, true, true, true, true, true, true, true, true, true, true, true, true, true, true, true, false] rfl (by kernel_rfl) (by kernel_rfl) (by rfl) (fun K hK => ?_)
          go_simp
          refine hK.out _ _ (fun h => absurd h (by decide)) ?_
          clear hK K
          have fz1 := HF.out V1 k2 (.inr rfl)
          have cx1 := CX1.out
          refine s_ready 17 #[true, true, true, true, true, true, true, true, true, true, true, true, true, true, true, true, true, true] rfl (by kernel_rfl) (by kernel_rfl) (by rfl) (fun K hK => ?_)
          go_simp
          refine hK.out _ _ (fun h => absurd h (by decide)) ?_
          clear hK K
          refine s_done (by kernel_rfl) ?_ _
          clear hV1 hV2 cx0 fz0 cx1 fz1
          go_wp2_with fail
          go_roundw
          case rel => exact ⟨k2, (M.set k y).set k2 x, by first | rfl | (congr 1), HK2, HV2, HM2, HG2⟩
          case measure => have := hck.out; have := hk2.out; simp [intOf]; omega
        · have e : k = i := by have := HK.out; omega
          subst e
          have hd1 : decide ((k : Int) < (k : Int)) = false := by simp
          have hd1' : decide (k < k) = false := by simp
          have HMG : Hid (Mgd pr n a b L M) := hide (by
          obtain ⟨g1, g2, g3, g4⟩ := merge_last HS0.out (by have := HB.out; omega) (by have := HB.out; omega) HX.out HSR.out (i := k) HFB.out HM.out
          rw [HB.out.2.1] at g2 g3 g4
          exact ⟨g1, g2, g3, g4⟩)
          go_wp2_with fail
          refine bodyPost_ret (v := .tuple #[]) ?r1 ?r2 ?r3
          case r1 => exact results_none rfl _ _ _
          case r2 => rfl
          case r3 => exact ⟨⟨_, rfl⟩, M, HV.out, HMG.out, HG.out⟩
end Go.Proofs.YtcdhblfefpkjgaaDoor
