/-
  My own text: layer 23: insertion sort by priorities (printed by mkls2.py).
-/
import Derived.Test.YtfhimhjeilnkaaaDoorLS1
import Derived.Test.YtfhimhjeilnkaaaDoorLS0
namespace Go.Proofs.YtfhimhjeilnkaaaDoor
open Go.RowKit

theorem PZ.drew {w : World} {n pb : Nat} {pr : Nat → Int} (h : PZ w n pb pr) (k : Nat) : PZ (w.drewN k) n pb pr := ⟨h.at_⟩
/-- The order's closure. -/
def lessV (pb : Nat) : Value := .func (Fn.func 38) #[] #[.pointer (some ⟨pb, 0, none⟩)]
theorem gb_drewN {w w1 : World} {r : Option Nat} (h : w.grownBy w1 r) (q : Nat) : w.grownBy (w1.drewN q) r := ⟨h.os, h.tape, h.output, h.size, h.block⟩
theorem gb_drew {w w1 : World} {r : Option Nat} (h : w.grownBy w1 r) : w.grownBy w1.drew r := ⟨h.os, h.tape, h.output, h.size, h.block⟩
set_option maxRecDepth 100000 in
set_option maxHeartbeats 4000000 in
theorem isort_any (a b n P pb cap : Nat) (pr : Nat → Int) (L : List Nat) (w : World) (hN : NV w P L) (hS : SI pr n L) (hab : a ≤ b) (hbn : b ≤ n) (hn : n ≤ 4096) (hP : ∀ W, w.grownBy W (some P) → PZ W n pb pr) :
    Calls Tryd.prog 42 #[.slice (some ⟨P, 0, none⟩) n cap, .int .i64 (a : Int), .int .i64 (b : Int), lessV pb] w fun e w' => (∃ u, e = .returned u) ∧ ∃ L', NV w' P L' ∧ SI pr n L' ∧ Srt pr L' a b ∧ (∀ i, i < a ∨ b ≤ i → L'[i]? = L[i]?) ∧ w.grownBy w' (some P) := by
  have HP := hide hP
  have HB := hide (And.intro hab (And.intro hbn hn))
  have wa : wrap64 ((a : Int) + 1) = ((a + 1 : Nat) : Int) := by unfold wrap64; omega
  have wa2 : IntKind.i64.wrap ((a : Int) + 1) = ((a + 1 : Nat) : Int) := by rw [IntKind.wrap_i64]; omega
  obtain ⟨a1, ha1⟩ : ∃ a1, Hid (a + 1 = a1) := ⟨_, hide rfl⟩
  rw [ha1.out] at wa wa2
  unfold lessV
  go_enter Tryd.func42, Tryd.ntmps42
  go_wp2_with fail
  go_loopw [8] (fun i wr => ∃ (k : Nat) (M : List Nat), i = .int .i64 (k : Int) ∧ Hid (a + 1 ≤ k ∧ (k ≤ b ∨ k = a + 1)) ∧ Hid (NV wr P M) ∧ Hid (SI pr n M) ∧ Hid (Srt pr M a k) ∧ Hid (∀ i, i < a ∨ b ≤ i → M[i]? = L[i]?) ∧ Hid (w.grownBy wr (some P))) (fun i _ => b - (intOf i).toNat)
  case atStart => exact ⟨a1, L, rfl, hide (by have := ha1.out; omega), hide hN, hide hS, hide (by rw [← ha1.out]; exact Srt.one a), hide (fun _ _ => rfl), hide (gb_refl _ _)⟩
  case round =>
    clear hN hS hP hab hbn hn wa wa2
    obtain ⟨k, M, rfl, HK, HV, HI, HSr, HO, HG⟩ := hrel
    by_cases hlt : k < b
    · have hd1 : decide ((k : Int) < (b : Int)) = true := by rw [decide_eq_true_eq]; omega
      have wk : wrap64 ((k : Int) + 1) = (k : Int) + 1 := by have := HB.out; unfold wrap64; omega
      have wk2 : IntKind.i64.wrap ((k : Int) + 1) = (k : Int) + 1 := by have := HB.out; rw [IntKind.wrap_i64]; omega
      have HKB := hide hlt
      have hd1' : decide (k < b) = true := decide_eq_true hlt
      clear hlt
      go_wp2_with fail
      go_loopw [9] (fun i wr => ∃ (c : Nat) (M : List Nat), i = .int .i64 (c : Int) ∧ Hid (a ≤ c ∧ c ≤ k) ∧ Hid (NV wr P M) ∧ Hid (SI pr n M) ∧ Hid (JS pr M a k c) ∧ Hid (∀ i, i < a ∨ b ≤ i → M[i]? = L[i]?) ∧ Hid (w.grownBy wr (some P))) (fun i _ => (intOf i).toNat - a)
      case atStart =>
        obtain ⟨z, hz⟩ : ∃ z, M[k]? = some z := ⟨_, List.getElem?_eq_getElem (by have := HI.out.len; have := HKB.out; have := HB.out; omega)⟩
        exact ⟨k, M, rfl, hide (by have := HK.out; omega), HV, HI, hide (JS.start HSr.out hz), HO, HG⟩
      case round =>
        clear HV HI HSr HO HG M
        obtain ⟨c, M, rfl, HC, HV, HI, HJ, HO, HG⟩ := hrel
        by_cases hca : a < c
        · obtain ⟨j, hj⟩ : ∃ j, Hid (c = j + 1) := ⟨c - 1, hide (by omega)⟩
          have hcn : c < n := by have := HC.out; have := HKB.out; have := HB.out; omega
          obtain ⟨z, hz⟩ : ∃ z, M[c]? = some z := ⟨_, List.getElem?_eq_getElem (by rw [HI.out.len]; exact hcn)⟩
          obtain ⟨x, hx⟩ : ∃ x, M[j]? = some x := ⟨_, List.getElem?_eq_getElem (by have := hj.out; rw [HI.out.len]; omega)⟩
          have c1 := HV.out.cell hz
          have c2 := HV.out.cell hx
          have hzn := HI.out.lt _ _ hz
          have hxn := HI.out.lt _ _ hx
          have HX := hide hx
          have HZ := hide hz
          have wj : wrap64 ((c : Int) - 1) = (j : Int) := by have := hj.out; have := HB.out; unfold wrap64; omega
          have wj2 : IntKind.i64.wrap ((c : Int) - 1) = (j : Int) := by have := hj.out; have := HB.out; rw [IntKind.wrap_i64]; omega
          have hd2 : decide ((a : Int) < (c : Int)) = true := by rw [decide_eq_true_eq]; omega
          have j0 : (0 : Int) ≤ (j : Int) := by omega
          have j1 : (j : Int) < (n : Int) := by have := hj.out; omega
          have i0 : (0 : Int) ≤ (c : Int) := by omega
          have i1 : (c : Int) < (n : Int) := by omega
          have HR := hide (fun q => ranked1_any n pb z x pr (wr.drewN q) ((HP.out _ HG.out).drew q) hzn hxn)
          obtain ⟨r, hr⟩ : ∃ r, Hid (cmpI (pr x) (pr z) = r) := ⟨_, hide rfl⟩
          rw [hr.out] at HR
          clear hz hx hzn hxn
          by_cases hneg : r < 0
          · have hd3 : decide (r < 0) = true := decide_eq_true hneg
            have HPR : Hid (pr x < pr z) := hide (by rw [← hr.out] at hneg; exact cmpI_neg.1 hneg)
            clear hneg
            go_wp2_with fail
            go_quiet (first | (go_at_call 38; exact Calls.quiet_of (HR.out _)))
            go_wp2_with fail
            obtain ⟨V0, hV0⟩ : ∃ V, (World.drew (wr.drewN nq)) = V := ⟨_, rfl⟩
            have HV0 : Hid (NV V0 P M ∧ w.grownBy V0 (some P)) := hide (by rw [← hV0]; exact ⟨HV.out, gb_drew (gb_drewN HG.out nq)⟩)
            obtain ⟨V1, hV1⟩ : ∃ V, V0.setCell ⟨P, c, none⟩ (.int .i64 (x : Int)) = V := ⟨_, rfl⟩
            obtain ⟨V2, hV2⟩ : ∃ V, V1.setCell ⟨P, j, none⟩ (.int .i64 (z : Int)) = V := ⟨_, rfl⟩
            have HV1 : Hid (NV V1 P (M.set c x)) := hide (by rw [← hV1]; exact HV0.out.1.set c x)
            have HV2 : Hid (NV V2 P (swp M j x z)) := hide (by
              have h := HV1.out.set j z
              rw [hV2, hj.out] at h
              exact h)
            have HG2 : Hid (w.grownBy V2 (some P)) := hide (by
              rw [← hV2, ← hV1]
              exact gb_trans HV0.out.2 (gb_trans (gb_set V0 P c _) (gb_set _ P j _)))
            have HF : Hid (∀ (W : World) (q : Nat), (W = V0 ∨ W = V1) → W.frozen? ⟨P, q, none⟩ = false) := hide (fun W q h => by
              rcases h with rfl | rfl
              · exact HV0.out.1.frozen q
              · exact HV1.out.frozen q)
            have hHeld : Hid (V0.cell? ⟨P, j, none⟩ = some (.int .i64 (x : Int)) ∧ V0.cell? ⟨P, c, none⟩ = some (.int .i64 (z : Int))) := hide ⟨HV0.out.1.cell HX.out, HV0.out.1.cell HZ.out⟩
            have CZ0 := hHeld
            have CX1 : Hid (V1.cell? ⟨P, j, none⟩ = some (.int .i64 (x : Int))) := hide (HV1.out.cell (by rw [List.getElem?_set_ne (by have := hj.out; omega)]; exact HX.out))
            refine s_begins (S := fun W : World => W.cell? ⟨P, j, none⟩ = some (.int .i64 (x : Int)) ∧ W.cell? ⟨P, c, none⟩ = some (.int .i64 (z : Int))) [15, 17] 18 #[false, false, false, false, false, false, false, false, false, false, false, false, false, false, false, false, false, false] (by kernel_rfl) (by kernel_rfl) (by kernel_rfl) ?_
            rw [hV0]
            clear hV0
            refine sk0 (v := ?_) 0 37 #[true, false, false, false, false, false, false, false, false, false, false, false, false, false, false, false, false, false] rfl rfl (by kernel_rfl) (by kernel_rfl) (by kernel_rfl) (by kernel_rfl) (fun _ _ _ h => h) (by kernel_rfl) (by rfl) ?hy (fun _ => hHeld.out) ?_
            case hy => intro W; first | (go_simp; done) | (go_simp; with_reducible rfl)
            simp only [List.setIfInBounds_toArray, List.set_cons_zero, List.set_cons_succ]
            refine sk0 (v := ?_) 1 38 #[true, true, false, false, false, false, false, false, false, false, false, false, false, false, false, false, false, false] rfl rfl (by kernel_rfl) (by kernel_rfl) (by kernel_rfl) (by kernel_rfl) (fun _ _ _ h => h) (by kernel_rfl) (by rfl) ?hy (fun _ => hHeld.out) ?_
            case hy => intro W; first | (go_simp; done) | (go_simp; with_reducible rfl)
            simp only [List.setIfInBounds_toArray, List.set_cons_zero, List.set_cons_succ]
            refine sk0 (v := ?_) 2 39 #[true, true, true, false, false, false, false, false, false, false, false, false, false, false, false, false, false, false] rfl rfl (by kernel_rfl) (by kernel_rfl) (by kernel_rfl) (by kernel_rfl) (fun _ _ _ h => h) (by kernel_rfl) (by rfl) ?hy (fun _ => hHeld.out) ?_
            case hy => intro W; first | (go_simp; done) | (go_simp; with_reducible rfl)
            simp only [List.setIfInBounds_toArray, List.set_cons_zero, List.set_cons_succ]
            refine sk0 (v := ?_) 3 40 #[true, true, true, true, false, false, false, false, false, false, false, false, false, false, false, false, false, false] rfl rfl (by kernel_rfl) (by kernel_rfl) (by kernel_rfl) (by kernel_rfl) (fun _ _ _ h => h) (by kernel_rfl) (by rfl) ?hy (fun _ => hHeld.out) ?_
            case hy => intro W; first | (go_simp; done) | (go_simp; with_reducible rfl)
            simp only [List.setIfInBounds_toArray, List.set_cons_zero, List.set_cons_succ]
            refine sk0 (v := ?_) 4 41 #[true, true, true, true, true, false, false, false, false, false, false, false, false, false, false, false, false, false] rfl rfl (by kernel_rfl) (by kernel_rfl) (by kernel_rfl) (by kernel_rfl) (fun _ _ _ h => h) (by kernel_rfl) (by rfl) ?hy (fun _ => hHeld.out) ?_
            case hy => intro W; first | (go_simp; done) | (go_simp; with_reducible rfl)
            simp only [List.setIfInBounds_toArray, List.set_cons_zero, List.set_cons_succ]
            refine sk0 (v := ?_) 5 42 #[true, true, true, true, true, true, false, false, false, false, false, false, false, false, false, false, false, false] rfl rfl (by kernel_rfl) (by kernel_rfl) (by kernel_rfl) (by kernel_rfl) (fun _ _ _ h => h) (by kernel_rfl) (by rfl) ?hy (fun _ => hHeld.out) ?_
            case hy => intro W; first | (go_simp; done) | (go_simp; with_reducible rfl)
            simp only [List.setIfInBounds_toArray, List.set_cons_zero, List.set_cons_succ]
            refine sk0 (v := ?_) 6 43 #[true, true, true, true, true, true, true, false, false, false, false, false, false, false, false, false, false, false] rfl rfl (by kernel_rfl) (by kernel_rfl) (by kernel_rfl) (by kernel_rfl) (fun _ _ _ h => h) (by kernel_rfl) (by rfl) ?hy (fun _ => hHeld.out) ?_
            case hy => intro W; first | (go_simp; done) | (go_simp; with_reducible rfl)
            simp only [List.setIfInBounds_toArray, List.set_cons_zero, List.set_cons_succ]
            refine sk0 (v := ?_) 7 44 #[true, true, true, true, true, true, true, true, false, false, false, false, false, false, false, false, false, false] rfl rfl (by kernel_rfl) (by kernel_rfl) (by kernel_rfl) (by kernel_rfl) (fun _ _ _ h => h) (by kernel_rfl) (by rfl) ?hy (fun _ => hHeld.out) ?_
            case hy => intro W; first | (go_simp; done) | (go_simp; with_reducible rfl)
            simp only [List.setIfInBounds_toArray, List.set_cons_zero, List.set_cons_succ]
            refine sk0 (v := ?_) 8 45 #[true, true, true, true, true, true, true, true, true, false, false, false, false, false, false, false, false, false] rfl rfl (by kernel_rfl) (by kernel_rfl) (by kernel_rfl) (by kernel_rfl) (fun _ _ _ h => h) (by kernel_rfl) (by rfl) ?hy (fun _ => hHeld.out) ?_
            case hy => intro W; first | (go_simp; done) | (go_simp; with_reducible rfl)
            simp only [List.setIfInBounds_toArray, List.set_cons_zero, List.set_cons_succ]
            refine sk1 (v := ?_) 9 46 #[true, true, true, true, true, true, true, true, true, true, false, false, false, false, false, false, false, false] rfl rfl (by kernel_rfl) (by kernel_rfl) (by kernel_rfl) (by kernel_rfl) (by kernel_rfl) (by kernel_rfl) (fun _ _ _ h => h) (by kernel_rfl) (by rfl) ?hy hHeld.out ?_
            case hy => rintro W ⟨s1, s2⟩; first | (go_simp; done) | (go_simp; with_reducible rfl)
            simp only [List.setIfInBounds_toArray, List.set_cons_zero, List.set_cons_succ]
            refine sk0 (v := ?_) 10 47 #[true, true, true, true, true, true, true, true, true, true, true, false, false, false, false, false, false, false] rfl rfl (by kernel_rfl) (by kernel_rfl) (by kernel_rfl) (by kernel_rfl) (fun _ _ _ h => h) (by kernel_rfl) (by rfl) ?hy (fun _ => hHeld.out) ?_
            case hy => intro W; first | (go_simp; done) | (go_simp; with_reducible rfl)
            simp only [List.setIfInBounds_toArray, List.set_cons_zero, List.set_cons_succ]
            refine sk0 (v := ?_) 11 48 #[true, true, true, true, true, true, true, true, true, true, true, true, false, false, false, false, false, false] rfl rfl (by kernel_rfl) (by kernel_rfl) (by kernel_rfl) (by kernel_rfl) (fun _ _ _ h => h) (by kernel_rfl) (by rfl) ?hy (fun _ => hHeld.out) ?_
            case hy => intro W; first | (go_simp; done) | (go_simp; with_reducible rfl)
            simp only [List.setIfInBounds_toArray, List.set_cons_zero, List.set_cons_succ]
            refine sk0 (v := ?_) 12 49 #[true, true, true, true, true, true, true, true, true, true, true, true, true, false, false, false, false, false] rfl rfl (by kernel_rfl) (by kernel_rfl) (by kernel_rfl) (by kernel_rfl) (fun _ _ _ h => h) (by kernel_rfl) (by rfl) ?hy (fun _ => hHeld.out) ?_
            case hy => intro W; first | (go_simp; done) | (go_simp; with_reducible rfl)
            simp only [List.setIfInBounds_toArray, List.set_cons_zero, List.set_cons_succ]
            refine sk1 (v := ?_) 13 50 #[true, true, true, true, true, true, true, true, true, true, true, true, true, true, false, false, false, false] rfl rfl (by kernel_rfl) (by kernel_rfl) (by kernel_rfl) (by kernel_rfl) (by kernel_rfl) (by kernel_rfl) (fun _ _ _ h => h) (by kernel_rfl) (by rfl) ?hy hHeld.out ?_
            case hy => rintro W ⟨s1, s2⟩; first | (go_simp; done) | (go_simp; with_reducible rfl)
            simp only [List.setIfInBounds_toArray, List.set_cons_zero, List.set_cons_succ]
            refine s_ready 14 #[true, true, true, true, true, true, true, true, true, true, true, true, true, true, true, false, false, false] rfl (by kernel_rfl) (by kernel_rfl) (by rfl) (fun K hK => ?_)
            go_simp
            refine hK.out _ _ (fun _ => hHeld.out) ?_
            clear hK K
            have fz0 := HF.out V0 c (.inl rfl)
            have cx0 := CZ0.out.2
            refine s_ready 15 #[true, true, true, true, true, true, true, true, true, true, true, true, true, true, true, true, false, false] rfl (by kernel_rfl) (by kernel_rfl) (by rfl) (fun K hK => ?_)
            go_simp
            refine hK.out _ _ (fun h => absurd h (by decide)) ?_
            clear hK K
            refine s_ready 16 #[true, true, true, true, true, true, true, true, true, true, true, true, true, true, true, true, true, false] rfl (by kernel_rfl) (by kernel_rfl) (by rfl) (fun K hK => ?_)
            go_simp
            refine hK.out _ _ (fun h => absurd h (by decide)) ?_
            clear hK K
            have fz1 := HF.out V1 j (.inr rfl)
            have cx1 := CX1.out
            refine s_ready 17 #[true, true, true, true, true, true, true, true, true, true, true, true, true, true, true, true, true, true] rfl (by kernel_rfl) (by kernel_rfl) (by rfl) (fun K hK => ?_)
            go_simp
            refine hK.out _ _ (fun h => absurd h (by decide)) ?_
            clear hK K
            refine s_done (by kernel_rfl) ?_ _
            have HJ2 : Hid (JS pr (swp M j x z) a k j) := hide (by
              have h := HJ.out
              rw [hj.out] at h
              have hz := HZ.out
              rw [hj.out] at hz
              exact h.step (by have := hj.out; have := HC.out; omega) (by have := hj.out; have := HC.out; omega) HX.out hz HPR.out)
            have HI2 : Hid (SI pr n (swp M j x z)) := hide (by
              have hz := HZ.out
              rw [hj.out] at hz
              exact HI.out.swap HX.out hz HPR.out)
            have HO2 : Hid (∀ i, i < a ∨ b ≤ i → (swp M j x z)[i]? = L[i]?) := hide (fun i hi => by
              have hz := HZ.out
              rw [hj.out] at hz
              rw [swp_out HX.out hz (by have := hj.out; have := HC.out; have := HKB.out; omega)]
              exact HO.out i hi)
            have HC2 : Hid (a ≤ j ∧ j ≤ k) := hide (by have := hj.out; have := HC.out; omega)
            have HJ3 : Hid (j < c ∧ a < c) := hide (by have := hj.out; omega)
            clear HV HI HJ HO HG c1 c2 hV1 hV2 cx0 fz0 cx1 fz1
            go_wp2_with fail
            go_roundw
            case rel => exact ⟨j, swp M j x z, rfl, HC2, HV2, HI2, HJ2, HO2, HG2⟩
            case measure => have := HJ3.out; simp [intOf]; omega
          · have hd3 : decide (r < 0) = false := decide_eq_false hneg
            have HS2 : Hid (Srt pr M a (k + 1)) := hide (by
              have h := HJ.out
              rw [hj.out] at h
              have hz := HZ.out
              rw [hj.out] at hz
              refine h.stop (by have := hj.out; have := HC.out; omega) (by have := hj.out; have := HC.out; omega) HX.out hz ?_
              rw [← hr.out] at hneg
              have := mt cmpI_neg.2 hneg
              omega)
            have HG2 := fun q => hide (gb_drewN HG.out q)
            have HV2 : ∀ q, Hid (NV (wr.drewN q) P M) := fun q => hide HV.out
            have HG2 := hide HG2
            have HV2 := hide HV2
            clear hneg HJ HC
            go_wp2_with fail
            go_quiet (first | (go_at_call 38; exact Calls.quiet_of (HR.out _)))
            go_wp2_with fail
            go_roundw
            case rel => exact ⟨k + 1, M, by go_num, hide (by have := HK.out; have := HKB.out; omega), HV2.out _, HI, HS2, HO, HG2.out _⟩
            case measure => have := HKB.out; first | (rw [wk]; simp [intOf]; omega) | (simp [intOf]; omega)
        · have e : c = a := by have := HC.out; omega
          subst e
          have hd2 : decide ((c : Int) < (c : Int)) = false := by simp
          have HS2 := hide HJ.out.first
          have HG2 := fun q => hide (gb_drewN HG.out q)
          have HV2 : ∀ q, Hid (NV (wr.drewN q) P M) := fun q => hide HV.out
          have HG2 := hide HG2
          have HV2 := hide HV2
          clear HJ HC hca
          go_wp2_with fail
          go_quiet (fail)
          go_wp2_with fail
          go_roundw
          case rel => exact ⟨k + 1, M, by go_num, hide (by have := HK.out; have := HKB.out; omega), HV2.out _, HI, HS2, HO, HG2.out _⟩
          case measure => have := HKB.out; first | (rw [wk]; simp [intOf]; omega) | (simp [intOf]; omega)
    · have hd1 : decide ((k : Int) < (b : Int)) = false := by rw [decide_eq_false_iff_not]; omega
      have hd1' : decide (k < b) = false := decide_eq_false hlt
      have HS2 : Hid (Srt pr M a b) := hide (HSr.out.mono (by omega))
      clear hlt
      go_wp2_with fail
      refine bodyPost_end (v := .tuple #[]) ?r1 ?r2 ?r3
      case r1 => exact results_none rfl _ _ _
      case r2 => rfl
      case r3 => exact ⟨⟨_, rfl⟩, M, HV.out, HI.out, HS2.out, HO.out, HG.out⟩
end Go.Proofs.YtfhimhjeilnkaaaDoor
