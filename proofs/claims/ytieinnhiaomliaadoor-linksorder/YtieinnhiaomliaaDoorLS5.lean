/-
  My own text: layer 23: two stretches swapped; a rotation (printed by mkls5.py).
-/
import Derived.Test.YtieinnhiaomliaaDoorLS2
import Derived.Test.YtieinnhiaomliaaDoorLS4
import Derived.Test.YtieinnhiaomliaaDoorLO3
namespace Go.Proofs.YtieinnhiaomliaaDoor
open Go.RowKit

set_option maxRecDepth 100000 in
set_option maxHeartbeats 4000000 in
theorem swapRange_any (a b k n P cap : Nat) (lv : Value) (L : List Nat) (w : World) (hN : NV w P L) (hl : L.length = n) (hab : a + k ≤ b) (hbn : b + k ≤ n) (hn : n ≤ 4096) :
    Calls Tryd.prog 55 #[.slice (some ⟨P, 0, none⟩) n cap, .int .i64 (a : Int), .int .i64 (b : Int), .int .i64 (k : Int), lv] w fun e w' => (∃ u, e = .returned u) ∧ ∃ L', NV w' P L' ∧ Via L L' (sgm a b k) ∧ w.grownBy w' (some P) := by
  have HB := hide (And.intro hab (And.intro hbn hn))
  have HL := hide hl
  go_enter Tryd.func55, Tryd.ntmps55
  go_wp2_with fail
  go_loopw [10] (fun i wr => ∃ (j : Nat) (M : List Nat), j ≤ k ∧ i = .int .i64 (j : Int) ∧ Hid (NV wr P M) ∧ Hid (Via L M (sgm a b j)) ∧ Hid (w.grownBy wr (some P))) (fun i _ => k - (intOf i).toNat)
  case atStart => exact ⟨0, L, Nat.zero_le _, rfl, hide hN, hide ((Via.refl L).congr (sgm_zero a b)), hide (gb_refl _ _)⟩
  case round =>
    clear hN hab hbn hn hl
    obtain ⟨j, M, hj, rfl, HV, HM, HG⟩ := hrel
    by_cases hlt : j < k
    · have hd1 : decide ((j : Int) < (k : Int)) = true := by rw [decide_eq_true_eq]; omega
      have hd1' : decide (j < k) = true := decide_eq_true hlt
      have wj : wrap64 ((j : Int) + 1) = (j : Int) + 1 := by have := HB.out; unfold wrap64; omega
      obtain ⟨pa, hpa⟩ : ∃ pa, Hid (a + j = pa) := ⟨_, hide rfl⟩
      obtain ⟨pb, hpb⟩ : ∃ pb, Hid (b + j = pb) := ⟨_, hide rfl⟩
      have wa : wrap64 ((a : Int) + (j : Int)) = (pa : Int) := by have := HB.out; have := hpa.out; unfold wrap64; omega
      have wa2 : IntKind.i64.wrap ((a : Int) + (j : Int)) = (pa : Int) := by have := HB.out; have := hpa.out; rw [IntKind.wrap_i64]; omega
      have wb : wrap64 ((b : Int) + (j : Int)) = (pb : Int) := by have := HB.out; have := hpb.out; unfold wrap64; omega
      have wb2 : IntKind.i64.wrap ((b : Int) + (j : Int)) = (pb : Int) := by have := HB.out; have := hpb.out; rw [IntKind.wrap_i64]; omega
      have hpan : pa < n := by have := HB.out; have := hpa.out; omega
      have hpbn : pb < n := by have := HB.out; have := hpb.out; omega
      have i0 : (0 : Int) ≤ (pa : Int) := by omega
      have i1 : (pa : Int) < (n : Int) := by omega
      have i2 : (0 : Int) ≤ (pb : Int) := by omega
      have i3 : (pb : Int) < (n : Int) := by omega
      have hMl : M.length = n := by rw [HM.out.len]; exact HL.out
      obtain ⟨x, hx⟩ : ∃ x, M[pa]? = some x := ⟨_, List.getElem?_eq_getElem (by omega)⟩
      obtain ⟨y, hy⟩ : ∃ y, M[pb]? = some y := ⟨_, List.getElem?_eq_getElem (by omega)⟩
      have HX := hide hx
      have HY := hide hy
      have HNE : Hid (pa ≠ pb) := hide (by have := HB.out; have := hpa.out; have := hpb.out; omega)
      obtain ⟨V0, hV0⟩ : ∃ V, World.drew wr = V := ⟨_, rfl⟩
      have HV0 : Hid (NV V0 P M ∧ w.grownBy V0 (some P)) := hide (by rw [← hV0]; exact ⟨HV.out, gb_drew HG.out⟩)
      obtain ⟨V1, hV1⟩ : ∃ V, V0.setCell ⟨P, pa, none⟩ (.int .i64 (y : Int)) = V := ⟨_, rfl⟩
      obtain ⟨V2, hV2⟩ : ∃ V, V1.setCell ⟨P, pb, none⟩ (.int .i64 (x : Int)) = V := ⟨_, rfl⟩
      have HV1 : Hid (NV V1 P (M.set pa y)) := hide (by rw [← hV1]; exact HV0.out.1.set pa y)
      have HV2 : Hid (NV V2 P ((M.set pa y).set pb x)) := hide (by rw [← hV2]; exact HV1.out.set pb x)
      have HG2 : Hid (w.grownBy V2 (some P)) := hide (by
        rw [← hV2, ← hV1]
        exact gb_trans HV0.out.2 (gb_trans (gb_set V0 P pa _) (gb_set _ P pb _)))
      have HM2 : Hid (Via L ((M.set pa y).set pb x) (sgm a b (j + 1))) := hide (by
        have h := HM.out.swap (x := x) (y := y) (by have := HB.out; omega) (by rw [hpa.out]; exact HX.out) (by rw [hpb.out]; exact HY.out)
        rw [hpa.out, hpb.out] at h
        exact h)
      have HF : Hid (∀ (W : World) (q : Nat), (W = V0 ∨ W = V1) → W.frozen? ⟨P, q, none⟩ = false) := hide (fun W q h => by
        rcases h with rfl | rfl
        · exact HV0.out.1.frozen q
        · exact HV1.out.frozen q)
      have hHeld : Hid (V0.cell? ⟨P, pb, none⟩ = some (.int .i64 (y : Int)) ∧ V0.cell? ⟨P, pa, none⟩ = some (.int .i64 (x : Int))) := hide ⟨HV0.out.1.cell HY.out, HV0.out.1.cell HX.out⟩
      have CX0 : Hid (V0.cell? ⟨P, pa, none⟩ = some (.int .i64 (x : Int))) := hide hHeld.out.2
      have CX1 : Hid (V1.cell? ⟨P, pb, none⟩ = some (.int .i64 (y : Int))) := hide (HV1.out.cell (by rw [List.getElem?_set_ne HNE.out]; exact HY.out))
      clear HV HM HG hx hy hMl hpan hpbn
      go_wp2_with fail
      refine s_begins (S := fun W : World => W.cell? ⟨P, pb, none⟩ = some (.int .i64 (y : Int)) ∧ W.cell? ⟨P, pa, none⟩ = some (.int .i64 (x : Int))) [21, 23] 24 #[false, false, false, false, false, false, false, false, false, false, false, false, false, false, false, false, false, false, false, false, false, false, false, false] (by kernel_rfl) (by kernel_rfl) (by kernel_rfl) ?_
      rw [hV0]
      clear hV0
      refine sk0 (v := ?_) 0 16 #[true, false, false, false, false, false, false, false, false, false, false, false, false, false, false, false, false, false, false, false, false, false, false, false] rfl rfl (by kernel_rfl) (by kernel_rfl) (by kernel_rfl) (by kernel_rfl) (fun _ _ _ h => h) (by kernel_rfl) (by rfl) ?hy (fun _ => hHeld.out) ?_
      case hy => intro W; first | (go_simp; done) | (go_simp; with_reducible rfl)
      simp only [List.setIfInBounds_toArray, List.set_cons_zero, List.set_cons_succ]
      refine sk0 (v := ?_) 1 17 #[true, true, false, false, false, false, false, false, false, false, false, false, false, false, false, false, false, false, false, false, false, false, false, false] rfl rfl (by kernel_rfl) (by kernel_rfl) (by kernel_rfl) (by kernel_rfl) (fun _ _ _ h => h) (by kernel_rfl) (by rfl) ?hy (fun _ => hHeld.out) ?_
      case hy => intro W; first | (go_simp; done) | (go_simp; with_reducible rfl)
      simp only [List.setIfInBounds_toArray, List.set_cons_zero, List.set_cons_succ]
      refine sk0 (v := ?_) 2 18 #[true, true, true, false, false, false, false, false, false, false, false, false, false, false, false, false, false, false, false, false, false, false, false, false] rfl rfl (by kernel_rfl) (by kernel_rfl) (by kernel_rfl) (by kernel_rfl) (fun _ _ _ h => h) (by kernel_rfl) (by rfl) ?hy (fun _ => hHeld.out) ?_
      case hy => intro W; first | (go_simp; done) | (go_simp; with_reducible rfl)
      simp only [List.setIfInBounds_toArray, List.set_cons_zero, List.set_cons_succ]
      refine sk0 (v := ?_) 3 19 #[true, true, true, true, false, false, false, false, false, false, false, false, false, false, false, false, false, false, false, false, false, false, false, false] rfl rfl (by kernel_rfl) (by kernel_rfl) (by kernel_rfl) (by kernel_rfl) (fun _ _ _ h => h) (by kernel_rfl) (by rfl) ?hy (fun _ => hHeld.out) ?_
      case hy => intro W; first | (go_simp; done) | (go_simp; with_reducible rfl)
      simp only [List.setIfInBounds_toArray, List.set_cons_zero, List.set_cons_succ]
      refine sk0 (v := ?_) 4 20 #[true, true, true, true, true, false, false, false, false, false, false, false, false, false, false, false, false, false, false, false, false, false, false, false] rfl rfl (by kernel_rfl) (by kernel_rfl) (by kernel_rfl) (by kernel_rfl) (fun _ _ _ h => h) (by kernel_rfl) (by rfl) ?hy (fun _ => hHeld.out) ?_
      case hy => intro W; first | (go_simp; done) | (go_simp; with_reducible rfl)
      simp only [List.setIfInBounds_toArray, List.set_cons_zero, List.set_cons_succ]
      refine sk0 (v := ?_) 5 21 #[true, true, true, true, true, true, false, false, false, false, false, false, false, false, false, false, false, false, false, false, false, false, false, false] rfl rfl (by kernel_rfl) (by kernel_rfl) (by kernel_rfl) (by kernel_rfl) (fun _ _ _ h => h) (by kernel_rfl) (by rfl) ?hy (fun _ => hHeld.out) ?_
      case hy => intro W; first | (go_simp; done) | (go_simp; with_reducible rfl)
      simp only [List.setIfInBounds_toArray, List.set_cons_zero, List.set_cons_succ]
      refine sk0 (v := ?_) 6 22 #[true, true, true, true, true, true, true, false, false, false, false, false, false, false, false, false, false, false, false, false, false, false, false, false] rfl rfl (by kernel_rfl) (by kernel_rfl) (by kernel_rfl) (by kernel_rfl) (fun _ _ _ h => h) (by kernel_rfl) (by rfl) ?hy (fun _ => hHeld.out) ?_
      case hy => intro W; first | (go_simp; done) | (go_simp; with_reducible rfl)
      simp only [List.setIfInBounds_toArray, List.set_cons_zero, List.set_cons_succ]
      refine sk0 (v := ?_) 7 23 #[true, true, true, true, true, true, true, true, false, false, false, false, false, false, false, false, false, false, false, false, false, false, false, false] rfl rfl (by kernel_rfl) (by kernel_rfl) (by kernel_rfl) (by kernel_rfl) (fun _ _ _ h => h) (by kernel_rfl) (by rfl) ?hy (fun _ => hHeld.out) ?_
      case hy => intro W; first | (go_simp; done) | (go_simp; with_reducible rfl)
      simp only [List.setIfInBounds_toArray, List.set_cons_zero, List.set_cons_succ]
      refine sk0 (v := ?_) 8 24 #[true, true, true, true, true, true, true, true, true, false, false, false, false, false, false, false, false, false, false, false, false, false, false, false] rfl rfl (by kernel_rfl) (by kernel_rfl) (by kernel_rfl) (by kernel_rfl) (fun _ _ _ h => h) (by kernel_rfl) (by rfl) ?hy (fun _ => hHeld.out) ?_
      case hy => intro W; first | (go_simp; done) | (go_simp; with_reducible rfl)
      simp only [List.setIfInBounds_toArray, List.set_cons_zero, List.set_cons_succ]
      refine sk0 (v := ?_) 9 25 #[true, true, true, true, true, true, true, true, true, true, false, false, false, false, false, false, false, false, false, false, false, false, false, false] rfl rfl (by kernel_rfl) (by kernel_rfl) (by kernel_rfl) (by kernel_rfl) (fun _ _ _ h => h) (by kernel_rfl) (by rfl) ?hy (fun _ => hHeld.out) ?_
      case hy => intro W; first | (go_simp; done) | (go_simp; with_reducible rfl)
      simp only [List.setIfInBounds_toArray, List.set_cons_zero, List.set_cons_succ]
      refine sk0 (v := ?_) 10 26 #[true, true, true, true, true, true, true, true, true, true, true, false, false, false, false, false, false, false, false, false, false, false, false, false] rfl rfl (by kernel_rfl) (by kernel_rfl) (by kernel_rfl) (by kernel_rfl) (fun _ _ _ h => h) (by kernel_rfl) (by rfl) ?hy (fun _ => hHeld.out) ?_
      case hy => intro W; first | (go_simp; done) | (go_simp; with_reducible rfl)
      simp only [List.setIfInBounds_toArray, List.set_cons_zero, List.set_cons_succ]
      refine sk0 (v := ?_) 11 27 #[true, true, true, true, true, true, true, true, true, true, true, true, false, false, false, false, false, false, false, false, false, false, false, false] rfl rfl (by kernel_rfl) (by kernel_rfl) (by kernel_rfl) (by kernel_rfl) (fun _ _ _ h => h) (by kernel_rfl) (by rfl) ?hy (fun _ => hHeld.out) ?_
      case hy => intro W; first | (go_simp; done) | (go_simp; with_reducible rfl)
      simp only [List.setIfInBounds_toArray, List.set_cons_zero, List.set_cons_succ]
      refine sk0 (v := ?_) 12 28 #[true, true, true, true, true, true, true, true, true, true, true, true, true, false, false, false, false, false, false, false, false, false, false, false] rfl rfl (by kernel_rfl) (by kernel_rfl) (by kernel_rfl) (by kernel_rfl) (fun _ _ _ h => h) (by kernel_rfl) (by rfl) ?hy (fun _ => hHeld.out) ?_
      case hy => intro W; first | (go_simp; done) | (go_simp; with_reducible rfl)
      simp only [List.setIfInBounds_toArray, List.set_cons_zero, List.set_cons_succ]
      refine sk1 (v := ?_) 13 29 #[true, true, true, true, true, true, true, true, true, true, true, true, true, true, false, false, false, false, false, false, false, false, false, false] rfl rfl (by kernel_rfl) (by kernel_rfl) (by kernel_rfl) (by kernel_rfl) (by kernel_rfl) (by kernel_rfl) (fun _ _ _ h => h) (by kernel_rfl) (by rfl) ?hy hHeld.out ?_
      case hy => rintro W ⟨s1, s2⟩; first | (go_simp; done) | (go_simp; with_reducible rfl)
      simp only [List.setIfInBounds_toArray, List.set_cons_zero, List.set_cons_succ]
      refine sk0 (v := ?_) 14 30 #[true, true, true, true, true, true, true, true, true, true, true, true, true, true, true, false, false, false, false, false, false, false, false, false] rfl rfl (by kernel_rfl) (by kernel_rfl) (by kernel_rfl) (by kernel_rfl) (fun _ _ _ h => h) (by kernel_rfl) (by rfl) ?hy (fun _ => hHeld.out) ?_
      case hy => intro W; first | (go_simp; done) | (go_simp; with_reducible rfl)
      simp only [List.setIfInBounds_toArray, List.set_cons_zero, List.set_cons_succ]
      refine sk0 (v := ?_) 15 31 #[true, true, true, true, true, true, true, true, true, true, true, true, true, true, true, true, false, false, false, false, false, false, false, false] rfl rfl (by kernel_rfl) (by kernel_rfl) (by kernel_rfl) (by kernel_rfl) (fun _ _ _ h => h) (by kernel_rfl) (by rfl) ?hy (fun _ => hHeld.out) ?_
      case hy => intro W; first | (go_simp; done) | (go_simp; with_reducible rfl)
      simp only [List.setIfInBounds_toArray, List.set_cons_zero, List.set_cons_succ]
      refine sk0 (v := ?_) 16 32 #[true, true, true, true, true, true, true, true, true, true, true, true, true, true, true, true, true, false, false, false, false, false, false, false] rfl rfl (by kernel_rfl) (by kernel_rfl) (by kernel_rfl) (by kernel_rfl) (fun _ _ _ h => h) (by kernel_rfl) (by rfl) ?hy (fun _ => hHeld.out) ?_
      case hy => intro W; first | (go_simp; done) | (go_simp; with_reducible rfl)
      simp only [List.setIfInBounds_toArray, List.set_cons_zero, List.set_cons_succ]
      refine sk0 (v := ?_) 17 33 #[true, true, true, true, true, true, true, true, true, true, true, true, true, true, true, true, true, true, false, false, false, false, false, false] rfl rfl (by kernel_rfl) (by kernel_rfl) (by kernel_rfl) (by kernel_rfl) (fun _ _ _ h => h) (by kernel_rfl) (by rfl) ?hy (fun _ => hHeld.out) ?_
      case hy => intro W; first | (go_simp; done) | (go_simp; with_reducible rfl)
      simp only [List.setIfInBounds_toArray, List.set_cons_zero, List.set_cons_succ]
      refine sk0 (v := ?_) 18 34 #[true, true, true, true, true, true, true, true, true, true, true, true, true, true, true, true, true, true, true, false, false, false, false, false] rfl rfl (by kernel_rfl) (by kernel_rfl) (by kernel_rfl) (by kernel_rfl) (fun _ _ _ h => h) (by kernel_rfl) (by rfl) ?hy (fun _ => hHeld.out) ?_
      case hy => intro W; first | (go_simp; done) | (go_simp; with_reducible rfl)
      simp only [List.setIfInBounds_toArray, List.set_cons_zero, List.set_cons_succ]
      refine sk1 (v := ?_) 19 35 #[true, true, true, true, true, true, true, true, true, true, true, true, true, true, true, true, true, true, true, true, false, false, false, false] rfl rfl (by kernel_rfl) (by kernel_rfl) (by kernel_rfl) (by kernel_rfl) (by kernel_rfl) (by kernel_rfl) (fun _ _ _ h => h) (by kernel_rfl) (by rfl) ?hy hHeld.out ?_
      case hy => rintro W ⟨s1, s2⟩; first | (go_simp; done) | (go_simp; with_reducible rfl)
      simp only [List.setIfInBounds_toArray, List.set_cons_zero, List.set_cons_succ]
      refine s_ready 20 #[true, true, true, true, true, true, true, true, true, true, true, true, true, true, true, true, true, true, true, true, true, false, false, false] rfl (by kernel_rfl) (by kernel_rfl) (by rfl) (fun K hK => ?_)
      go_simp
      refine hK.out _ _ (fun _ => hHeld.out) ?_
      clear hK K
      have fz0 := HF.out V0 pa (.inl rfl)
      have cx0 := CX0.out
      refine s_ready 21 #[true, true, true, true, true, true, true, true, true, true, true, true, true, true, true, true, true, true, true, true, true, true, false, false] rfl (by kernel_rfl) (by kernel_rfl) (by rfl) (fun K hK => ?_)
      go_simp
      refine hK.out _ _ (fun h => absurd h (by decide)) ?_
      clear hK K
      refine s_ready 22 #[true, true, true, true, true, true, true, true, true, true, true, true, true, true, true, true, true, true, true, true, true, true, true, false] rfl (by kernel_rfl) (by kernel_rfl) (by rfl) (fun K hK => ?_)
      go_simp
      refine hK.out _ _ (fun h => absurd h (by decide)) ?_
      clear hK K
      have fz1 := HF.out V1 pb (.inr rfl)
      have cx1 := CX1.out
      refine s_ready 23 #[true, true, true, true, true, true, true, true, true, true, true, true, true, true, true, true, true, true, true, true, true, true, true, true] rfl (by kernel_rfl) (by kernel_rfl) (by rfl) (fun K hK => ?_)
      go_simp
      refine hK.out _ _ (fun h => absurd h (by decide)) ?_
      clear hK K
      refine s_done (by kernel_rfl) ?_ _
      clear hV1 hV2 cx0 fz0 cx1 fz1
      go_wp2_with fail
      go_roundw
      case rel => exact ⟨j + 1, (M.set pa y).set pb x, hlt, by first | exact iv_succ wj | rfl, HV2, HM2, HG2⟩
      case measure => first | exact meas_j wj hlt | (simp [intOf]; omega)
    · have e : j = k := by omega
      subst e
      have hd1 : decide ((j : Int) < (j : Int)) = false := by simp
      have hd1' : decide (j < j) = false := by simp
      go_wp2_with fail
      refine bodyPost_end (v := .tuple #[]) ?r1 ?r2 ?r3
      case r1 => exact results_none rfl _ _ _
      case r2 => rfl
      case r3 => exact ⟨⟨_, rfl⟩, M, HV.out, HM.out, HG.out⟩
set_option maxRecDepth 100000 in
set_option maxHeartbeats 4000000 in
theorem rotate_any (a m b n P cap : Nat) (lv : Value) (L : List Nat) (w : World) (hN : NV w P L) (hl : L.length = n) (ham : a < m) (hmb : m < b) (hbn : b ≤ n) (hn : n ≤ 4096) :
    Calls Tryd.prog 54 #[.slice (some ⟨P, 0, none⟩) n cap, .int .i64 (a : Int), .int .i64 (m : Int), .int .i64 (b : Int), lv] w fun e w' => (∃ u, e = .returned u) ∧ ∃ L', NV w' P L' ∧ Via L L' (rho a m b) ∧ w.grownBy w' (some P) := by
  have HB := hide (And.intro (And.intro ham hmb) (And.intro hbn hn))
  obtain ⟨i0, hi0⟩ : ∃ i, Hid (a + i = m) := ⟨m - a, hide (by omega)⟩
  obtain ⟨j0, hj0⟩ : ∃ j, Hid (m + j = b) := ⟨b - m, hide (by omega)⟩
  have wi : wrap64 ((m : Int) - (a : Int)) = (i0 : Int) := by have := hi0.out; unfold wrap64; omega
  have wi2 : IntKind.i64.wrap ((m : Int) - (a : Int)) = (i0 : Int) := by have := hi0.out; rw [IntKind.wrap_i64]; omega
  have wj : wrap64 ((b : Int) - (m : Int)) = (j0 : Int) := by have := hj0.out; unfold wrap64; omega
  have wj2 : IntKind.i64.wrap ((b : Int) - (m : Int)) = (j0 : Int) := by have := hj0.out; rw [IntKind.wrap_i64]; omega
  have HL := hide hl
  go_enter Tryd.func54, Tryd.ntmps54
  go_wp2_with fail
  go_loopw [10, 11] (fun iv jv wr => ∃ (i j : Nat) (M : List Nat), iv = .int .i64 (i : Int) ∧ jv = .int .i64 (j : Int) ∧ Hid (0 < i ∧ 0 < j ∧ i ≤ m ∧ m + j ≤ n) ∧ Hid (NV wr P M) ∧ Hid (M.length = n) ∧ Hid (∀ R, Via M R (rho (m - i) m (m + j)) → Via L R (rho a m b)) ∧ Hid (w.grownBy wr (some P))) (fun iv jv _ => (intOf iv).toNat + (intOf jv).toNat)
  case atStart => exact ⟨i0, j0, L, rfl, rfl, hide (by have := hi0.out; have := hj0.out; omega), hide hN, hide hl, hide (fun R h => by have h1 := hi0.out; have h2 := hj0.out; rw [show m - i0 = a by omega, h2] at h; exact h), hide (gb_refl _ _)⟩
  case round =>
    clear hN hl ham hmb hbn hn wi wi2 wj wj2
    obtain ⟨i, j, M, rfl, rfl, HI, HV, HML, HR, HG⟩ := hrel
    obtain ⟨p, hp⟩ : ∃ p, Hid (m - i = p) := ⟨_, hide rfl⟩
    have wp : wrap64 ((m : Int) - (i : Int)) = (p : Int) := by have := HI.out; have := hp.out; have := HB.out; unfold wrap64; omega
    have wp2 : IntKind.i64.wrap ((m : Int) - (i : Int)) = (p : Int) := by have := HI.out; have := hp.out; have := HB.out; rw [IntKind.wrap_i64]; omega
    by_cases hij : i = j
    · subst hij
      have hne := nat_eq i
      have HS := hide (swapRange_any p m i n P cap lv M wr HV.out HML.out (by have := HI.out; have := hp.out; omega) (by have := HI.out; omega) HB.out.2.2)
      have HR1 := HR
      have HIM : Hid (i ≤ m) := hide HI.out.2.2.1
      clear HV HML HI
      go_wp2_with fail
      refine HS.out.mono ?_
      rintro e w1 ⟨⟨u, rfl⟩, L', h1, h2, h3⟩
      have HF : Hid (∃ L', NV w1 P L' ∧ Via L L' (rho a m b) ∧ w.grownBy w1 (some P)) := hide ⟨L', h1, HR1.out L' (by
        have h4 := h2
        rw [← hp.out] at h4
        exact h4.congr (fun t => rot_eq HIM.out)), gb_trans HG.out h3⟩
      clear h1 h2 h3 HS HR HR1 HG
      go_wp2_with fail
      refine bodyPost_end (v := .tuple #[]) ?r1 ?r2 ?r3
      case r1 => exact results_none rfl _ _ _
      case r2 => rfl
      case r3 => exact ⟨⟨_, rfl⟩, HF.out⟩
    · have hne := nat_ne hij
      by_cases hgt : j < i
      · have hd2 : decide ((j : Int) < (i : Int)) = true := by rw [decide_eq_true_eq]; omega
        have hd2' : decide (j < i) = true := decide_eq_true hgt
        obtain ⟨i2, hi2⟩ : ∃ i2, Hid (i - j = i2) := ⟨_, hide rfl⟩
        have wd : wrap64 ((i : Int) - (j : Int)) = (i2 : Int) := by have := HI.out; have := hi2.out; have := HB.out; unfold wrap64; omega
        have wd2 : IntKind.i64.wrap ((i : Int) - (j : Int)) = (i2 : Int) := by have := HI.out; have := hi2.out; have := HB.out; rw [IntKind.wrap_i64]; omega
        have HS := hide (swapRange_any p m j n P cap lv M wr HV.out HML.out (by have := HI.out; have := hp.out; omega) (by have := HI.out; omega) HB.out.2.2)
        have HGT := hide hgt
        clear HV hgt hij
        go_wp2_with fail
        refine HS.out.mono ?_
        rintro e w1 ⟨⟨u, rfl⟩, L', h1, h2, h3⟩
        have HV1 := hide h1
        have HM1 : Hid (L'.length = n) := hide (by rw [h2.len]; exact HML.out)
        have HG1 := hide (gb_trans HG.out h3)
        have HR1 : Hid (∀ R, Via L' R (rho (m - i2) m (m + j)) → Via L R (rho a m b)) := hide (fun R h => by
          refine HR.out R ((h2.comp h).congr (fun t => ?_))
          rw [← hi2.out, ← hp.out]
          exact rot_gt (by have := HI.out; omega) (by have := HI.out; omega) HGT.out)
        have HI1 : Hid (0 < i2 ∧ 0 < j ∧ i2 ≤ m ∧ m + j ≤ n) := hide (by have := HI.out; have := hi2.out; have := HGT.out; omega)
        have HLT : Hid (i2 < i) := hide (by have := HI.out; have := hi2.out; omega)
        clear h1 h2 h3 HS HR HG HML HI
        go_wp2_with fail
        go_roundw
        case rel => exact ⟨i2, j, L', rfl, rfl, HI1, HV1, HM1, HR1, HG1⟩
        case measure => have := HLT.out; simp [intOf]; omega
      · have hd2 : decide ((j : Int) < (i : Int)) = false := by rw [decide_eq_false_iff_not]; omega
        have hd2' : decide (j < i) = false := decide_eq_false hgt
        obtain ⟨j2, hj2⟩ : ∃ j2, Hid (j - i = j2) := ⟨_, hide rfl⟩
        have wd : wrap64 ((j : Int) - (i : Int)) = (j2 : Int) := by have := HI.out; have := hj2.out; have := HB.out; unfold wrap64; omega
        have wd2 : IntKind.i64.wrap ((j : Int) - (i : Int)) = (j2 : Int) := by have := HI.out; have := hj2.out; have := HB.out; rw [IntKind.wrap_i64]; omega
        obtain ⟨mj, hmj⟩ : ∃ mj, Hid (m + j = mj) := ⟨_, hide rfl⟩
        obtain ⟨q, hq⟩ : ∃ q, Hid (m + j - i = q) := ⟨_, hide rfl⟩
        have ws : wrap64 ((m : Int) + (j : Int)) = (mj : Int) := by have := HI.out; have := hmj.out; have := HB.out; unfold wrap64; omega
        have ws2 : IntKind.i64.wrap ((m : Int) + (j : Int)) = (mj : Int) := by have := HI.out; have := hmj.out; have := HB.out; rw [IntKind.wrap_i64]; omega
        have wq : wrap64 ((mj : Int) - (i : Int)) = (q : Int) := by have := HI.out; have := hmj.out; have := hq.out; have := HB.out; unfold wrap64; omega
        have wq2 : IntKind.i64.wrap ((mj : Int) - (i : Int)) = (q : Int) := by have := HI.out; have := hmj.out; have := hq.out; have := HB.out; rw [IntKind.wrap_i64]; omega
        have HLTJ : Hid (i < j) := hide (by omega)
        have HS := hide (swapRange_any p q i n P cap lv M wr HV.out HML.out (by have := HI.out; have := hp.out; have := hq.out; omega) (by have := HI.out; have := hq.out; omega) HB.out.2.2)
        clear HV hgt hij
        go_wp2_with fail
        refine HS.out.mono ?_
        rintro e w1 ⟨⟨u, rfl⟩, L', h1, h2, h3⟩
        have HV1 := hide h1
        have HM1 : Hid (L'.length = n) := hide (by rw [h2.len]; exact HML.out)
        have HG1 := hide (gb_trans HG.out h3)
        have HR1 : Hid (∀ R, Via L' R (rho (m - i) m (m + j2)) → Via L R (rho a m b)) := hide (fun R h => by
          refine HR.out R ((h2.comp h).congr (fun t => ?_))
          rw [← hj2.out, ← hp.out, ← hq.out]
          exact rot_lt (by have := HI.out; omega) (by have := HI.out; omega) HLTJ.out)
        have HI1 : Hid (0 < i ∧ 0 < j2 ∧ i ≤ m ∧ m + j2 ≤ n) := hide (by have := HI.out; have := hj2.out; have := HLTJ.out; omega)
        have HLT : Hid (j2 < j) := hide (by have := HI.out; have := hj2.out; omega)
        clear h1 h2 h3 HS HR HG HML HI
        go_wp2_with fail
        go_roundw
        case rel => exact ⟨i, j2, L', rfl, rfl, HI1, HV1, HM1, HR1, HG1⟩
        case measure => have := HLT.out; simp [intOf]; omega
end Go.Proofs.YtieinnhiaomliaaDoor
