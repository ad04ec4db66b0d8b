/-
  My own text: how many free days, how many business days lie within a span: the program's.
-/
import Derived.Test.YtdfeehimnfogmaaGreatDoorE2
namespace Go.Proofs.YtdfeehimnfogmaaGreatDoor
open Go.RowKit Go.Maps

theorem same_int (x y : Int) : Lit.sameKey (.int .i64 y) (.int .i64 x) = (y == x) := by
  by_cases h : y = x
  · subst h; simp [Lit.sameKey]
  · rw [sameKey_ne (by intro e; cases e; exact h rfl)]; simp [h]
set_option maxRecDepth 100000 in
set_option maxHeartbeats 2000000 in
theorem freeWithin_any (p b : Nat) (we : Nat → Bool) (F : Int → Bool) (a : Int) (N : Nat) (w : World) (HC : Hid (Cal w p b we F)) (a1 : 1 ≤ a) (a2 : a + N ≤ 3652060) :
    Calls Tryz.prog 64 #[.pointer (some ⟨p, 0, none⟩), .int .i64 a, .int .i64 (a + N)] w fun e w' => e = .returned (.int .i64 (cntB F a N)) ∧ Below w.heap.size w w' := by
  obtain ⟨nn, DD, ho, hF⟩ := HC.out.own
  have HO := hide ho
  have hcm := HC.out.cm
  clear ho
  obtain ⟨bb, HBB⟩ : ∃ bb, Hid (a + (N : Int) = bb) := ⟨_, hide rfl⟩
  have hbb := HBB.out
  rw [HBB.out] at a2 ⊢
  by_cases hs : bb - a < (Maps.size DD : Int)
  · go_enter Tryz.func64, Tryz.ntmps64
    go_wp2_with (first
      | (at_len; refine wpList_len_own _ rfl _ 68 rfl 3 71 Tryz.underlying68 _ b nn DD rfl HO.out ?_)
      | go_in)
    go_loopw [7, 8] (fun s i wr => ∃ (k : Nat) (x : Int), k ≤ N ∧ i = .int .i64 (a + k) ∧ s = .int .i64 x ∧ Hid (x = cntB F a k) ∧ 0 ≤ x ∧ x ≤ k ∧ Hid (Below w.heap.size w wr)) (fun _ i _ => (bb - intOf i).toNat)
    case atStart => exact ⟨0, 0, Nat.zero_le _, by simp, rfl, hide rfl, by omega, by omega, hide (Below.refl _ _)⟩
    case round =>
      obtain ⟨k, x, hk, rfl, rfl, HX, x0, x1, HB⟩ := hrel
      by_cases hlt : k < N
      · have hlt2 : a + (k : Int) < bb := by omega
        have HKEY := keyOf_int_mk Tryz.underlying3 (wf_day (n := a + k) (by omega) (by omega))
        have hcm2 := (HC.out.later HB.out).cm
        cases hf : F (a + k)
        · skip
          have HF : Hid (Maps.has DD (.int .i64 (a + k)) = false) := hide ((hF _).trans hf)
          go_wp2_with (first
            | (at_lookup; refine wpList_lookup_own_unit _ rfl _ _ 68 rfl 3 71 lawI Tryz.underlying68 (zeroU _) b nn DD rfl (owns_below HO.out HB.out) _ _ rfl HKEY ?_; rw [HF.out])
            | go_in)
          go_roundw
          case rel => exact ⟨k + 1, x, by omega, by go_num, by go_num, (show _ = _ by rw [cntB_succ, hf, HX.out]; simp), by omega, by omega, hide (HB.out.alloc HB.out.size _)⟩
          case measure => simp [intOf]; omega
        · skip
          have HF : Hid (Maps.has DD (.int .i64 (a + k)) = true) := hide ((hF _).trans hf)
          go_wp2_with (first
            | (at_lookup; refine wpList_lookup_own_unit _ rfl _ _ 68 rfl 3 71 lawI Tryz.underlying68 (zeroU _) b nn DD rfl (owns_below HO.out HB.out) _ _ rfl HKEY ?_; rw [HF.out])
            | go_in)
          go_roundw
          case rel => exact ⟨k + 1, x + 1, by omega, by go_num, by go_num, (show _ = _ by rw [cntB_succ, hf, HX.out]; simp), by omega, by omega, hide (HB.out.alloc HB.out.size _)⟩
          case measure => simp [intOf]; omega
      · have e : k = N := by omega
        subst e
        have hlt2 : ¬ a + (k : Int) < bb := by omega
        go_wp2
        go_ret
        exact ⟨ret_i HX.out, HB.out⟩
  · go_enter Tryz.func64, Tryz.ntmps64
    go_wp2_with (first
      | (at_len; refine wpList_len_own _ rfl _ 68 rfl 3 71 Tryz.underlying68 _ b nn DD rfl HO.out ?_)
      | (at_range; refine wpList_range_own _ rfl _ 68 rfl 3 71 lawI Tryz.underlying68 _ b nn DD rfl HO.out ?_; intro w0 hrg0 hg0 hs0)
      | go_in)
    try go_frame
    have hB0 : Below w.heap.size w w0 := (Below.refl _ _).grown hg0 (Nat.le_refl _) (fun k hk => by cases hk)
    go_loopw [7] (fun s wr => ∃ (left : Lit → Bool) (cnt : Nat) (x : Int), wr.ranges Tryz.prog 3 (unitElem (H := Unit)) b w.heap.size nn DD left cnt ∧ s = .int .i64 x ∧ Hid (x + cntB (fun y => left (.int .i64 y)) a N = cntB F a N) ∧ 0 ≤ x ∧ Hid (Below w.heap.size w wr)) (fun _ wr => wr.rangeLeft b w.heap.size)
    case atStart => exact ⟨_, _, 0, hrg0, rfl, (show _ = _ by rw [cntB_congr N (fun y _ _ => hF y)]; omega), by omega, hide hB0⟩
    case round =>
      obtain ⟨left, cnt, x, hrg, rfl, HX, x0, HB⟩ := hrel
      have hxb : x ≤ N := by have h1 := HX.out; have h2 := cntB_b (fun y => left (.int .i64 y)) a N; have h3 := cntB_b F a N; omega
      go_wp2_with (first
        | (at_next; refine wpList_next_ranges _ rfl _ rfl 3 lawI unitElem (Value.int .i64) (fun _ : Unit => .agg #[]) (fun key kl h => by obtain ⟨z, rfl, _⟩ := Maps.keyOf_int_inv Tryz.underlying3 h; exact ⟨z, rfl⟩) (fun v y h => by obtain ⟨rfl, _⟩ := unitElem_inv h; exact ⟨(), rfl⟩) b w.heap.size nn DD left cnt rfl hrg ?_ ?_)
        | go_in)
      · intro _ hl0
        have HZ : Hid (x = cntB F a N) := by have h := HX.out; rw [cntB_false a N (fun y => hl0 _)] at h; show _ = _; omega
        go_wp2
        go_ret
        exact ⟨ret_i HZ.out, HB.out⟩
      · intro z c kl y w1 cnt1 hkey hlx hv hat hrg1 hlt hg1 hs1 hen
        obtain ⟨z', ez, rfl, hwz⟩ := Maps.keyOf_int_inv Tryz.underlying3 hkey
        cases ez
        have HB1 := hide (HB.out.grown hg1 HB.out.size (fun j hj => by cases hj; exact Nat.le_refl _))
        have HST := hide (cntB_strike (g := fun q => left (.int .i64 q)) (h := fun q => left (.int .i64 q) && !(Lit.sameKey (.int .i64 q) (.int .i64 z))) (x := z) hlx (fun q => by rw [same_int]) a N)
        clear hkey hv hat hlx hwz
        by_cases hz : a ≤ z
        · by_cases hz2 : z < bb
          · rw [if_pos (show a ≤ z ∧ z < a + N by omega)] at HST
            have hd : decide (z < bb) = true := decide_eq_true hz2
            go_wp2
            go_roundw
            case rel => exact ⟨_, cnt1, x + 1, hrg1, by go_num, (show _ = _ by have h1 := HX.out; have h2 := HST.out; omega), by omega, HB1⟩
            case measure => rw [hrg1.left_eq, hrg.left_eq]; exact hlt
          · rw [if_neg (show ¬ (a ≤ z ∧ z < a + N) by omega)] at HST
            have hd : decide (z < bb) = false := decide_eq_false hz2
            go_wp2
            go_roundw
            case rel => exact ⟨_, cnt1, x, hrg1, rfl, (show _ = _ by have h1 := HX.out; have h2 := HST.out; omega), by omega, HB1⟩
            case measure => rw [hrg1.left_eq, hrg.left_eq]; exact hlt
        · rw [if_neg (show ¬ (a ≤ z ∧ z < a + N) by omega)] at HST
          go_wp2
          go_roundw
          case rel => exact ⟨_, cnt1, x, hrg1, rfl, (show _ = _ by have h1 := HX.out; have h2 := HST.out; omega), by omega, HB1⟩
          case measure => rw [hrg1.left_eq, hrg.left_eq]; exact hlt
end Go.Proofs.YtdfeehimnfogmaaGreatDoor
