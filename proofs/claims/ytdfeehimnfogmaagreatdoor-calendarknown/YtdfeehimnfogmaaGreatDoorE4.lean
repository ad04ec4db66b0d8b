/-
  My own text: how many business days lie within a span: the program's.
-/
import Derived.Test.YtdfeehimnfogmaaGreatDoorE3
namespace Go.Proofs.YtdfeehimnfogmaaGreatDoor
open Go.RowKit Go.Maps

theorem we_per (we : Nat → Bool) (x : Int) : weB we (x + 7) = weB we x := by unfold weB; rw [show (x + 7 - 1) % 7 = (x - 1) % 7 by omega]
/-- Business days, without asking whether it is a day. -/
def bizB (we : Nat → Bool) (F : Int → Bool) (x : Int) : Bool := !weB we x && !F x
set_option maxRecDepth 100000 in
set_option maxHeartbeats 2000000 in
theorem count_any (p b : Nat) (we : Nat → Bool) (F : Int → Bool) (a : Int) (N : Nat) (w : World) (HC : Hid (Cal w p b we F)) (HS : Hid (∀ x, F x = true → weB we x = false)) (a1 : 1 ≤ a) (a2 : a + N ≤ 3652060) :
    Calls Tryz.prog 43 #[.pointer (some ⟨p, 0, none⟩), .int .i64 a, .int .i64 (a + N)] w fun e w' => e = .returned (.int .i64 (cntB (bizB we F) a N)) ∧ Below w.heap.size w w' := by
  have HSUB : Hid (∀ x, a ≤ x → x < a + N → F x = true → (!weB we x) = true) := hide (fun x _ _ h => by rw [HS.out x h]; rfl)
  show Calls _ _ _ _ fun e w' => e = .returned (.int .i64 (cntB (fun x => !weB we x && !F x) a N)) ∧ Below w.heap.size w w'
  obtain ⟨bb, HBB⟩ : ∃ bb, Hid (a + (N : Int) = bb) := ⟨_, hide rfl⟩
  have hbb := HBB.out
  rw [HBB.out] at a2 ⊢
  by_cases h7 : bb - a ≤ 7
  · have hN : N ≤ 7 := by omega
    go_enter Tryz.func43, Tryz.ntmps43
    go_wp2
    go_loopw [7, 13] (fun s i wr => ∃ (k : Nat) (x : Int), k ≤ N ∧ i = .int .i64 k ∧ s = .int .i64 x ∧ Hid (x = tsum (fun y => !weB we y) a N k) ∧ 0 ≤ x ∧ x ≤ 600000 * k ∧ Hid (Below w.heap.size w wr)) (fun _ i _ => N - (intOf i).toNat)
    case atStart => exact ⟨0, 0, Nat.zero_le _, rfl, rfl, hide rfl, by omega, by omega, hide (Below.refl _ _)⟩
    case round =>
      obtain ⟨k, x, hk, rfl, rfl, HX, x0, x1, HB⟩ := hrel
      by_cases hlt : k < N
      · have hlt2 : (k : Int) < bb - a := by omega
        obtain ⟨r, hr, hr7, hrn⟩ := wd_nat (a + k)
        have HW := hide (fun W : World => weekday_any (a + k) W (by omega) (by omega))
        rw [hr] at HW
        have hr8 : (r : Int) < 7 := by omega
        clear hr
        cases hv : we r
        · skip
          have hc2 : wr.cell? ⟨p, r, none⟩ = some (.bool false) := by rw [← hv]; exact (HC.out.later HB.out).ce r hr7
          have hgk : (!weB we (a + k)) = true := by unfold weB; rw [hrn, hv]; rfl
          go_wp2
          go_quiet (first | (go_at_call 34; exact Calls.quiet_of_same (HW.out _)))
          go_wp2
          go_roundw
          case rel => exact ⟨k + 1, x + (bb - a - k + 6) / 7, by omega, by go_num, by go_num, (show _ = _ by show _ = tsum (fun y => !weB we y) a N k + _; rw [← HX.out]; simp only [hgk]; rw [if_true, ← HBB.out]; omega), by omega, by omega, hide (below_drewN HB.out _)⟩
          case measure => simp [intOf]; omega
        · skip
          have hc2 : wr.cell? ⟨p, r, none⟩ = some (.bool true) := by rw [← hv]; exact (HC.out.later HB.out).ce r hr7
          have hgk : (!weB we (a + k)) = false := by unfold weB; rw [hrn, hv]; rfl
          go_wp2
          go_quiet (first | (go_at_call 34; exact Calls.quiet_of_same (HW.out _)))
          go_wp2
          go_roundw
          case rel => exact ⟨k + 1, x, by omega, by go_num, by go_num, (show _ = _ by show _ = tsum (fun y => !weB we y) a N k + _; rw [← HX.out]; simp only [hgk]; simp), by omega, by omega, hide (below_drewN HB.out _)⟩
          case measure => simp [intOf]; omega
      · have hlt2 : ¬ (k : Int) < bb - a := by omega
        have HTS := hide (tsum_all (g := fun y => !weB we y) (fun y => by rw [we_per]) a N k (by omega))
        rw [HTS.out] at HX
        by_cases hx : x = 0
        · subst hx
          have HZ := hide (cntB_none N HSUB.out HX.out.symm)
          go_wp2
          go_ret
          exact ⟨ret_i HZ.out.symm, HB.out⟩
        · have hxf : (x == 0) = false := by simpa using hx
          have HFW := hide (fun (W : World) (h : Cal W p b we F) => freeWithin_any p b we F a N W (hide h) a1 (by rw [HBB.out]; exact a2))
          rw [HBB.out] at HFW
          have HZ := hide (cntB_sub N HSUB.out)
          rw [← HX.out] at HZ
          have hfb := cntB_b F a N
          obtain ⟨f, HFE⟩ : ∃ f, Hid (cntB F a N = f) := ⟨_, hide rfl⟩
          rw [HFE.out] at HFW HZ hfb
          obtain ⟨f0, f1⟩ := hfb
          go_wp2_with (go_at_call 64; refine (HFW.out _ (HC.out.later HB.out)).mono ?_; rintro e w2 ⟨rfl, hb2⟩)
          go_ret
          exact ⟨ret_i HZ.out.symm, HB.out.trans (hb2.mono HB.out.size)⟩
  · have hN : 7 < N := by omega
    go_enter Tryz.func43, Tryz.ntmps43
    go_wp2
    go_loopw [7, 13] (fun s i wr => ∃ (k : Nat) (x : Int), k ≤ 7 ∧ i = .int .i64 k ∧ s = .int .i64 x ∧ Hid (x = tsum (fun y => !weB we y) a N k) ∧ 0 ≤ x ∧ x ≤ 600000 * k ∧ Hid (Below w.heap.size w wr)) (fun _ i _ => 7 - (intOf i).toNat)
    case atStart => exact ⟨0, 0, Nat.zero_le _, rfl, rfl, hide rfl, by omega, by omega, hide (Below.refl _ _)⟩
    case round =>
      obtain ⟨k, x, hk, rfl, rfl, HX, x0, x1, HB⟩ := hrel
      by_cases hlt : k < 7
      · have hlt2 : (k : Int) < 7 := by omega
        obtain ⟨r, hr, hr7, hrn⟩ := wd_nat (a + k)
        have HW := hide (fun W : World => weekday_any (a + k) W (by omega) (by omega))
        rw [hr] at HW
        have hr8 : (r : Int) < 7 := by omega
        clear hr
        cases hv : we r
        · skip
          have hc2 : wr.cell? ⟨p, r, none⟩ = some (.bool false) := by rw [← hv]; exact (HC.out.later HB.out).ce r hr7
          have hgk : (!weB we (a + k)) = true := by unfold weB; rw [hrn, hv]; rfl
          go_wp2
          go_quiet (first | (go_at_call 34; exact Calls.quiet_of_same (HW.out _)))
          go_wp2
          go_roundw
          case rel => exact ⟨k + 1, x + (bb - a - k + 6) / 7, by omega, by go_num, by go_num, (show _ = _ by show _ = tsum (fun y => !weB we y) a N k + _; rw [← HX.out]; simp only [hgk]; rw [if_true, ← HBB.out]; omega), by omega, by omega, hide (below_drewN HB.out _)⟩
          case measure => simp [intOf]; omega
        · skip
          have hc2 : wr.cell? ⟨p, r, none⟩ = some (.bool true) := by rw [← hv]; exact (HC.out.later HB.out).ce r hr7
          have hgk : (!weB we (a + k)) = false := by unfold weB; rw [hrn, hv]; rfl
          go_wp2
          go_quiet (first | (go_at_call 34; exact Calls.quiet_of_same (HW.out _)))
          go_wp2
          go_roundw
          case rel => exact ⟨k + 1, x, by omega, by go_num, by go_num, (show _ = _ by show _ = tsum (fun y => !weB we y) a N k + _; rw [← HX.out]; simp only [hgk]; simp), by omega, by omega, hide (below_drewN HB.out _)⟩
          case measure => simp [intOf]; omega
      · have hlt2 : ¬ (k : Int) < 7 := by omega
        have HTS := hide (tsum_all (g := fun y => !weB we y) (fun y => by rw [we_per]) a N k (by omega))
        rw [HTS.out] at HX
        by_cases hx : x = 0
        · subst hx
          have HZ := hide (cntB_none N HSUB.out HX.out.symm)
          go_wp2
          go_ret
          exact ⟨ret_i HZ.out.symm, HB.out⟩
        · have hxf : (x == 0) = false := by simpa using hx
          have HFW := hide (fun (W : World) (h : Cal W p b we F) => freeWithin_any p b we F a N W (hide h) a1 (by rw [HBB.out]; exact a2))
          rw [HBB.out] at HFW
          have HZ := hide (cntB_sub N HSUB.out)
          rw [← HX.out] at HZ
          have hfb := cntB_b F a N
          obtain ⟨f, HFE⟩ : ∃ f, Hid (cntB F a N = f) := ⟨_, hide rfl⟩
          rw [HFE.out] at HFW HZ hfb
          obtain ⟨f0, f1⟩ := hfb
          go_wp2_with (go_at_call 64; refine (HFW.out _ (HC.out.later HB.out)).mono ?_; rintro e w2 ⟨rfl, hb2⟩)
          go_ret
          exact ⟨ret_i HZ.out.symm, HB.out.trans (hb2.mono HB.out.size)⟩
end Go.Proofs.YtdfeehimnfogmaaGreatDoor
