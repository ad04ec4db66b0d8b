/-
  My own text: the law on the days of a week, and the next one.
-/
import Derived.Test.YtiajkglpmpemaaaDoorE10
namespace Go.Proofs.YtiajkglpmpemaaaDoor
open Go.RowKit

theorem Tryd.nilEqlG (i : Nat) (w : World) : (eqGuard .eql 25 (.tmp i) (.const .nilIface) .nilIface .nilIface).run Tryd.prog w = .ok () w := by kernel_rfl
theorem Tryd.nilEql (w : World) : (binOp .eql 25 .nilIface .nilIface).run Tryd.prog w = .ok (.bool true) w := by kernel_rfl
theorem wk_of {n : Int} (h1 : 1 ≤ n) (h2 : n ≤ 3652059) : wyV n = yearI (midI n) ∧ wkV n = (midI n - aheadY (yearI (midI n)) - 1) / 7 + 1 ∧ ofE n = 0 := by
  have hd := dayB_yes h1 h2
  exact ⟨(wk_ok hd).1, (wk_ok hd).2, (of_ok hd).2⟩
theorem mid_same {n i : Int} (h1 : n - (n - 1) % 7 ≤ i) (h2 : i < n - (n - 1) % 7 + 7) : midI i = midI n := by unfold midI; omega
theorem wk_same {n i : Int} (n1 : 1 ≤ n) (n2 : n ≤ 3652052) (h1 : n - (n - 1) % 7 ≤ i) (h2 : i < n - (n - 1) % 7 + 7) : wyV i = wyV n ∧ wkV i = wkV n ∧ ofE i = 0 := by
  obtain ⟨a1, a2, a3⟩ := wk_of (n := i) (by omega) (by omega)
  obtain ⟨b1, b2, b3⟩ := wk_of (n := n) (by omega) (by omega)
  rw [a1, a2, a3, b1, b2, mid_same h1 h2]
  exact ⟨rfl, rfl, rfl⟩
theorem wk_range {n : Int} (n1 : 1 ≤ n) (n2 : n ≤ 3652059) : 1 ≤ wkV n ∧ wkV n ≤ 53 := by
  obtain ⟨_, b2, _⟩ := wk_of n1 n2
  have hm := mid_b n1 n2
  obtain ⟨c1, c2, c3⟩ := yearI_spec (n := midI n) (by omega)
  have c4 := aheadY_succ (yearI (midI n))
  have c5 := ydays_b (yearI (midI n))
  rw [b2]; omega
theorem wk_next {n : Int} (n1 : 1 ≤ n) (n2 : n ≤ 3652052) : (wyV (n + 7) = wyV n ∧ wkV (n + 7) = wkV n + 1) ∨ (wyV (n + 7) = wyV n + 1 ∧ wkV (n + 7) = 1 ∧ 52 ≤ wkV n) := by
  obtain ⟨a1, a2, _⟩ := wk_of (n := n + 7) (by omega) (by omega)
  obtain ⟨b1, b2, _⟩ := wk_of (n := n) (by omega) (by omega)
  have hm := mid_b (n := n) (by omega) (by omega)
  have hm7 : midI (n + 7) = midI n + 7 := by unfold midI; omega
  rw [hm7] at a1 a2
  obtain ⟨c1, c2, c3⟩ := yearI_spec (n := midI n) (by omega)
  have c4 := aheadY_succ (yearI (midI n))
  have c5 := ydays_b (yearI (midI n))
  have c6 := aheadY_succ (yearI (midI n) + 1)
  have c7 := ydays_b (yearI (midI n) + 1)
  by_cases h : midI n + 7 ≤ aheadY (yearI (midI n) + 1)
  · have e := yearI_of (n := midI n + 7) (y := yearI (midI n)) (by omega) (by omega) h
    rw [e] at a1 a2
    exact .inl ⟨by rw [a1, b1], by rw [a2, b2]; omega⟩
  · have e := yearI_of (n := midI n + 7) (y := yearI (midI n) + 1) (by omega) (by omega) (by omega)
    rw [e] at a1 a2
    exact .inr ⟨by rw [a1, b1], by rw [a2]; omega, by rw [b2]; omega⟩
set_option maxRecDepth 100000 in
set_option maxHeartbeats 4000000 in
theorem weeks_law (n : Int) (w : World) (hM : MDays w) :
    Calls Tryd.prog 8 #[.int .i64 n] w fun e w' => e = .returned (.bool true) ∧ Below w.heap.size w w' := by
  have HM := hide hM
  clear hM
  have HS := hide (fun (W : World) (h : MDays W) => shown_any W (hide h))
  have hg1 := Tryd.nilNeqG
  have hn1 := Tryd.nilNeq
  have hg2 := Tryd.nilEqlG
  have hn2 := Tryd.nilEql
  have HW := hide (fun (W : World) => Weekday_any n W)
  by_cases c1 : n < 1
  · rw [(of_bad (dayB_no (.inl c1))).2, wd_bad (dayB_no (.inl c1)), errV_pos (by omega)] at HW
    go_enter Tryd.func8, Tryd.ntmps8
    go_wp2_with fail
    refine (HW.out _).mono ?_
    rintro e w' ⟨rfl, hw'⟩
    have hw' := hw'.symm
    subst hw'
    go_wp2_with (go_at_call 25; refine (HS.out _ HM.out).mono ?_; rintro e w2 ⟨rfl, hb2⟩)
    go_ret
    exact ⟨rfl, hb2⟩
  by_cases c2 : 3652059 < n
  · rw [(of_bad (dayB_no (.inr c2))).2, wd_bad (dayB_no (.inr c2)), errV_pos (by omega)] at HW
    have c3 : 3652052 < n := by omega
    have cd : decide (n ≤ 3652059) = false := decide_eq_false (by omega)
    go_enter Tryd.func8, Tryd.ntmps8
    go_wp2_with fail
    refine (HW.out _).mono ?_
    rintro e w' ⟨rfl, hw'⟩
    have hw' := hw'.symm
    subst hw'
    go_wp2_with (go_at_call 25; refine (HS.out _ HM.out).mono ?_; rintro e w2 ⟨rfl, hb2⟩)
    go_ret
    exact ⟨rfl, hb2⟩
  have hd := dayB_yes (n := n) (by omega) (by omega)
  rw [(of_ok hd).2, wd_ok hd, errV_zero] at HW
  clear hd
  by_cases c3 : 3652052 < n
  · go_enter Tryd.func8, Tryd.ntmps8
    go_wp2_with fail
    refine (HW.out _).mono ?_
    rintro e w' ⟨rfl, hw'⟩
    have hw' := hw'.symm
    subst hw'
    go_wp2_with (go_at_call 25; refine (HS.out _ HM.out).mono ?_; rintro e w2 ⟨rfl, hb2⟩)
    go_ret
    exact ⟨rfl, hb2⟩
  have n1 : 1 ≤ n := by omega
  have n2 : n ≤ 3652052 := by omega
  have H7 := hide (fun (W : World) => Weekday_any (n + 7) W)
  have hd7 := dayB_yes (n := n + 7) (by omega) (by omega)
  rw [(of_ok hd7).2, wd_ok hd7, errV_zero, show (n + 7 - 1) % 7 = (n - 1) % 7 by omega] at H7
  have H1 := hide (fun (W : World) => Weekday_any (n + 1) W)
  have hd1 := dayB_yes (n := n + 1) (by omega) (by omega)
  rw [(of_ok hd1).2, wd_ok hd1, errV_zero, show (n + 1 - 1) % 7 = ((n - 1) % 7 + 1) % 7 by omega] at H1
  have HK := hide (fun (W : World) (h : MDays W) => Week_any n W (hide h))
  rw [(wk_of (n := n) (by omega) (by omega)).2.2, errV_zero] at HK
  have HKI := hide (fun (i : Int) (h1 : n - (n - 1) % 7 ≤ i) (h2 : i < n - (n - 1) % 7 + 7) (W : World) (h : MDays W) => by
    have q := Week_any i W (hide h)
    rw [(wk_same n1 n2 h1 h2).1, (wk_same n1 n2 h1 h2).2.1, (wk_same n1 n2 h1 h2).2.2, errV_zero] at q
    exact q)
  have HK7 := hide (fun (W : World) (h : MDays W) => Week_any (n + 7) W (hide h))
  rw [(wk_of (n := n + 7) (by omega) (by omega)).2.2, errV_zero] at HK7
  have HRG := hide (wk_range (n := n) (by omega) (by omega))
  have HNX := hide (wk_next n1 n2)
  have HOF := hide (fun (W : World) (h : MDays W) => Of_any (n - (n - 1) % 7 + 3) W (hide h))
  have hdm := dayB_yes (n := n - (n - 1) % 7 + 3) (by omega) (by omega)
  rw [(of_ok hdm).1, (of_ok hdm).2, errV_zero, show yearI (n - (n - 1) % 7 + 3) = wyV n from (wk_of (n := n) (by omega) (by omega)).1.symm] at HOF
  clear hd7 hd1 hdm c1 c2 c3
  unfold dateV at HOF
  generalize monthI (n - (n - 1) % 7 + 3) = om at *
  generalize dayI (n - (n - 1) % 7 + 3) = od at *
  obtain ⟨y, HY⟩ : ∃ y, Hid (wyV n = y) := ⟨_, hide rfl⟩
  obtain ⟨k, HKE⟩ : ∃ k, Hid (wkV n = k) := ⟨_, hide rfl⟩
  obtain ⟨y7, HY7⟩ : ∃ y, Hid (wyV (n + 7) = y) := ⟨_, hide rfl⟩
  obtain ⟨k7, HK7E⟩ : ∃ k, Hid (wkV (n + 7) = k) := ⟨_, hide rfl⟩
  rw [HY.out] at HK HKI HNX HOF
  rw [HKE.out] at HK HKI HRG HNX
  rw [HY7.out] at HK7 HNX
  rw [HK7E.out] at HK7 HNX
  obtain ⟨k1, k2⟩ := HRG.out
  have hyb : 0 ≤ y ∧ y ≤ 9999 := by have := yearI_b (n := midI n) (by have := mid_b (n := n) n1 (by omega); omega) (by have := mid_b (n := n) n1 (by omega); omega); have h2 := (wk_of (n := n) n1 (by omega)).1; rw [HY.out] at h2; omega
  obtain ⟨y0, y1⟩ := hyb
  obtain ⟨r, HR⟩ : ∃ r, Hid ((n - 1) % 7 = r) := ⟨_, hide rfl⟩
  have hr : 0 ≤ r ∧ r ≤ 6 ∧ r ≤ n - 1 := by have := HR.out; omega
  rw [HR.out] at HW H7 H1 HKI HOF
  obtain ⟨r0, r1, r2⟩ := hr
  go_enter Tryd.func8, Tryd.ntmps8
  go_wp2_with fail
  refine (HW.out _).mono ?_
  rintro e w' ⟨rfl, hw'⟩
  have hw' := hw'.symm
  subst hw'
  go_wp2_with fail
  refine (H7.out _).mono ?_
  rintro e w' ⟨rfl, hw'⟩
  have hw' := hw'.symm
  subst hw'
  go_wp2_with fail
  refine (H1.out _).mono ?_
  rintro e w' ⟨rfl, hw'⟩
  have hw' := hw'.symm
  subst hw'
  go_wp2_with fail
  refine (HK.out _ HM.out).mono ?_
  rintro e w1 ⟨rfl, hb1⟩
  have HB1 := hide hb1
  clear hb1
  go_wp2_with fail
  go_loopw [11] (fun i wr => ∃ j : Nat, j ≤ 7 ∧ i = .int .i64 (n - r + j) ∧ Hid (Below w.heap.size w wr)) (fun i _ => (n - r + 7 - intOf i).toNat)
  case atStart => exact ⟨0, by omega, by simp, HB1⟩
  case round =>
    clear HB1
    obtain ⟨j, hj, rfl, HB⟩ := hrel
    by_cases hlt : j < 7
    · have hlt2 : n - r + (j : Int) < n - r + 7 := by omega
      go_wp2_with (go_at_call 16; refine (HKI.out (n - r + j) (by omega) (by omega) _ (HM.out.below HB.out)).mono ?_; rintro e w2 ⟨rfl, hb2⟩)
      go_roundw
      case rel => exact ⟨j + 1, by omega, by go_num, hide (HB.out.trans (hb2.mono HB.out.size))⟩
      case measure => simp [intOf]; omega
    · have e : j = 7 := by omega
      subst e
      rw [show n - r + ((7 : Nat) : Int) = n - r + 7 from rfl]
      have hlt2 : ¬ (n - r + 7 : Int) < n - r + 7 := by omega
      go_wp2_with fail
      refine (HK7.out _ (HM.out.below HB.out)).mono ?_
      rintro e w2 ⟨rfl, hb2⟩
      have HB2 := hide (HB.out.trans (hb2.mono HB.out.size))
      clear hb2 HB
      go_wp2_with fail
      refine (HOF.out _ (HM.out.below HB2.out)).mono ?_
      rintro e w3 ⟨rfl, hb3⟩
      have HB3 := hide (HB2.out.trans (hb3.mono HB2.out.size))
      have HB4 : Hid (Below w.heap.size w (w3.alloc (.cells #[.int .i64 y, .int .i64 om, .int .i64 od] 23))) := hide (HB3.out.alloc HB3.out.size _)
      clear hb3 HB2
      rcases HNX.out with ⟨q1, q2⟩ | ⟨q1, q2, q3⟩
      · subst q1 q2
        go_wp2_with fail
        go_ret
        exact ⟨rfl, HB4.out⟩
      · subst q1 q2
        have qf : (y + 1 == y) = false := by rw [beq_eq_false_iff_ne]; omega
        have qd : decide (52 ≤ k) = true := decide_eq_true q3
        go_wp2_with fail
        go_ret
        exact ⟨rfl, HB4.out⟩
end Go.Proofs.YtiajkglpmpemaaaDoor
