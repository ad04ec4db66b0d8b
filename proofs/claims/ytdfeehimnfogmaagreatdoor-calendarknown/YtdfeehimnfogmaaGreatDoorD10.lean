/-
  My own text: months added to a day: the document's.
-/
import Derived.Test.YtdfeehimnfogmaaGreatDoorD9
namespace Go.Proofs.YtdfeehimnfogmaaGreatDoor
open Go.RowKit

set_option maxRecDepth 100000 in
set_option maxHeartbeats 4000000 in
theorem refMonths_any (n k : Int) (w : World) :
    Calls Tryz.prog 50 #[.int .i64 n, .int .i64 k] w fun e w' => e = .returned (.tuple #[.int .i64 (moV n k), .int .i64 (moE n k)]) ∧ Below w.heap.size w w' := by
  have HC := hide (refOf_any n w)
  cases hd : dayB n
  · rw [(of_bad hd).1, (of_bad hd).2] at HC
    have hno : moB n k = false := moB_no (fun h => by rw [dayB_yes h.1 h.2.1] at hd; cases hd)
    clear hd
    unfold dateV at HC
    rw [(mo_bad hno).1, (mo_bad hno).2]
    go_enter Tryz.func50, Tryz.ntmps50
    go_wp2_with (first
      | (go_at_call 46; refine (HC.out).mono ?_; rintro e w1 ⟨rfl, hb1⟩)
      | (go_at_call 69; refine (over_any _ _ _ (by omega) (by omega) (by omega) (by omega)).mono ?_; rintro e w' ⟨rfl, rfl⟩)
      | (go_at_call 68; refine (rest_any _ _ _ (by omega) (by omega)).mono ?_; rintro e w' ⟨rfl, rfl⟩))
    go_ret2
    exact ⟨rfl, hb1.alloc hb1.size _⟩
  · rw [(of_ok hd).1, (of_ok hd).2] at HC
    obtain ⟨n1, n2⟩ := (dayB_iff n).1 hd
    clear hd
    have hy := yearI_b n1 n2
    have hm := monthI_b n1
    have hdd := dayI_b n1
    have HMI : Hid (monI n = 12 * (yearI n - 1) + monthI n - 1) := hide rfl
    have HNO := hide (fun h => moB_no (n := n) (k := k) h)
    have HOK := hide ((moB_iff n k).2)
    have HRT := hide (mo_right (n := n) (k := k) n1)
    have hYM : Hid (moY n k = (monI n + k) / 12 + 1 ∧ moM n k = (monI n + k) % 12 + 1) := hide ⟨rfl, rfl⟩
    obtain ⟨y, HY⟩ : ∃ y, Hid (yearI n = y) := ⟨_, hide rfl⟩
    obtain ⟨m, HMM⟩ : ∃ m, Hid (monthI n = m) := ⟨_, hide rfl⟩
    obtain ⟨d, HDE⟩ : ∃ d, Hid (dayI n = d) := ⟨_, hide rfl⟩
    rw [HY.out] at HC hy HMI
    rw [HMM.out] at HC hm HMI
    rw [HDE.out] at HC hdd
    obtain ⟨y0, y1⟩ := hy
    obtain ⟨m0, m1⟩ := hm
    obtain ⟨d0, d1⟩ := hdd
    rw [HMI.out] at HNO HOK HRT hYM
    unfold dateV at HC
    by_cases hhi : 119988 < k
    · have hno := HNO.out (by omega)
      rw [(mo_bad hno).1, (mo_bad hno).2]
      go_enter Tryz.func50, Tryz.ntmps50
      go_wp2_with (first
        | (go_at_call 46; refine (HC.out).mono ?_; rintro e w1 ⟨rfl, hb1⟩)
        | (go_at_call 69; refine (over_any _ _ _ (by omega) (by omega) (by omega) (by omega)).mono ?_; rintro e w' ⟨rfl, rfl⟩)
        | (go_at_call 68; refine (rest_any _ _ _ (by omega) (by omega)).mono ?_; rintro e w' ⟨rfl, rfl⟩))
      go_ret2
      exact ⟨rfl, hb1.alloc hb1.size _⟩
    by_cases hlo : k < -119988
    · have hno := HNO.out (by omega)
      rw [(mo_bad hno).1, (mo_bad hno).2]
      go_enter Tryz.func50, Tryz.ntmps50
      go_wp2_with (first
        | (go_at_call 46; refine (HC.out).mono ?_; rintro e w1 ⟨rfl, hb1⟩)
        | (go_at_call 69; refine (over_any _ _ _ (by omega) (by omega) (by omega) (by omega)).mono ?_; rintro e w' ⟨rfl, rfl⟩)
        | (go_at_call 68; refine (rest_any _ _ _ (by omega) (by omega)).mono ?_; rintro e w' ⟨rfl, rfl⟩))
      go_ret2
      exact ⟨rfl, hb1.alloc hb1.size _⟩
    obtain ⟨y', hye⟩ : ∃ y', (12 * y + m - 1 + k) / 12 = y' := ⟨_, rfl⟩
    obtain ⟨m', hme⟩ : ∃ m', (12 * y + m - 1 + k) % 12 + 1 = m' := ⟨_, rfl⟩
    by_cases hy1 : y' < 1
    · have hno := HNO.out (by omega)
      rw [(mo_bad hno).1, (mo_bad hno).2]
      go_enter Tryz.func50, Tryz.ntmps50
      go_wp2_with (first
        | (go_at_call 46; refine (HC.out).mono ?_; rintro e w1 ⟨rfl, hb1⟩)
        | (go_at_call 69; refine (over_any _ _ _ (by omega) (by omega) (by omega) (by omega)).mono ?_; rintro e w' ⟨rfl, rfl⟩)
        | (go_at_call 68; refine (rest_any _ _ _ (by omega) (by omega)).mono ?_; rintro e w' ⟨rfl, rfl⟩))
      go_ret2
      exact ⟨rfl, hb1.alloc hb1.size _⟩
    by_cases hy2 : 9999 < y'
    · have hno := HNO.out (by omega)
      rw [(mo_bad hno).1, (mo_bad hno).2]
      go_enter Tryz.func50, Tryz.ntmps50
      go_wp2_with (first
        | (go_at_call 46; refine (HC.out).mono ?_; rintro e w1 ⟨rfl, hb1⟩)
        | (go_at_call 69; refine (over_any _ _ _ (by omega) (by omega) (by omega) (by omega)).mono ?_; rintro e w' ⟨rfl, rfl⟩)
        | (go_at_call 68; refine (rest_any _ _ _ (by omega) (by omega)).mono ?_; rintro e w' ⟨rfl, rfl⟩))
      go_ret2
      exact ⟨rfl, hb1.alloc hb1.size _⟩
    have hyes := HOK.out ⟨n1, n2, by omega, by omega⟩
    rw [(mo_ok hyes).1, (mo_ok hyes).2]
    have HR := hide (HRT.out (by omega) (by omega))
    clear HNO HOK HRT hyes
    have HYE : Hid (moY n k = y') := by show _ = _; rw [hYM.out.1]; omega
    have HME : Hid (moM n k = m') := by show _ = _; rw [hYM.out.2]; omega
    have hm' : 1 ≤ m' ∧ m' ≤ 12 := by omega
    have HL := hide (fun (W : World) => refMonthDays_any y' m' W (by omega))
    have hbt := mdays_b y' m'
    have HTE0 : Hid (mdays (moY n k) (moM n k) = mdays y' m') := by show _ = _; rw [HYE.out, HME.out]
    obtain ⟨t, HT⟩ : ∃ t, Hid (mdays y' m' = t) := ⟨_, hide rfl⟩
    have HTE : Hid (mdays (moY n k) (moM n k) = t) := hide (HTE0.out.trans HT.out)
    rw [HT.out] at HL hbt
    obtain ⟨t0, t1⟩ := hbt
    obtain ⟨m2, m3⟩ := hm'
    clear HTE0
    by_cases hle : d ≤ t
    · skip
      have HDV := hide (show moD n k = d by unfold moD; rw [HDE.out, HTE.out]; exact if_pos hle)
      rw [HDV.out] at HR
      have HNU := hide (fun (W : World) => refNumber_any (moY n k) (moM n k) d W)
      have hrr : rightB (moY n k) (moM n k) d = true := (rightB_iff _ _ _).2 HR.out
      rw [(num_ok hrr).1, (num_ok hrr).2] at HNU
      clear hrr
      rw [HDV.out, HYE.out, HME.out]
      rw [HYE.out, HME.out] at HNU
      unfold dateV at HNU
      generalize numI y' m' d = res at *
      have hdt : decide (t < d) = false := decide_eq_false (by omega)
      go_enter Tryz.func50, Tryz.ntmps50
      go_wp2_with (first
        | (go_at_call 46; refine (HC.out).mono ?_; rintro e w1 ⟨rfl, hb1⟩)
        | (go_at_call 69; refine (over_any _ _ _ (by omega) (by omega) (by omega) (by omega)).mono ?_; rintro e w' ⟨rfl, rfl⟩)
        | (go_at_call 68; refine (rest_any _ _ _ (by omega) (by omega)).mono ?_; rintro e w' ⟨rfl, rfl⟩))
      go_quiet (first | (go_at_call 54; exact Calls.quiet_of_same (HL.out _)))
      go_wp2_with (first
        | (go_at_call 54; refine (HL.out _).mono ?_; rintro e w' ⟨rfl, rfl⟩)
        | (go_at_call 26; refine (HNU.out _).mono ?_; rintro e w6 ⟨rfl, hb6⟩))
      go_ret2
      first
        | exact ⟨rfl, (below_drewN (hb1.alloc hb1.size (.cells #[.int .i64 y', .int .i64 m', .int .i64 d] 25)) _).trans (hb6.mono (below_drewN (hb1.alloc hb1.size (.cells #[.int .i64 y', .int .i64 m', .int .i64 d] 25)) _).size)⟩
        | exact ⟨rfl, ((below_drewN (hb1.alloc hb1.size (.cells #[.int .i64 y', .int .i64 m', .int .i64 d] 25)) _).setCell (p := ⟨w1.heap.size, 2, none⟩) hb1.size _).trans (hb6.mono ((below_drewN (hb1.alloc hb1.size (.cells #[.int .i64 y', .int .i64 m', .int .i64 d] 25)) _).setCell (p := ⟨w1.heap.size, 2, none⟩) hb1.size _).size)⟩
    · skip
      have HDV := hide (show moD n k = t by unfold moD; rw [HDE.out, HTE.out]; exact if_neg hle)
      rw [HDV.out] at HR
      have HNU := hide (fun (W : World) => refNumber_any (moY n k) (moM n k) t W)
      have hrr : rightB (moY n k) (moM n k) t = true := (rightB_iff _ _ _).2 HR.out
      rw [(num_ok hrr).1, (num_ok hrr).2] at HNU
      clear hrr
      rw [HDV.out, HYE.out, HME.out]
      rw [HYE.out, HME.out] at HNU
      unfold dateV at HNU
      generalize numI y' m' t = res at *
      have hdt : decide (t < d) = true := decide_eq_true (by omega)
      go_enter Tryz.func50, Tryz.ntmps50
      go_wp2_with (first
        | (go_at_call 46; refine (HC.out).mono ?_; rintro e w1 ⟨rfl, hb1⟩)
        | (go_at_call 69; refine (over_any _ _ _ (by omega) (by omega) (by omega) (by omega)).mono ?_; rintro e w' ⟨rfl, rfl⟩)
        | (go_at_call 68; refine (rest_any _ _ _ (by omega) (by omega)).mono ?_; rintro e w' ⟨rfl, rfl⟩))
      go_quiet (first | (go_at_call 54; exact Calls.quiet_of_same (HL.out _)))
      go_wp2_with (first
        | (go_at_call 54; refine (HL.out _).mono ?_; rintro e w' ⟨rfl, rfl⟩)
        | (go_at_call 26; refine (HNU.out _).mono ?_; rintro e w6 ⟨rfl, hb6⟩))
      go_ret2
      first
        | exact ⟨rfl, (below_drewN (hb1.alloc hb1.size (.cells #[.int .i64 y', .int .i64 m', .int .i64 t] 25)) _).trans (hb6.mono (below_drewN (hb1.alloc hb1.size (.cells #[.int .i64 y', .int .i64 m', .int .i64 t] 25)) _).size)⟩
        | exact ⟨rfl, ((below_drewN (hb1.alloc hb1.size (.cells #[.int .i64 y', .int .i64 m', .int .i64 d] 25)) _).setCell (p := ⟨w1.heap.size, 2, none⟩) hb1.size _).trans (hb6.mono ((below_drewN (hb1.alloc hb1.size (.cells #[.int .i64 y', .int .i64 m', .int .i64 d] 25)) _).setCell (p := ⟨w1.heap.size, 2, none⟩) hb1.size _).size)⟩
end Go.Proofs.YtdfeehimnfogmaaGreatDoor
