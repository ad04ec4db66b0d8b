/-
  My own text: Easter: the program's and the document's.
-/
import Derived.Test.YtdfeehimnfogmaaGreatDoorD5
namespace Go.Proofs.YtdfeehimnfogmaaGreatDoor
open Go.RowKit

theorem rest_eq (a : Int) {b : Int} (hb : 0 < b) : (a.tmod b + b).tmod b = a % b := by
  have h2 := Int.lt_tmod_of_pos a hb
  rw [Int.tmod_eq_emod_of_nonneg (by omega), Int.add_emod_right, Int.tmod_def, Int.sub_mul_emod_self_left]
theorem rest_eq2 (a b : Int) : (a.tmod b + b) % b = a % b := by
  rw [Int.add_emod_right, Int.tmod_def, Int.sub_mul_emod_self_left]
theorem over_eq (a : Int) {b : Int} (hb : 0 < b) : (a - a % b).tdiv b = a / b := by
  have h := Int.mul_ediv_add_emod a b
  rw [show a - a % b = b * (a / b) by omega, Int.mul_tdiv_cancel_left _ (by omega)]
def eE (y : Int) : Int := (11 * (y % 19 + 1) + 20 + ((8 * (y / 100 + 1) + 5) / 25 - 5) - (3 * (y / 100 + 1) / 4 - 12)) % 30
def eD (y : Int) : Int := 5 * y / 4 - (3 * (y / 100 + 1) / 4 - 12) - 10
def eF (y : Int) : Int := if eE y = 24 ∨ eE y = 25 ∧ 11 < y % 19 + 1 then eE y + 1 else eE y
def eN (y : Int) : Int := if 44 - eF y < 21 then 44 - eF y + 30 else 44 - eF y
/-- Easter Sunday's number. -/
def easterI (y : Int) : Int := numI y 3 1 + (eN y + (7 - (eD y + eN y) % 7)) - 1
theorem tmod30 (s : Int) : -30 < s.tmod 30 ∧ s.tmod 30 < 30 ∧ s % 30 = if s.tmod 30 < 0 then s.tmod 30 + 30 else s.tmod 30 := by
  have h1 := Int.lt_tmod_of_pos s (b := 30) (by omega)
  have h2 := Int.tmod_lt_of_pos s (b := 30) (by omega)
  have h3 := rest_eq s (b := 30) (by omega)
  refine ⟨h1, h2, ?_⟩
  rw [Int.tmod_eq_emod_of_nonneg (by omega)] at h3
  split <;> omega
theorem eD_b {y : Int} (h1 : 1 ≤ y) (h2 : y ≤ 9999) : 0 ≤ 5 * y / 4 - (3 * (y / 100 + 1) / 4 - 12) - 10 ∧ 5 * y / 4 - (3 * (y / 100 + 1) / 4 - 12) - 10 ≤ 20000 := by omega
theorem right_march {y : Int} (h1 : 1 ≤ y) : RightD y 3 1 := ⟨h1, by omega, by omega, by omega, by have := mdays_b y 3; omega⟩
theorem rest_any (a b : Int) (w : World) (b0 : 0 < b) (b1 : b ≤ 1000) :
    Calls Tryz.prog 68 #[.int .i64 a, .int .i64 b] w fun e w' => e = .returned (.int .i64 (a % b)) ∧ w' = w := by
  have H := hide (rest_eq2 a b)
  have h1 : a.tmod b < b := Int.tmod_lt_of_pos a b0
  have h2 : -b < a.tmod b := Int.lt_tmod_of_pos a b0
  have hz : (b == 0) = false := by simp; omega
  have hn : ¬ b = 0 := by omega
  go_enter Tryz.func68, Tryz.ntmps68
  go_wp2
  go_ret
  exact ⟨ret_i H.out, rfl⟩
theorem over_any (a b : Int) (w : World) (a0 : -1000000000 ≤ a) (a1 : a ≤ 1000000000) (b0 : 0 < b) (b1 : b ≤ 1000) :
    Calls Tryz.prog 69 #[.int .i64 a, .int .i64 b] w fun e w' => e = .returned (.int .i64 (a / b)) ∧ w' = w := by
  have H := hide (over_eq a b0)
  have hz : (b == 0) = false := by simp; omega
  have hn : ¬ b = 0 := by omega
  have HR := hide (fun W : World => rest_any a b W b0 b1)
  have r0 := Int.emod_nonneg a (show b ≠ 0 by omega)
  have r1 := Int.emod_lt_of_pos a b0
  obtain ⟨r, HE⟩ : ∃ r, Hid (a % b = r) := ⟨_, hide rfl⟩
  rw [HE.out] at HR r0 r1 H
  go_enter Tryz.func69, Tryz.ntmps69
  go_wp2_with (go_at_call 68; refine (HR.out _).mono ?_; rintro e w' ⟨rfl, rfl⟩)
  go_ret
  exact ⟨ret_i H.out, rfl⟩
set_option maxRecDepth 100000 in
set_option maxHeartbeats 4000000 in
theorem easter_any (y : Int) (w : World) (HM : Hid (MDays w)) (y1 : 1 ≤ y) (y2 : y ≤ 9999) :
    Calls Tryz.prog 37 #[.int .i64 y] w fun e w' => e = .returned (.int .i64 (easterI y)) ∧ Below w.heap.size w w' := by
  have HC := hide (fun W : World => fun h : Hid (MDays W) => number_any y 3 1 W h (right_march y1) y2)
  have HC := hide (HC.out w HM)
  have hab := num_b (right_march y1) y2
  obtain ⟨a, HA⟩ : ∃ a, Hid (numI y 3 1 = a) := ⟨_, hide rfl⟩
  rw [HA.out] at HC hab
  obtain ⟨a0, a1⟩ := hab
  unfold dateV at HC
  have ht := tmod30 (11 * (y % 19 + 1) + 20 + ((8 * (y / 100 + 1) + 5) / 25 - 5) - (3 * (y / 100 + 1) / 4 - 12))
  have HE0 : Hid (eE y = (11 * (y % 19 + 1) + 20 + ((8 * (y / 100 + 1) + 5) / 25 - 5) - (3 * (y / 100 + 1) / 4 - 12)) % 30) := hide rfl
  obtain ⟨t, hT⟩ : ∃ t, Int.tmod (11 * (y % 19 + 1) + 20 + ((8 * (y / 100 + 1) + 5) / 25 - 5) - (3 * (y / 100 + 1) / 4 - 12)) 30 = t := ⟨_, rfl⟩
  rw [hT] at ht
  obtain ⟨t0, t1, t2⟩ := ht
  rw [t2] at HE0
  clear t2
  have hd := eD_b y1 y2
  obtain ⟨d0, d1⟩ := hd
  by_cases hneg : t < 0
  · have HE : Hid (eE y = t + 30) := by show _ = _; rw [HE0.out, if_pos hneg]
    clear HE0
    by_cases hq : t = -6
    · subst hq
      have HF := hide (show eF y = 25 by unfold eF; rw [HE.out]; exact if_pos (by omega))
      have HN := hide (show eN y = 49 by unfold eN; rw [HF.out]; exact if_pos (by omega))
      have HZ : Hid (easterI y = a + (49 + (7 - (eD y + (49)) % 7)) - 1) := by show _ = _; unfold easterI; rw [HN.out, HA.out]
      clear HF HN
      go_enter Tryz.func37, Tryz.ntmps37
      go_wp2_with (go_at_call 40; refine (HC.out).mono ?_; rintro e w1 ⟨rfl, hb1⟩)
      go_ret
      exact ⟨ret_i (by rw [HZ.out]; unfold eD; omega), hb1⟩
    by_cases hr : t = -5
    · subst hr
      by_cases hg : 11 < y % 19 + 1
      · clear hq
        have hgd : decide (11 < y % 19 + 1) = true := decide_eq_true hg
        have HF := hide (show eF y = 26 by unfold eF; rw [HE.out]; exact if_pos (by omega))
        have HN := hide (show eN y = 48 by unfold eN; rw [HF.out]; exact if_pos (by omega))
        have HZ : Hid (easterI y = a + (48 + (7 - (eD y + (48)) % 7)) - 1) := by show _ = _; unfold easterI; rw [HN.out, HA.out]
        clear HF HN
        go_enter Tryz.func37, Tryz.ntmps37
        go_wp2_with (go_at_call 40; refine (HC.out).mono ?_; rintro e w1 ⟨rfl, hb1⟩)
        go_ret
        exact ⟨ret_i (by rw [HZ.out]; unfold eD; omega), hb1⟩
      · clear hq
        have hgd : decide (11 < y % 19 + 1) = false := decide_eq_false hg
        have HF := hide (show eF y = 25 by unfold eF; rw [HE.out]; exact if_neg (by omega))
        have HN := hide (show eN y = 49 by unfold eN; rw [HF.out]; exact if_pos (by omega))
        have HZ : Hid (easterI y = a + (49 + (7 - (eD y + (49)) % 7)) - 1) := by show _ = _; unfold easterI; rw [HN.out, HA.out]
        clear HF HN
        go_enter Tryz.func37, Tryz.ntmps37
        go_wp2_with (go_at_call 40; refine (HC.out).mono ?_; rintro e w1 ⟨rfl, hb1⟩)
        go_ret
        exact ⟨ret_i (by rw [HZ.out]; unfold eD; omega), hb1⟩
    have q1 : (t + 30 == 24) = false := by simp; omega
    have q2 : (t + 30 == 25) = false := by simp; omega
    by_cases hl : 44 - (t + 30) < 21
    · skip
      have HF := hide (show eF y = t + 30 by unfold eF; rw [HE.out]; exact if_neg (by omega))
      have HN := hide (show eN y = 44 - (t + 30) + 30 by unfold eN; rw [HF.out]; exact if_pos (by omega))
      have HZ : Hid (easterI y = a + (44 - (t + 30) + 30 + (7 - (eD y + (44 - (t + 30) + 30)) % 7)) - 1) := by show _ = _; unfold easterI; rw [HN.out, HA.out]
      clear HF HN
      go_enter Tryz.func37, Tryz.ntmps37
      go_wp2_with (go_at_call 40; refine (HC.out).mono ?_; rintro e w1 ⟨rfl, hb1⟩)
      go_ret
      exact ⟨ret_i (by rw [HZ.out]; unfold eD; omega), hb1⟩
    · skip
      have HF := hide (show eF y = t + 30 by unfold eF; rw [HE.out]; exact if_neg (by omega))
      have HN := hide (show eN y = 44 - (t + 30) by unfold eN; rw [HF.out]; exact if_neg (by omega))
      have HZ : Hid (easterI y = a + (44 - (t + 30) + (7 - (eD y + (44 - (t + 30))) % 7)) - 1) := by show _ = _; unfold easterI; rw [HN.out, HA.out]
      clear HF HN
      go_enter Tryz.func37, Tryz.ntmps37
      go_wp2_with (go_at_call 40; refine (HC.out).mono ?_; rintro e w1 ⟨rfl, hb1⟩)
      go_ret
      exact ⟨ret_i (by rw [HZ.out]; unfold eD; omega), hb1⟩
  · have HE : Hid (eE y = t) := by show _ = _; rw [HE0.out, if_neg hneg]
    clear HE0
    by_cases hq : t = 24
    · subst hq
      have HF := hide (show eF y = 25 by unfold eF; rw [HE.out]; exact if_pos (by omega))
      have HN := hide (show eN y = 49 by unfold eN; rw [HF.out]; exact if_pos (by omega))
      have HZ : Hid (easterI y = a + (49 + (7 - (eD y + (49)) % 7)) - 1) := by show _ = _; unfold easterI; rw [HN.out, HA.out]
      clear HF HN
      go_enter Tryz.func37, Tryz.ntmps37
      go_wp2_with (go_at_call 40; refine (HC.out).mono ?_; rintro e w1 ⟨rfl, hb1⟩)
      go_ret
      exact ⟨ret_i (by rw [HZ.out]; unfold eD; omega), hb1⟩
    by_cases hr : t = 25
    · subst hr
      by_cases hg : 11 < y % 19 + 1
      · clear hq
        have hgd : decide (11 < y % 19 + 1) = true := decide_eq_true hg
        have HF := hide (show eF y = 26 by unfold eF; rw [HE.out]; exact if_pos (by omega))
        have HN := hide (show eN y = 48 by unfold eN; rw [HF.out]; exact if_pos (by omega))
        have HZ : Hid (easterI y = a + (48 + (7 - (eD y + (48)) % 7)) - 1) := by show _ = _; unfold easterI; rw [HN.out, HA.out]
        clear HF HN
        go_enter Tryz.func37, Tryz.ntmps37
        go_wp2_with (go_at_call 40; refine (HC.out).mono ?_; rintro e w1 ⟨rfl, hb1⟩)
        go_ret
        exact ⟨ret_i (by rw [HZ.out]; unfold eD; omega), hb1⟩
      · clear hq
        have hgd : decide (11 < y % 19 + 1) = false := decide_eq_false hg
        have HF := hide (show eF y = 25 by unfold eF; rw [HE.out]; exact if_neg (by omega))
        have HN := hide (show eN y = 49 by unfold eN; rw [HF.out]; exact if_pos (by omega))
        have HZ : Hid (easterI y = a + (49 + (7 - (eD y + (49)) % 7)) - 1) := by show _ = _; unfold easterI; rw [HN.out, HA.out]
        clear HF HN
        go_enter Tryz.func37, Tryz.ntmps37
        go_wp2_with (go_at_call 40; refine (HC.out).mono ?_; rintro e w1 ⟨rfl, hb1⟩)
        go_ret
        exact ⟨ret_i (by rw [HZ.out]; unfold eD; omega), hb1⟩
    have q1 : (t == 24) = false := by simp; omega
    have q2 : (t == 25) = false := by simp; omega
    by_cases hl : 44 - (t) < 21
    · skip
      have HF := hide (show eF y = t by unfold eF; rw [HE.out]; exact if_neg (by omega))
      have HN := hide (show eN y = 44 - (t) + 30 by unfold eN; rw [HF.out]; exact if_pos (by omega))
      have HZ : Hid (easterI y = a + (44 - (t) + 30 + (7 - (eD y + (44 - (t) + 30)) % 7)) - 1) := by show _ = _; unfold easterI; rw [HN.out, HA.out]
      clear HF HN
      go_enter Tryz.func37, Tryz.ntmps37
      go_wp2_with (go_at_call 40; refine (HC.out).mono ?_; rintro e w1 ⟨rfl, hb1⟩)
      go_ret
      exact ⟨ret_i (by rw [HZ.out]; unfold eD; omega), hb1⟩
    · skip
      have HF := hide (show eF y = t by unfold eF; rw [HE.out]; exact if_neg (by omega))
      have HN := hide (show eN y = 44 - (t) by unfold eN; rw [HF.out]; exact if_neg (by omega))
      have HZ : Hid (easterI y = a + (44 - (t) + (7 - (eD y + (44 - (t))) % 7)) - 1) := by show _ = _; unfold easterI; rw [HN.out, HA.out]
      clear HF HN
      go_enter Tryz.func37, Tryz.ntmps37
      go_wp2_with (go_at_call 40; refine (HC.out).mono ?_; rintro e w1 ⟨rfl, hb1⟩)
      go_ret
      exact ⟨ret_i (by rw [HZ.out]; unfold eD; omega), hb1⟩

end Go.Proofs.YtdfeehimnfogmaaGreatDoor
