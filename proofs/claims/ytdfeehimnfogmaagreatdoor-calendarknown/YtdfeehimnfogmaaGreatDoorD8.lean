/-
  My own text: the calls of Easter: the program's and the document's.
-/
import Derived.Test.YtdfeehimnfogmaaGreatDoorD7
namespace Go.Proofs.YtdfeehimnfogmaaGreatDoor
open Go.RowKit

def eaV (y : Int) : Int := if yearB y then easterI y else 0
def eaE (y : Int) : Int := if yearB y then 0 else 8
theorem ea_bad {y : Int} (h : yearB y = false) : eaV y = 0 ∧ eaE y = 8 := by unfold eaV eaE; rw [h]; exact ⟨rfl, rfl⟩
theorem ea_ok {y : Int} (h : yearB y = true) : eaV y = easterI y ∧ eaE y = 0 := by unfold eaV eaE; rw [h]; exact ⟨rfl, rfl⟩
theorem yearB_iff (n : Int) : yearB n = true ↔ 1 ≤ n ∧ n ≤ 9999 := by unfold yearB; rw [decide_eq_true_iff]
theorem Easter_any (y : Int) (w : World) (HM : Hid (MDays w)) :
    Calls Tryz.prog 15 #[.int .i64 y] w fun e w' => e = .returned (.tuple #[.int .i64 (eaV y), errV (eaE y)]) ∧ Below w.heap.size w w' := by
  have HI := hide (fun W : World => isYear_any y W)
  cases hd : yearB y
  · rw [hd] at HI
    rw [(ea_bad hd).1, (ea_bad hd).2]
    clear hd
    go_enter Tryz.func15, Tryz.ntmps15
    go_wp2_with (go_at_call 36; refine (HI.out _).mono ?_; rintro e w' ⟨rfl, rfl⟩)
    go_ret2
    exact ⟨rfl, Below.refl _ _⟩
  · rw [hd] at HI
    rw [(ea_ok hd).1, (ea_ok hd).2]
    obtain ⟨y1, y2⟩ := (yearB_iff y).1 hd
    clear hd
    have HC := hide (easter_any y w HM y1 y2)
    generalize easterI y = v at *
    go_enter Tryz.func15, Tryz.ntmps15
    go_wp2_with (first
      | (go_at_call 36; refine (HI.out _).mono ?_; rintro e w' ⟨rfl, rfl⟩)
      | (go_at_call 37; refine (HC.out).mono ?_; rintro e w1 ⟨rfl, hb1⟩))
    go_ret2
    exact ⟨rfl, hb1⟩
set_option maxRecDepth 100000 in
set_option maxHeartbeats 4000000 in
theorem refEaster_any (y : Int) (w : World) :
    Calls Tryz.prog 49 #[.int .i64 y] w fun e w' => e = .returned (.tuple #[.int .i64 (eaV y), .int .i64 (eaE y)]) ∧ Below w.heap.size w w' := by
  cases hd : yearB y
  · rw [(ea_bad hd).1, (ea_bad hd).2]
    by_cases hc : y < 1
    · clear hd
      go_enter Tryz.func49, Tryz.ntmps49
      go_wp2
      go_ret2
      exact ⟨rfl, Below.refl _ _⟩
    · have hc2 : 9999 < y := by
        by_cases h : 9999 < y
        · exact h
        · rw [yearB_yes (by omega) (by omega)] at hd; cases hd
      clear hd
      go_enter Tryz.func49, Tryz.ntmps49
      go_wp2
      go_ret2
      exact ⟨rfl, Below.refl _ _⟩
  · rw [(ea_ok hd).1, (ea_ok hd).2]
    obtain ⟨y1, y2⟩ := (yearB_iff y).1 hd
    clear hd
    have HC := hide (refNumber_any y 3 1 w)
    have hrr : rightB y 3 1 = true := (rightB_iff _ _ _).2 ⟨right_march y1, y2⟩
    rw [(num_ok hrr).1, (num_ok hrr).2] at HC
    have hab := num_b (right_march y1) y2
    clear hrr
    obtain ⟨a, HA⟩ : ∃ a, Hid (numI y 3 1 = a) := ⟨_, hide rfl⟩
    rw [HA.out] at HC hab
    obtain ⟨a0, a1⟩ := hab
    unfold dateV at HC
    obtain ⟨t, hT⟩ : ∃ t, (11 * (y % 19 + 1) + 20 + ((8 * (y / 100 + 1) + 5) / 25 - 5) - (3 * (y / 100 + 1) / 4 - 12)) % 30 = t := ⟨_, rfl⟩
    have HE : Hid (eE y = t) := hide hT
    have ht : 0 ≤ t ∧ t < 30 := by omega
    obtain ⟨t0, t1⟩ := ht
    obtain ⟨d0, d1⟩ := eD_b y1 y2
    by_cases hq : t = 24
    · subst hq
      have HF := hide (show eF y = 25 by unfold eF; rw [HE.out]; exact if_pos (by omega))
      have HN := hide (show eN y = 49 by unfold eN; rw [HF.out]; exact if_pos (by omega))
      have HZ : Hid (easterI y = a + (49 + (7 - (eD y + (49)) % 7)) - 1) := by show _ = _; unfold easterI; rw [HN.out, HA.out]
      clear HF HN
      go_enter Tryz.func49, Tryz.ntmps49
      go_wp2_with (first
        | (go_at_call 68; refine (rest_any _ _ _ (by omega) (by omega)).mono ?_; rintro e w' ⟨rfl, rfl⟩)
        | (go_at_call 69; refine (over_any _ _ _ (by omega) (by omega) (by omega) (by omega)).mono ?_; rintro e w' ⟨rfl, rfl⟩)
        | (go_at_call 26; refine (HC.out).mono ?_; rintro e w1 ⟨rfl, hb1⟩))
      go_ret2
      exact ⟨ret_ii (by rw [HZ.out]; unfold eD; omega) rfl, hb1⟩
    by_cases hr : t = 25
    · subst hr
      clear hq
      by_cases hg : 11 < y % 19 + 1
      · have hgd : decide (11 < y % 19 + 1) = true := decide_eq_true hg
        have HF := hide (show eF y = 26 by unfold eF; rw [HE.out]; exact if_pos (by omega))
        have HN := hide (show eN y = 48 by unfold eN; rw [HF.out]; exact if_pos (by omega))
        have HZ : Hid (easterI y = a + (48 + (7 - (eD y + (48)) % 7)) - 1) := by show _ = _; unfold easterI; rw [HN.out, HA.out]
        clear HF HN
        go_enter Tryz.func49, Tryz.ntmps49
        go_wp2_with (first
          | (go_at_call 68; refine (rest_any _ _ _ (by omega) (by omega)).mono ?_; rintro e w' ⟨rfl, rfl⟩)
          | (go_at_call 69; refine (over_any _ _ _ (by omega) (by omega) (by omega) (by omega)).mono ?_; rintro e w' ⟨rfl, rfl⟩)
          | (go_at_call 26; refine (HC.out).mono ?_; rintro e w1 ⟨rfl, hb1⟩))
        go_ret2
        exact ⟨ret_ii (by rw [HZ.out]; unfold eD; omega) rfl, hb1⟩
      · have hgd : decide (11 < y % 19 + 1) = false := decide_eq_false hg
        have HF := hide (show eF y = 25 by unfold eF; rw [HE.out]; exact if_neg (by omega))
        have HN := hide (show eN y = 49 by unfold eN; rw [HF.out]; exact if_pos (by omega))
        have HZ : Hid (easterI y = a + (49 + (7 - (eD y + (49)) % 7)) - 1) := by show _ = _; unfold easterI; rw [HN.out, HA.out]
        clear HF HN
        go_enter Tryz.func49, Tryz.ntmps49
        go_wp2_with (first
          | (go_at_call 68; refine (rest_any _ _ _ (by omega) (by omega)).mono ?_; rintro e w' ⟨rfl, rfl⟩)
          | (go_at_call 69; refine (over_any _ _ _ (by omega) (by omega) (by omega) (by omega)).mono ?_; rintro e w' ⟨rfl, rfl⟩)
          | (go_at_call 26; refine (HC.out).mono ?_; rintro e w1 ⟨rfl, hb1⟩))
        go_ret2
        exact ⟨ret_ii (by rw [HZ.out]; unfold eD; omega) rfl, hb1⟩
    have q1 : (t == 24) = false := by simp; omega
    have q2 : (t == 25) = false := by simp; omega
    by_cases hl : 44 - t < 21
    · skip
      have HF := hide (show eF y = t by unfold eF; rw [HE.out]; exact if_neg (by omega))
      have HN := hide (show eN y = 44 - t + 30 by unfold eN; rw [HF.out]; exact if_pos (by omega))
      have HZ : Hid (easterI y = a + (44 - t + 30 + (7 - (eD y + (44 - t + 30)) % 7)) - 1) := by show _ = _; unfold easterI; rw [HN.out, HA.out]
      clear HF HN
      go_enter Tryz.func49, Tryz.ntmps49
      go_wp2_with (first
        | (go_at_call 68; refine (rest_any _ _ _ (by omega) (by omega)).mono ?_; rintro e w' ⟨rfl, rfl⟩)
        | (go_at_call 69; refine (over_any _ _ _ (by omega) (by omega) (by omega) (by omega)).mono ?_; rintro e w' ⟨rfl, rfl⟩)
        | (go_at_call 26; refine (HC.out).mono ?_; rintro e w1 ⟨rfl, hb1⟩))
      go_ret2
      exact ⟨ret_ii (by rw [HZ.out]; unfold eD; omega) rfl, hb1⟩
    · skip
      have HF := hide (show eF y = t by unfold eF; rw [HE.out]; exact if_neg (by omega))
      have HN := hide (show eN y = 44 - t by unfold eN; rw [HF.out]; exact if_neg (by omega))
      have HZ : Hid (easterI y = a + (44 - t + (7 - (eD y + (44 - t)) % 7)) - 1) := by show _ = _; unfold easterI; rw [HN.out, HA.out]
      clear HF HN
      go_enter Tryz.func49, Tryz.ntmps49
      go_wp2_with (first
        | (go_at_call 68; refine (rest_any _ _ _ (by omega) (by omega)).mono ?_; rintro e w' ⟨rfl, rfl⟩)
        | (go_at_call 69; refine (over_any _ _ _ (by omega) (by omega) (by omega) (by omega)).mono ?_; rintro e w' ⟨rfl, rfl⟩)
        | (go_at_call 26; refine (HC.out).mono ?_; rintro e w1 ⟨rfl, hb1⟩))
      go_ret2
      exact ⟨ret_ii (by rw [HZ.out]; unfold eD; omega) rfl, hb1⟩
end Go.Proofs.YtdfeehimnfogmaaGreatDoor
