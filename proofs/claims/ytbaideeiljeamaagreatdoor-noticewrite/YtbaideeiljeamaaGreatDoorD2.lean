/-
  My own text: D1, D2 in one.
-/
import Derived.Test.YtbaideeiljeamaaGreatDoorErr
import Derived.RegionTactic
import Derived.WalkSmall
import Derived.Deep.QuietTactic
import Derived.BigQuiet
import Derived.Lib.LaidTab
namespace Go.Proofs.YtbaideeiljeamaaGreatDoor
open Go.RowKit

theorem ret_b {a b : Bool} (h : a = b) : Ending.returned (.bool a) = .returned (.bool b) := by rw [h]
theorem ret_v {a b : Value} (h : a = b) : Ending.returned a = .returned b := by rw [h]
theorem ret_i {a b : Int} (h : a = b) : Ending.returned (.int .i64 a) = .returned (.int .i64 b) := by rw [h]
def dayB (n : Int) : Bool := decide (1 ≤ n ∧ n ≤ 3652059)
def yearB (y : Int) : Bool := decide (1 ≤ y ∧ y ≤ 9999)
theorem dayB_yes {n : Int} (h1 : 1 ≤ n) (h2 : n ≤ 3652059) : dayB n = true := by unfold dayB; simp; omega
theorem dayB_no {n : Int} (h : n < 1 ∨ 3652059 < n) : dayB n = false := by unfold dayB; simp; omega
theorem yearB_yes {n : Int} (h1 : 1 ≤ n) (h2 : n ≤ 9999) : yearB n = true := by unfold yearB; simp; omega
theorem yearB_no {n : Int} (h : n < 1 ∨ 9999 < n) : yearB n = false := by unfold yearB; simp; omega

theorem isDay_any (n : Int) (w : World) :
    Calls Tryz.prog 114 #[.int .i64 n] w fun e w' => e = .returned (.bool (dayB n)) ∧ w' = w := by
  by_cases h1 : n < 1
  · have H := hide (dayB_no (.inl h1))
    go_enter Tryz.func114, Tryz.ntmps114
    go_wp2
    go_ret
    exact ⟨ret_b (by rw [H.out]; try (simp; omega)), rfl⟩
  by_cases h2 : 3652059 < n
  · have H := hide (dayB_no (.inr h2))
    go_enter Tryz.func114, Tryz.ntmps114
    go_wp2
    go_ret
    exact ⟨ret_b (by rw [H.out]; try (simp; omega)), rfl⟩
  have H := hide (dayB_yes (n := n) (by omega) (by omega))
  go_enter Tryz.func114, Tryz.ntmps114
  go_wp2
  go_ret
  exact ⟨ret_b (by rw [H.out]; try (simp; omega)), rfl⟩
theorem isYear_any (n : Int) (w : World) :
    Calls Tryz.prog 141 #[.int .i64 n] w fun e w' => e = .returned (.bool (yearB n)) ∧ w' = w := by
  by_cases h1 : n < 1
  · have H := hide (yearB_no (.inl h1))
    go_enter Tryz.func141, Tryz.ntmps141
    go_wp2
    go_ret
    exact ⟨ret_b (by rw [H.out]; try (simp; omega)), rfl⟩
  by_cases h2 : 9999 < n
  · have H := hide (yearB_no (.inr h2))
    go_enter Tryz.func141, Tryz.ntmps141
    go_wp2
    go_ret
    exact ⟨ret_b (by rw [H.out]; try (simp; omega)), rfl⟩
  have H := hide (yearB_yes (n := n) (by omega) (by omega))
  go_enter Tryz.func141, Tryz.ntmps141
  go_wp2
  go_ret
  exact ⟨ret_b (by rw [H.out]; try (simp; omega)), rfl⟩
theorem refIs_any (n : Int) (w : World) :
    Calls Tryz.prog 72 #[.int .i64 n] w fun e w' => e = .returned (.bool (dayB n)) ∧ w' = w := by
  by_cases h1 : n < 1
  · have H := hide (dayB_no (.inl h1))
    go_enter Tryz.func72, Tryz.ntmps72
    go_wp2
    go_ret
    exact ⟨ret_b (by rw [H.out]; try (simp; omega)), rfl⟩
  by_cases h2 : 3652059 < n
  · have H := hide (dayB_no (.inr h2))
    go_enter Tryz.func72, Tryz.ntmps72
    go_wp2
    go_ret
    exact ⟨ret_b (by rw [H.out]; try (simp; omega)), rfl⟩
  have H := hide (dayB_yes (n := n) (by omega) (by omega))
  go_enter Tryz.func72, Tryz.ntmps72
  go_wp2
  go_ret
  exact ⟨ret_b (by rw [H.out]; try (simp; omega)), rfl⟩
theorem isLeap_any (y : Int) (w : World) (h0 : 0 ≤ y) :
    Calls Tryz.prog 150 #[.int .i64 y] w fun e w' => e = .returned (.bool (leapI y)) ∧ w' = w := by
  by_cases h4 : y % 4 = 0
  · by_cases h1 : y % 100 = 0
    · by_cases h2 : y % 400 = 0
      · have H := hide ((leap_iff y).2 ⟨h4, .inr h2⟩)
        go_enter Tryz.func150, Tryz.ntmps150
        go_wp2
        go_ret
        exact ⟨ret_b (by rw [H.out]; try (simp; omega)), rfl⟩
      · have H := hide (Bool.eq_false_iff.2 (mt (leap_iff y).1 (fun h => h.2.elim (fun e => e h1) h2)))
        go_enter Tryz.func150, Tryz.ntmps150
        go_wp2
        go_ret
        exact ⟨ret_b (by rw [H.out]; try (simp; omega)), rfl⟩
    · have H := hide ((leap_iff y).2 ⟨h4, .inl h1⟩)
      go_enter Tryz.func150, Tryz.ntmps150
      go_wp2
      go_ret
      exact ⟨ret_b (by rw [H.out]; try (simp; omega)), rfl⟩
  · have H := hide (Bool.eq_false_iff.2 (mt (leap_iff y).1 (fun h => h4 h.1)))
    have h2 : ¬ y % 400 = 0 := by omega
    go_enter Tryz.func150, Tryz.ntmps150
    go_wp2
    go_ret
    exact ⟨ret_b (by rw [H.out]; try (simp; omega)), rfl⟩
theorem refLeap_any (y : Int) (w : World) (h0 : 0 ≤ y) :
    Calls Tryz.prog 126 #[.int .i64 y] w fun e w' => e = .returned (.bool (leapI y)) ∧ w' = w := by
  by_cases h4 : y % 4 = 0
  · by_cases h1 : y % 100 = 0
    · by_cases h2 : y % 400 = 0
      · have H := hide ((leap_iff y).2 ⟨h4, .inr h2⟩)
        go_enter Tryz.func126, Tryz.ntmps126
        go_wp2
        go_ret
        exact ⟨ret_b (by rw [H.out]; try (simp; omega)), rfl⟩
      · have H := hide (Bool.eq_false_iff.2 (mt (leap_iff y).1 (fun h => h.2.elim (fun e => e h1) h2)))
        go_enter Tryz.func126, Tryz.ntmps126
        go_wp2
        go_ret
        exact ⟨ret_b (by rw [H.out]; try (simp; omega)), rfl⟩
    · have H := hide ((leap_iff y).2 ⟨h4, .inl h1⟩)
      go_enter Tryz.func126, Tryz.ntmps126
      go_wp2
      go_ret
      exact ⟨ret_b (by rw [H.out]; try (simp; omega)), rfl⟩
  · have H := hide (Bool.eq_false_iff.2 (mt (leap_iff y).1 (fun h => h4 h.1)))
    have h2 : ¬ y % 400 = 0 := by omega
    go_enter Tryz.func126, Tryz.ntmps126
    go_wp2
    go_ret
    exact ⟨ret_b (by rw [H.out]; try (simp; omega)), rfl⟩
theorem daysAhead_any (y : Int) (w : World) (h1 : 1 ≤ y) (h2 : y ≤ 20000) :
    Calls Tryz.prog 130 #[.int .i64 y] w fun e w' => e = .returned (.int .i64 (aheadY y)) ∧ w' = w := by
  have H : Hid (aheadY y = 365 * (y - 1) + (y - 1) / 4 - (y - 1) / 100 + (y - 1) / 400) := hide rfl
  go_enter Tryz.func130, Tryz.ntmps130
  go_wp2
  go_ret
  exact ⟨ret_i (by rw [H.out]), rfl⟩
end Go.Proofs.YtbaideeiljeamaaGreatDoor
namespace Go.Proofs.YtbaideeiljeamaaGreatDoor
open Go.RowKit

def mTab : List Int := [31, 28, 31, 30, 31, 30, 31, 31, 30, 31, 30, 31]
/-- The table of the months' lengths lies as it was laid. -/
def MDays (w : World) : Prop := Lib.TabIs Tryz.prog w "custody/calendar.monthDays" .i64 mTab
theorem Tryz.mdNamed : Tryz.prog.globalNamed "custody/calendar.monthDays" = some 4 := by kernel_rfl
theorem MDays.cell {w : World} (h : MDays w) (i : Nat) (hi : i < 12) : w.cell? ⟨4, i, none⟩ = some (.int .i64 (mTab.getD i 0)) := by
  have := Lib.TabIs.cell h Tryz.mdNamed i hi
  match i, hi with
  | 0, _ => exact this
  | 1, _ => exact this
  | 2, _ => exact this
  | 3, _ => exact this
  | 4, _ => exact this
  | 5, _ => exact this
  | 6, _ => exact this
  | 7, _ => exact this
  | 8, _ => exact this
  | 9, _ => exact this
  | 10, _ => exact this
  | 11, _ => exact this
theorem MDays.lt {w : World} (h : MDays w) : 4 < w.heap.size := by
  have := h.cell 0 (by omega)
  exact World.block_lt_of_cell? _ _ this
theorem MDays.below {w w' : World} (h : MDays w) (hb : Below w.heap.size w w') : MDays w' := var?_below hb Tryz.mdNamed h.lt h

theorem lengthOf_any (y m : Int) (w : World) (hM : MDays w) (h0 : 0 ≤ y) (h1 : 1 ≤ m) (h2 : m ≤ 12) :
    Calls Tryz.prog 131 #[.int .i64 y, .int .i64 m] w fun e w' => e = .returned (.int .i64 (mdays y m)) ∧ w' = w := by
  have HM := hide hM
  clear hM
  rcases months h1 h2 with rfl | rfl | rfl | rfl | rfl | rfl | rfl | rfl | rfl | rfl | rfl | rfl
  · have hc : w.cell? ⟨4, 0, none⟩ = some (.int .i64 31) := HM.out.cell 0 (by omega)
    go_enter Tryz.func131, Tryz.ntmps131
    go_wp2
    go_ret
    exact ⟨ret_i rfl, rfl⟩
  · cases hl : leapI y
    · have H : Hid (mdays y 2 = 28) := by show _ = _; unfold mdays; rw [hl]; rfl
      have hc : w.cell? ⟨4, 1, none⟩ = some (.int .i64 28) := HM.out.cell 1 (by omega)
      go_enter Tryz.func131, Tryz.ntmps131
      go_wp2_with (go_at_call 150; refine (isLeap_any y _ h0).mono ?_; rintro e w' ⟨rfl, rfl⟩; rw [hl])
      go_ret
      exact ⟨ret_i H.out.symm, rfl⟩
    · have H : Hid (mdays y 2 = 29) := by show _ = _; unfold mdays; rw [hl]; rfl
      go_enter Tryz.func131, Tryz.ntmps131
      go_wp2_with (go_at_call 150; refine (isLeap_any y _ h0).mono ?_; rintro e w' ⟨rfl, rfl⟩; rw [hl])
      go_ret
      exact ⟨ret_i H.out.symm, rfl⟩
  · have hc : w.cell? ⟨4, 2, none⟩ = some (.int .i64 31) := HM.out.cell 2 (by omega)
    go_enter Tryz.func131, Tryz.ntmps131
    go_wp2
    go_ret
    exact ⟨ret_i rfl, rfl⟩
  · have hc : w.cell? ⟨4, 3, none⟩ = some (.int .i64 30) := HM.out.cell 3 (by omega)
    go_enter Tryz.func131, Tryz.ntmps131
    go_wp2
    go_ret
    exact ⟨ret_i rfl, rfl⟩
  · have hc : w.cell? ⟨4, 4, none⟩ = some (.int .i64 31) := HM.out.cell 4 (by omega)
    go_enter Tryz.func131, Tryz.ntmps131
    go_wp2
    go_ret
    exact ⟨ret_i rfl, rfl⟩
  · have hc : w.cell? ⟨4, 5, none⟩ = some (.int .i64 30) := HM.out.cell 5 (by omega)
    go_enter Tryz.func131, Tryz.ntmps131
    go_wp2
    go_ret
    exact ⟨ret_i rfl, rfl⟩
  · have hc : w.cell? ⟨4, 6, none⟩ = some (.int .i64 31) := HM.out.cell 6 (by omega)
    go_enter Tryz.func131, Tryz.ntmps131
    go_wp2
    go_ret
    exact ⟨ret_i rfl, rfl⟩
  · have hc : w.cell? ⟨4, 7, none⟩ = some (.int .i64 31) := HM.out.cell 7 (by omega)
    go_enter Tryz.func131, Tryz.ntmps131
    go_wp2
    go_ret
    exact ⟨ret_i rfl, rfl⟩
  · have hc : w.cell? ⟨4, 8, none⟩ = some (.int .i64 30) := HM.out.cell 8 (by omega)
    go_enter Tryz.func131, Tryz.ntmps131
    go_wp2
    go_ret
    exact ⟨ret_i rfl, rfl⟩
  · have hc : w.cell? ⟨4, 9, none⟩ = some (.int .i64 31) := HM.out.cell 9 (by omega)
    go_enter Tryz.func131, Tryz.ntmps131
    go_wp2
    go_ret
    exact ⟨ret_i rfl, rfl⟩
  · have hc : w.cell? ⟨4, 10, none⟩ = some (.int .i64 30) := HM.out.cell 10 (by omega)
    go_enter Tryz.func131, Tryz.ntmps131
    go_wp2
    go_ret
    exact ⟨ret_i rfl, rfl⟩
  · have hc : w.cell? ⟨4, 11, none⟩ = some (.int .i64 31) := HM.out.cell 11 (by omega)
    go_enter Tryz.func131, Tryz.ntmps131
    go_wp2
    go_ret
    exact ⟨ret_i rfl, rfl⟩
theorem refMonthDays_any (y m : Int) (w : World) (h0 : 0 ≤ y) :
    Calls Tryz.prog 109 #[.int .i64 y, .int .i64 m] w fun e w' => e = .returned (.int .i64 (mdays y m)) ∧ w' = w := by
  by_cases h4 : m = 4
  · subst h4
    go_enter Tryz.func109, Tryz.ntmps109
    go_wp2
    go_ret
    exact ⟨ret_i rfl, rfl⟩
  by_cases h6 : m = 6
  · subst h6
    go_enter Tryz.func109, Tryz.ntmps109
    go_wp2
    go_ret
    exact ⟨ret_i rfl, rfl⟩
  by_cases h9 : m = 9
  · subst h9
    go_enter Tryz.func109, Tryz.ntmps109
    go_wp2
    go_ret
    exact ⟨ret_i rfl, rfl⟩
  by_cases h11 : m = 11
  · subst h11
    go_enter Tryz.func109, Tryz.ntmps109
    go_wp2
    go_ret
    exact ⟨ret_i rfl, rfl⟩
  by_cases hm : m = 2
  · subst hm
    cases hl : leapI y
    · have H : Hid (mdays y 2 = 28) := by show _ = _; unfold mdays; rw [hl]; rfl
      go_enter Tryz.func109, Tryz.ntmps109
      go_wp2_with (go_at_call 126; refine (refLeap_any y _ h0).mono ?_; rintro e w' ⟨rfl, rfl⟩; rw [hl])
      go_ret
      exact ⟨ret_i H.out.symm, rfl⟩
    · have H : Hid (mdays y 2 = 29) := by show _ = _; unfold mdays; rw [hl]; rfl
      go_enter Tryz.func109, Tryz.ntmps109
      go_wp2_with (go_at_call 126; refine (refLeap_any y _ h0).mono ?_; rintro e w' ⟨rfl, rfl⟩; rw [hl])
      go_ret
      exact ⟨ret_i H.out.symm, rfl⟩
  have H : Hid (mdays y m = 31) := by show _ = _; unfold mdays; rw [if_neg hm, if_neg (by omega)]
  go_enter Tryz.func109, Tryz.ntmps109
  go_wp2
  go_ret
  exact ⟨ret_i H.out.symm, rfl⟩
theorem refYearDays_any (y : Int) (w : World) (h0 : 0 ≤ y) :
    Calls Tryz.prog 108 #[.int .i64 y] w fun e w' => e = .returned (.int .i64 (ydays y)) ∧ w' = w := by
  cases hl : leapI y
  · have H : Hid (ydays y = 365) := by show _ = _; unfold ydays; rw [hl]; rfl
    go_enter Tryz.func108, Tryz.ntmps108
    go_wp2_with (go_at_call 126; refine (refLeap_any y _ h0).mono ?_; rintro e w' ⟨rfl, rfl⟩; rw [hl])
    go_ret
    exact ⟨ret_i H.out.symm, rfl⟩
  · have H : Hid (ydays y = 366) := by show _ = _; unfold ydays; rw [hl]; rfl
    go_enter Tryz.func108, Tryz.ntmps108
    go_wp2_with (go_at_call 126; refine (refLeap_any y _ h0).mono ?_; rintro e w' ⟨rfl, rfl⟩; rw [hl])
    go_ret
    exact ⟨ret_i H.out.symm, rfl⟩
/-- A date as a value. -/
def dateV (y m d : Int) : Value := .agg #[.int .i64 y, .int .i64 m, .int .i64 d]
def rightB (y m d : Int) : Bool := decide (1 ≤ y ∧ y ≤ 9999 ∧ 1 ≤ m ∧ m ≤ 12 ∧ 1 ≤ d ∧ d ≤ mdays y m)
theorem rightB_iff (y m d : Int) : rightB y m d = true ↔ RightD y m d ∧ y ≤ 9999 := by
  unfold rightB
  rw [decide_eq_true_iff]
  exact ⟨fun ⟨a, b, c, d, e, f⟩ => ⟨⟨a, c, d, e, f⟩, b⟩, fun ⟨⟨a, c, d, e, f⟩, b⟩ => ⟨a, b, c, d, e, f⟩⟩
theorem rightB_no {y m d : Int} (h : y < 1 ∨ 9999 < y ∨ m < 1 ∨ 12 < m ∨ d < 1 ∨ mdays y m < d) : rightB y m d = false := by
  unfold rightB; rw [decide_eq_false_iff_not]; omega
theorem rightB_yes {y m d : Int} (h1 : 1 ≤ y) (h2 : y ≤ 9999) (h3 : 1 ≤ m) (h4 : m ≤ 12) (h5 : 1 ≤ d) (h6 : d ≤ mdays y m) : rightB y m d = true := by
  unfold rightB; rw [decide_eq_true_iff]; exact ⟨h1, h2, h3, h4, h5, h6⟩

set_option maxHeartbeats 1000000 in
theorem isDate_any (y m d : Int) (w : World) (HM : Hid (MDays w)) :
    Calls Tryz.prog 119 #[dateV y m d] w fun e w' => e = .returned (.bool (rightB y m d)) ∧ Below w.heap.size w w' := by
  unfold dateV
  have hB := hide ((Below.refl w.heap.size w).alloc (Nat.le_refl _) (.cells #[.int .i64 y, .int .i64 m, .int .i64 d] 108))
  obtain ⟨k, HK⟩ : ∃ k, Hid (mdays y m = k) := ⟨_, hide rfl⟩
  by_cases hc : y < 1
  · have H := hide (rightB_no (y := y) (m := m) (d := d) (.inl hc))
    have hd : decide (1 ≤ y) = false := decide_eq_false (by omega)
    go_enter Tryz.func119, Tryz.ntmps119
    go_wp2
    go_quiet (first | (go_at_call 141; exact Calls.quiet_of_same (by have h := isYear_any y; rw [yearB_no (.inl hc)] at h; exact h _)) | (go_at_call 131; exact Calls.quiet_of_same (HL.out _ (HM.out.below (below_drewN hB.out _)))))
    go_wp2
    go_ret
    exact ⟨ret_b (by rw [H.out]; try (simp; omega)), below_drewN hB.out _⟩
  have c0 := Int.not_lt.1 hc
  have d0 : decide (1 ≤ y) = true := decide_eq_true (by omega)
  clear hc
  by_cases hc : 9999 < y
  · have H := hide (rightB_no (y := y) (m := m) (d := d) (.inr (.inl hc)))
    have hd : decide (y ≤ 9999) = false := decide_eq_false (by omega)
    go_enter Tryz.func119, Tryz.ntmps119
    go_wp2
    go_quiet (first | (go_at_call 141; exact Calls.quiet_of_same (by have h := isYear_any y; rw [yearB_no (.inr hc)] at h; exact h _)) | (go_at_call 131; exact Calls.quiet_of_same (HL.out _ (HM.out.below (below_drewN hB.out _)))))
    go_wp2
    go_ret
    exact ⟨ret_b (by rw [H.out]; try (simp; omega)), below_drewN hB.out _⟩
  have c1 := Int.not_lt.1 hc
  have d1 : decide (y ≤ 9999) = true := decide_eq_true (by omega)
  clear hc
  by_cases hc : m < 1
  · have H := hide (rightB_no (y := y) (m := m) (d := d) (.inr (.inr (.inl hc))))
    have hd : decide (1 ≤ m) = false := decide_eq_false (by omega)
    go_enter Tryz.func119, Tryz.ntmps119
    go_wp2
    go_quiet (first | (go_at_call 141; exact Calls.quiet_of_same (by have h := isYear_any y; rw [yearB_yes (by omega) (by omega)] at h; exact h _)) | (go_at_call 131; exact Calls.quiet_of_same (HL.out _ (HM.out.below (below_drewN hB.out _)))))
    go_wp2
    go_ret
    exact ⟨ret_b (by rw [H.out]; try (simp; omega)), below_drewN hB.out _⟩
  have c2 := Int.not_lt.1 hc
  have d2 : decide (1 ≤ m) = true := decide_eq_true (by omega)
  clear hc
  by_cases hc : 12 < m
  · have H := hide (rightB_no (y := y) (m := m) (d := d) (.inr (.inr (.inr (.inl hc)))))
    have hd : decide (m ≤ 12) = false := decide_eq_false (by omega)
    go_enter Tryz.func119, Tryz.ntmps119
    go_wp2
    go_quiet (first | (go_at_call 141; exact Calls.quiet_of_same (by have h := isYear_any y; rw [yearB_yes (by omega) (by omega)] at h; exact h _)) | (go_at_call 131; exact Calls.quiet_of_same (HL.out _ (HM.out.below (below_drewN hB.out _)))))
    go_wp2
    go_ret
    exact ⟨ret_b (by rw [H.out]; try (simp; omega)), below_drewN hB.out _⟩
  have c3 := Int.not_lt.1 hc
  have d3 : decide (m ≤ 12) = true := decide_eq_true (by omega)
  clear hc
  by_cases hc : d < 1
  · have H := hide (rightB_no (y := y) (m := m) (d := d) (.inr (.inr (.inr (.inr (.inl hc))))))
    have hd : decide (1 ≤ d) = false := decide_eq_false (by omega)
    go_enter Tryz.func119, Tryz.ntmps119
    go_wp2
    go_quiet (first | (go_at_call 141; exact Calls.quiet_of_same (by have h := isYear_any y; rw [yearB_yes (by omega) (by omega)] at h; exact h _)) | (go_at_call 131; exact Calls.quiet_of_same (HL.out _ (HM.out.below (below_drewN hB.out _)))))
    go_wp2
    go_ret
    exact ⟨ret_b (by rw [H.out]; try (simp; omega)), below_drewN hB.out _⟩
  have c4 := Int.not_lt.1 hc
  have d4 : decide (1 ≤ d) = true := decide_eq_true (by omega)
  clear hc
  have HL := hide (fun W : World => fun hM : MDays W => lengthOf_any y m W hM (by omega) (by omega) (by omega))
  rw [HK.out] at HL
  by_cases hc : k < d
  · have H := hide (rightB_no (y := y) (m := m) (d := d) (.inr (.inr (.inr (.inr (.inr (by rw [HK.out]; exact hc)))))))
    have hd : decide (d ≤ k) = false := decide_eq_false (by omega)
    go_enter Tryz.func119, Tryz.ntmps119
    go_wp2
    go_quiet (first | (go_at_call 141; exact Calls.quiet_of_same (by have h := isYear_any y; rw [yearB_yes (by omega) (by omega)] at h; exact h _)) | (go_at_call 131; exact Calls.quiet_of_same (HL.out _ (HM.out.below (below_drewN hB.out _)))))
    go_wp2
    go_ret
    exact ⟨ret_b (by rw [H.out]; try (simp; omega)), below_drewN hB.out _⟩
  have c5 := Int.not_lt.1 hc
  have d5 : decide (d ≤ k) = true := decide_eq_true (by omega)
  clear hc
  have H := hide (rightB_yes c0 c1 c2 c3 c4 (by rw [HK.out]; exact c5))
  go_enter Tryz.func119, Tryz.ntmps119
  go_wp2
  go_quiet (first | (go_at_call 141; exact Calls.quiet_of_same (by have h := isYear_any y; rw [yearB_yes (by omega) (by omega)] at h; exact h _)) | (go_at_call 131; exact Calls.quiet_of_same (HL.out _ (HM.out.below (below_drewN hB.out _)))))
  go_wp2
  go_ret
  exact ⟨ret_b (by rw [H.out]; try (simp; omega)), below_drewN hB.out _⟩
end Go.Proofs.YtbaideeiljeamaaGreatDoor
