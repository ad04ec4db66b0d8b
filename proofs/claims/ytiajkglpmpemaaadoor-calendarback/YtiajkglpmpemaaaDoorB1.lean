/-
  My own text: right dates and earlier ones, as the law on there and back asks them.
-/
import Derived.Test.YtiajkglpmpemaaaDoorW1
namespace Go.Proofs.YtiajkglpmpemaaaDoor
open Go.RowKit

set_option maxRecDepth 100000 in
set_option maxHeartbeats 4000000 in
theorem right_any (y m d : Int) (w : World) :
    Calls Tryd.prog 29 #[dateV y m d] w fun e w' => e = .returned (.bool (rightB y m d)) ∧ Below w.heap.size w w' := by
  unfold dateV
  have hB : Hid (Below w.heap.size w (w.alloc (.cells #[.int .i64 y, .int .i64 m, .int .i64 d] 23))) := hide (below_date w y m d)
  by_cases hc : y < 1
  · have H := hide (rightB_no (y := y) (m := m) (d := d) (.inl hc))
    go_enter Tryd.func29, Tryd.ntmps29
    go_wp2
    go_ret
    exact ⟨ret_b (by rw [H.out]; try (simp; omega)), hB.out⟩
  have c0 := hc
  clear hc
  by_cases hc : 9999 < y
  · have H := hide (rightB_no (y := y) (m := m) (d := d) (.inr (.inl hc)))
    go_enter Tryd.func29, Tryd.ntmps29
    go_wp2
    go_ret
    exact ⟨ret_b (by rw [H.out]; try (simp; omega)), hB.out⟩
  have c1 := hc
  clear hc
  by_cases hc : m < 1
  · have H := hide (rightB_no (y := y) (m := m) (d := d) (.inr (.inr (.inl hc))))
    go_enter Tryd.func29, Tryd.ntmps29
    go_wp2
    go_ret
    exact ⟨ret_b (by rw [H.out]; try (simp; omega)), hB.out⟩
  have c2 := hc
  clear hc
  by_cases hc : 12 < m
  · have H := hide (rightB_no (y := y) (m := m) (d := d) (.inr (.inr (.inr (.inl hc)))))
    go_enter Tryd.func29, Tryd.ntmps29
    go_wp2
    go_ret
    exact ⟨ret_b (by rw [H.out]; try (simp; omega)), hB.out⟩
  have c3 := hc
  clear hc
  by_cases hc : d < 1
  · have H := hide (rightB_no (y := y) (m := m) (d := d) (.inr (.inr (.inr (.inr (.inl hc))))))
    go_enter Tryd.func29, Tryd.ntmps29
    go_wp2
    go_ret
    exact ⟨ret_b (by rw [H.out]; try (simp; omega)), hB.out⟩
  have c4 := hc
  clear hc
  by_cases hc : 31 < d
  · have H := hide (rightB_no (y := y) (m := m) (d := d) (.inr (.inr (.inr (.inr (.inr (by have := mdays_b y m; omega)))))))
    go_enter Tryd.func29, Tryd.ntmps29
    go_wp2
    go_ret
    exact ⟨ret_b (by rw [H.out]; try (simp; omega)), hB.out⟩
  have c5 := hc
  clear hc
  by_cases m4 : m = 4
  · subst m4
    by_cases d30 : d ≤ 30
    · have H := hide (rightB_yes (y := y) (m := 4) (d := d) (by omega) (by omega) (by omega) (by omega) (by omega) (show d ≤ 30 from d30))
      go_enter Tryd.func29, Tryd.ntmps29
      go_wp2
      go_ret
      exact ⟨ret_b (by rw [H.out]; try (simp; omega)), hB.out⟩
    · have H := hide (rightB_no (y := y) (m := 4) (d := d) (.inr (.inr (.inr (.inr (.inr (show (30 : Int) < d by omega)))))))
      go_enter Tryd.func29, Tryd.ntmps29
      go_wp2
      go_ret
      exact ⟨ret_b (by rw [H.out]; try (simp; omega)), hB.out⟩
  have m4b : (m == 4) = false := by simpa using m4
  by_cases m6 : m = 6
  · subst m6
    by_cases d30 : d ≤ 30
    · have H := hide (rightB_yes (y := y) (m := 6) (d := d) (by omega) (by omega) (by omega) (by omega) (by omega) (show d ≤ 30 from d30))
      go_enter Tryd.func29, Tryd.ntmps29
      go_wp2
      go_ret
      exact ⟨ret_b (by rw [H.out]; try (simp; omega)), hB.out⟩
    · have H := hide (rightB_no (y := y) (m := 6) (d := d) (.inr (.inr (.inr (.inr (.inr (show (30 : Int) < d by omega)))))))
      go_enter Tryd.func29, Tryd.ntmps29
      go_wp2
      go_ret
      exact ⟨ret_b (by rw [H.out]; try (simp; omega)), hB.out⟩
  have m6b : (m == 6) = false := by simpa using m6
  by_cases m9 : m = 9
  · subst m9
    by_cases d30 : d ≤ 30
    · have H := hide (rightB_yes (y := y) (m := 9) (d := d) (by omega) (by omega) (by omega) (by omega) (by omega) (show d ≤ 30 from d30))
      go_enter Tryd.func29, Tryd.ntmps29
      go_wp2
      go_ret
      exact ⟨ret_b (by rw [H.out]; try (simp; omega)), hB.out⟩
    · have H := hide (rightB_no (y := y) (m := 9) (d := d) (.inr (.inr (.inr (.inr (.inr (show (30 : Int) < d by omega)))))))
      go_enter Tryd.func29, Tryd.ntmps29
      go_wp2
      go_ret
      exact ⟨ret_b (by rw [H.out]; try (simp; omega)), hB.out⟩
  have m9b : (m == 9) = false := by simpa using m9
  by_cases m11 : m = 11
  · subst m11
    by_cases d30 : d ≤ 30
    · have H := hide (rightB_yes (y := y) (m := 11) (d := d) (by omega) (by omega) (by omega) (by omega) (by omega) (show d ≤ 30 from d30))
      go_enter Tryd.func29, Tryd.ntmps29
      go_wp2
      go_ret
      exact ⟨ret_b (by rw [H.out]; try (simp; omega)), hB.out⟩
    · have H := hide (rightB_no (y := y) (m := 11) (d := d) (.inr (.inr (.inr (.inr (.inr (show (30 : Int) < d by omega)))))))
      go_enter Tryd.func29, Tryd.ntmps29
      go_wp2
      go_ret
      exact ⟨ret_b (by rw [H.out]; try (simp; omega)), hB.out⟩
  have m11b : (m == 11) = false := by simpa using m11
  by_cases m2 : m = 2
  · subst m2
    clear m4 m6 m9 m11 m4b m6b m9b m11b
    by_cases q4 : y % 4 = 0
    · by_cases q1 : y % 100 = 0
      · by_cases q2 : y % 400 = 0
        · have HLP := hide ((leap_iff y).2 ⟨q4, .inr q2⟩)
          have HMD := hide (show mdays y 2 = 29 by unfold mdays; rw [if_pos rfl, HLP.out]; rfl)
          by_cases d28 : d ≤ 28
          · have H := hide (rightB_yes (y := y) (m := 2) (d := d) (by omega) (by omega) (by omega) (by omega) (by omega) (by rw [HMD.out]; omega))
            go_enter Tryd.func29, Tryd.ntmps29
            go_wp2
            go_ret
            exact ⟨ret_b (by rw [H.out]; try (simp; omega)), hB.out⟩
          have d28b : decide (d ≤ 28) = false := decide_eq_false d28
          by_cases d29 : d = 29
          · subst d29
            have H : Hid (rightB y 2 29 = true) := by
              exact hide (rightB_yes (by omega) (by omega) (by omega) (by omega) (by omega) (by rw [HMD.out]; omega))
            go_enter Tryd.func29, Tryd.ntmps29
            go_wp2
            go_ret
            exact ⟨ret_b (by rw [H.out]; try (simp; omega)), hB.out⟩
          have d29b : (d == 29) = false := by simpa using d29
          have H := hide (rightB_no (y := y) (m := 2) (d := d) (.inr (.inr (.inr (.inr (.inr (by rw [HMD.out]; omega)))))))
          go_enter Tryd.func29, Tryd.ntmps29
          go_wp2
          go_ret
          exact ⟨ret_b (by rw [H.out]; try (simp; omega)), hB.out⟩
        · have HLP := hide (Bool.eq_false_iff.2 (mt (leap_iff y).1 (fun h => h.2.elim (fun e => e q1) q2)))
          have HMD := hide (show mdays y 2 = 28 by unfold mdays; rw [if_pos rfl, HLP.out]; rfl)
          by_cases d28 : d ≤ 28
          · have H := hide (rightB_yes (y := y) (m := 2) (d := d) (by omega) (by omega) (by omega) (by omega) (by omega) (by rw [HMD.out]; omega))
            go_enter Tryd.func29, Tryd.ntmps29
            go_wp2
            go_ret
            exact ⟨ret_b (by rw [H.out]; try (simp; omega)), hB.out⟩
          have d28b : decide (d ≤ 28) = false := decide_eq_false d28
          by_cases d29 : d = 29
          · subst d29
            have H : Hid (rightB y 2 29 = false) := by
              exact hide (rightB_no (.inr (.inr (.inr (.inr (.inr (by rw [HMD.out]; omega)))))))
            go_enter Tryd.func29, Tryd.ntmps29
            go_wp2
            go_ret
            exact ⟨ret_b (by rw [H.out]; try (simp; omega)), hB.out⟩
          have d29b : (d == 29) = false := by simpa using d29
          have H := hide (rightB_no (y := y) (m := 2) (d := d) (.inr (.inr (.inr (.inr (.inr (by rw [HMD.out]; omega)))))))
          go_enter Tryd.func29, Tryd.ntmps29
          go_wp2
          go_ret
          exact ⟨ret_b (by rw [H.out]; try (simp; omega)), hB.out⟩
      · have HLP := hide ((leap_iff y).2 ⟨q4, .inl q1⟩)
        have HMD := hide (show mdays y 2 = 29 by unfold mdays; rw [if_pos rfl, HLP.out]; rfl)
        by_cases d28 : d ≤ 28
        · have H := hide (rightB_yes (y := y) (m := 2) (d := d) (by omega) (by omega) (by omega) (by omega) (by omega) (by rw [HMD.out]; omega))
          go_enter Tryd.func29, Tryd.ntmps29
          go_wp2
          go_ret
          exact ⟨ret_b (by rw [H.out]; try (simp; omega)), hB.out⟩
        have d28b : decide (d ≤ 28) = false := decide_eq_false d28
        by_cases d29 : d = 29
        · subst d29
          have H : Hid (rightB y 2 29 = true) := by
            exact hide (rightB_yes (by omega) (by omega) (by omega) (by omega) (by omega) (by rw [HMD.out]; omega))
          go_enter Tryd.func29, Tryd.ntmps29
          go_wp2
          go_ret
          exact ⟨ret_b (by rw [H.out]; try (simp; omega)), hB.out⟩
        have d29b : (d == 29) = false := by simpa using d29
        have H := hide (rightB_no (y := y) (m := 2) (d := d) (.inr (.inr (.inr (.inr (.inr (by rw [HMD.out]; omega)))))))
        go_enter Tryd.func29, Tryd.ntmps29
        go_wp2
        go_ret
        exact ⟨ret_b (by rw [H.out]; try (simp; omega)), hB.out⟩
    · have HLP := hide (Bool.eq_false_iff.2 (mt (leap_iff y).1 (fun h => q4 h.1)))
      have HMD := hide (show mdays y 2 = 28 by unfold mdays; rw [if_pos rfl, HLP.out]; rfl)
      by_cases d28 : d ≤ 28
      · have H := hide (rightB_yes (y := y) (m := 2) (d := d) (by omega) (by omega) (by omega) (by omega) (by omega) (by rw [HMD.out]; omega))
        go_enter Tryd.func29, Tryd.ntmps29
        go_wp2
        go_ret
        exact ⟨ret_b (by rw [H.out]; try (simp; omega)), hB.out⟩
      have d28b : decide (d ≤ 28) = false := decide_eq_false d28
      by_cases d29 : d = 29
      · subst d29
        have H : Hid (rightB y 2 29 = false) := by
          exact hide (rightB_no (.inr (.inr (.inr (.inr (.inr (by rw [HMD.out]; omega)))))))
        go_enter Tryd.func29, Tryd.ntmps29
        go_wp2
        go_ret
        exact ⟨ret_b (by rw [H.out]; try (simp; omega)), hB.out⟩
      have d29b : (d == 29) = false := by simpa using d29
      have H := hide (rightB_no (y := y) (m := 2) (d := d) (.inr (.inr (.inr (.inr (.inr (by rw [HMD.out]; omega)))))))
      go_enter Tryd.func29, Tryd.ntmps29
      go_wp2
      go_ret
      exact ⟨ret_b (by rw [H.out]; try (simp; omega)), hB.out⟩
  have m2b : (m != 2) = true := by simpa using m2
  by_cases q4 : y % 4 = 0
  · by_cases q1 : y % 100 = 0
    · by_cases q2 : y % 400 = 0
      · have HLP := hide ((leap_iff y).2 ⟨q4, .inr q2⟩)
        have HMD := hide (show mdays y m = 31 by unfold mdays; rw [if_neg m2, if_neg (by omega)])
        have H := hide (rightB_yes (y := y) (m := m) (d := d) (by omega) (by omega) (by omega) (by omega) (by omega) (by rw [HMD.out]; omega))
        go_enter Tryd.func29, Tryd.ntmps29
        go_wp2
        go_ret
        exact ⟨ret_b (by rw [H.out]; try (simp; omega)), hB.out⟩
      · have HLP := hide (Bool.eq_false_iff.2 (mt (leap_iff y).1 (fun h => h.2.elim (fun e => e q1) q2)))
        have HMD := hide (show mdays y m = 31 by unfold mdays; rw [if_neg m2, if_neg (by omega)])
        have H := hide (rightB_yes (y := y) (m := m) (d := d) (by omega) (by omega) (by omega) (by omega) (by omega) (by rw [HMD.out]; omega))
        go_enter Tryd.func29, Tryd.ntmps29
        go_wp2
        go_ret
        exact ⟨ret_b (by rw [H.out]; try (simp; omega)), hB.out⟩
    · have HLP := hide ((leap_iff y).2 ⟨q4, .inl q1⟩)
      have HMD := hide (show mdays y m = 31 by unfold mdays; rw [if_neg m2, if_neg (by omega)])
      have H := hide (rightB_yes (y := y) (m := m) (d := d) (by omega) (by omega) (by omega) (by omega) (by omega) (by rw [HMD.out]; omega))
      go_enter Tryd.func29, Tryd.ntmps29
      go_wp2
      go_ret
      exact ⟨ret_b (by rw [H.out]; try (simp; omega)), hB.out⟩
  · have HLP := hide (Bool.eq_false_iff.2 (mt (leap_iff y).1 (fun h => q4 h.1)))
    have HMD := hide (show mdays y m = 31 by unfold mdays; rw [if_neg m2, if_neg (by omega)])
    have H := hide (rightB_yes (y := y) (m := m) (d := d) (by omega) (by omega) (by omega) (by omega) (by omega) (by rw [HMD.out]; omega))
    go_enter Tryd.func29, Tryd.ntmps29
    go_wp2
    go_ret
    exact ⟨ret_b (by rw [H.out]; try (simp; omega)), hB.out⟩
def aheadB (y m d y' m' d' : Int) : Bool := decide (y < y' ∨ y = y' ∧ (m < m' ∨ m = m' ∧ d < d'))
theorem aheadB_num {y m d y' m' d' : Int} (h : RightD y m d) (h' : RightD y' m' d') : aheadB y m d y' m' d' = decide (numI y m d < numI y' m' d') := by
  unfold aheadB
  by_cases q : numI y m d < numI y' m' d'
  · rw [decide_eq_true q, decide_eq_true]
    rcases num_lt h h' q with a | ⟨a, b⟩ | ⟨a, b, c⟩
    · exact .inl a
    · exact .inr ⟨a, .inl b⟩
    · exact .inr ⟨a, .inr ⟨b, c⟩⟩
  · rw [decide_eq_false q, decide_eq_false]
    rintro (a | ⟨rfl, a | ⟨rfl, a⟩⟩)
    · exact q (num_lt_year h h' a)
    · exact q (num_lt_month h h' a)
    · exact q (by unfold numI; omega)
set_option maxRecDepth 100000 in
set_option maxHeartbeats 1000000 in
theorem ahead_any (y m d y' m' d' : Int) (w : World) :
    Calls Tryd.prog 30 #[dateV y m d, dateV y' m' d'] w fun e w' => e = .returned (.bool (aheadB y m d y' m' d')) ∧ Below w.heap.size w w' := by
  unfold dateV
  have hB : Hid (Below w.heap.size w ((w.alloc (.cells #[.int .i64 y, .int .i64 m, .int .i64 d] 23)).alloc (.cells #[.int .i64 y', .int .i64 m', .int .i64 d'] 23))) := hide (below_dates w y m d y' m' d')
  by_cases hy : y = y'
  · subst hy
    by_cases hm : m = m'
    · subst hm
      have H : Hid (aheadB y m d y m d' = decide (d < d')) := by show _ = _; unfold aheadB; simp
      go_enter Tryd.func30, Tryd.ntmps30
      go_wp2
      go_ret
      exact ⟨ret_b H.out.symm, hB.out⟩
    · have H : Hid (aheadB y m d y m' d' = decide (m < m')) := by show _ = _; unfold aheadB; simp [hm]
      have q : (m != m') = true := by simpa using hm
      go_enter Tryd.func30, Tryd.ntmps30
      go_wp2
      go_ret
      exact ⟨ret_b H.out.symm, hB.out⟩
  · have H : Hid (aheadB y m d y' m' d' = decide (y < y')) := by show _ = _; unfold aheadB; simp [hy]
    have q : (y != y') = true := by simpa using hy
    go_enter Tryd.func30, Tryd.ntmps30
    go_wp2
    go_ret
    exact ⟨ret_b H.out.symm, hB.out⟩
end Go.Proofs.YtiajkglpmpemaaaDoor
