/-
  My own text: small parts of the calendar: the program's and the document's.
-/
import Derived.Test.YtbpdjjihimplaaaDoorDMath
import Derived.Test.YtbpdjjihimplaaaDoorErr
import Derived.RegionTactic
import Derived.WalkSmall
import Derived.Deep.QuietTactic
import Derived.BigQuiet
namespace Go.Proofs.YtbpdjjihimplaaaDoor
open Go.RowKit

theorem ret_b {a b : Bool} (h : a = b) : Ending.returned (.bool a) = .returned (.bool b) := by rw [h]
theorem ret_v {a b : Value} (h : a = b) : Ending.returned a = .returned b := by rw [h]
theorem ret_i {a b : Int} (h : a = b) : Ending.returned (.int .i64 a) = .returned (.int .i64 b) := by rw [h]
def dayB (n : Int) : Bool := decide (1 ≤ n ∧ n ≤ 3652059)
def yearB (y : Int) : Bool := decide (1 ≤ y ∧ y ≤ 9999)
theorem dayB_yes {n : Int} (h1 : 1 ≤ n) (h2 : n ≤ 3652059) : dayB n = true := by unfold dayB; simp; omega
theorem dayB_no {n : Int} (h : n < 1 ∨ 3652059 < n) : dayB n = false := by unfold dayB; simp; omega
theorem yearB_yes {n : Int} (h1 : 1 ≤ n) (h2 : n ≤ 9999) : yearB n = true := by unfold yearB; simp; omega
theorem yearB_no {n : Int} (h : n < 1 ∨ 9999 < n) : yearB n = false := by unfold yearB; simp; omega

theorem isDay_any (n : Int) (w : World) :
    Calls Tryd.prog 52 #[.int .i64 n] w fun e w' => e = .returned (.bool (dayB n)) ∧ w' = w := by
  by_cases h1 : n < 1
  · have H := hide (dayB_no (.inl h1))
    go_enter Tryd.func52, Tryd.ntmps52
    go_wp2
    go_ret
    exact ⟨ret_b (by rw [H.out]; try (simp; omega)), rfl⟩
  by_cases h2 : 3652059 < n
  · have H := hide (dayB_no (.inr h2))
    go_enter Tryd.func52, Tryd.ntmps52
    go_wp2
    go_ret
    exact ⟨ret_b (by rw [H.out]; try (simp; omega)), rfl⟩
  have H := hide (dayB_yes (n := n) (by omega) (by omega))
  go_enter Tryd.func52, Tryd.ntmps52
  go_wp2
  go_ret
  exact ⟨ret_b (by rw [H.out]; try (simp; omega)), rfl⟩
theorem refIs_any (n : Int) (w : World) :
    Calls Tryd.prog 30 #[.int .i64 n] w fun e w' => e = .returned (.bool (dayB n)) ∧ w' = w := by
  by_cases h1 : n < 1
  · have H := hide (dayB_no (.inl h1))
    go_enter Tryd.func30, Tryd.ntmps30
    go_wp2
    go_ret
    exact ⟨ret_b (by rw [H.out]; try (simp; omega)), rfl⟩
  by_cases h2 : 3652059 < n
  · have H := hide (dayB_no (.inr h2))
    go_enter Tryd.func30, Tryd.ntmps30
    go_wp2
    go_ret
    exact ⟨ret_b (by rw [H.out]; try (simp; omega)), rfl⟩
  have H := hide (dayB_yes (n := n) (by omega) (by omega))
  go_enter Tryd.func30, Tryd.ntmps30
  go_wp2
  go_ret
  exact ⟨ret_b (by rw [H.out]; try (simp; omega)), rfl⟩
theorem isLeap_any (y : Int) (w : World) (h0 : 0 ≤ y) :
    Calls Tryd.prog 62 #[.int .i64 y] w fun e w' => e = .returned (.bool (leapI y)) ∧ w' = w := by
  by_cases h4 : y % 4 = 0
  · by_cases h1 : y % 100 = 0
    · by_cases h2 : y % 400 = 0
      · have H := hide ((leap_iff y).2 ⟨h4, .inr h2⟩)
        go_enter Tryd.func62, Tryd.ntmps62
        go_wp2
        go_ret
        exact ⟨ret_b (by rw [H.out]; try (simp; omega)), rfl⟩
      · have H := hide (Bool.eq_false_iff.2 (mt (leap_iff y).1 (fun h => h.2.elim (fun e => e h1) h2)))
        go_enter Tryd.func62, Tryd.ntmps62
        go_wp2
        go_ret
        exact ⟨ret_b (by rw [H.out]; try (simp; omega)), rfl⟩
    · have H := hide ((leap_iff y).2 ⟨h4, .inl h1⟩)
      go_enter Tryd.func62, Tryd.ntmps62
      go_wp2
      go_ret
      exact ⟨ret_b (by rw [H.out]; try (simp; omega)), rfl⟩
  · have H := hide (Bool.eq_false_iff.2 (mt (leap_iff y).1 (fun h => h4 h.1)))
    have h2 : ¬ y % 400 = 0 := by omega
    go_enter Tryd.func62, Tryd.ntmps62
    go_wp2
    go_ret
    exact ⟨ret_b (by rw [H.out]; try (simp; omega)), rfl⟩
theorem daysAhead_any (y : Int) (w : World) (h1 : 1 ≤ y) (h2 : y ≤ 20000) :
    Calls Tryd.prog 58 #[.int .i64 y] w fun e w' => e = .returned (.int .i64 (aheadY y)) ∧ w' = w := by
  have H : Hid (aheadY y = 365 * (y - 1) + (y - 1) / 4 - (y - 1) / 100 + (y - 1) / 400) := hide rfl
  go_enter Tryd.func58, Tryd.ntmps58
  go_wp2
  go_ret
  exact ⟨ret_i (by rw [H.out]), rfl⟩
end Go.Proofs.YtbpdjjihimplaaaDoor
