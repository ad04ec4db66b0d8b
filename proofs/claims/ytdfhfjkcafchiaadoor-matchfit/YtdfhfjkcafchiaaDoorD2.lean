/-
  My own text: D1, D2 in one.
-/
import Derived.Test.YtdfhfjkcafchiaaDoorErr
import Derived.RegionTactic
import Derived.WalkSmall
import Derived.Deep.QuietTactic
import Derived.BigQuiet
import Derived.Lib.LaidTab
namespace Go.Proofs.YtdfhfjkcafchiaaDoor
open Go.RowKit

theorem ret_b {a b : Bool} (h : a = b) : Ending.returned (.bool a) = .returned (.bool b) := by rw [h]
theorem ret_v {a b : Value} (h : a = b) : Ending.returned a = .returned b := by rw [h]
theorem ret_i {a b : Int} (h : a = b) : Ending.returned (.int .i64 a) = .returned (.int .i64 b) := by rw [h]
def dayB (n : Int) : Bool := decide (1 ≤ n ∧ n ≤ 3652059)
def yearB (y : Int) : Bool := decide (1 ≤ y ∧ y ≤ 9999)
theorem dayB_yes {n : Int} (h1 : 1 ≤ n) (h2 : n ≤ 3652059) : dayB n = true := by unfold dayB; simp; omega
theorem dayB_no {n : Int} (h : n < 1 ∨ 3652059 < n) : dayB n = false := by unfold dayB; simp; omega
theorem yearB_yes {n : Int} (h1 : 1 ≤ n) (h2 : n ≤ 9999) : yearB n = true := by unfold yearB; simp; omega
theorem yearB_no {n : Int} (h : n < 1 ∨ 9999 < n) : yearB n = false := by unfold yearB; simp; omega

end Go.Proofs.YtdfhfjkcafchiaaDoor
namespace Go.Proofs.YtdfhfjkcafchiaaDoor
open Go.RowKit

def mTab : List Int := [31, 28, 31, 30, 31, 30, 31, 31, 30, 31, 30, 31]
/-- The table of the months' lengths lies as it was laid. -/
def MDays (w : World) : Prop := Lib.TabIs Tryd.prog w "custody/calendar.monthDays" .i64 mTab
/-- A date as a value. -/
def dateV (y m d : Int) : Value := .agg #[.int .i64 y, .int .i64 m, .int .i64 d]
def rightB (y m d : Int) : Bool := decide (1 ≤ y ∧ y ≤ 9999 ∧ 1 ≤ m ∧ m ≤ 12 ∧ 1 ≤ d ∧ d ≤ mdays y m)
theorem rightB_iff (y m d : Int) : rightB y m d = true ↔ RightD y m d ∧ y ≤ 9999 := by
  unfold rightB
  rw [decide_eq_true_iff]
  exact ⟨fun ⟨a, b, c, d, e, f⟩ => ⟨⟨a, c, d, e, f⟩, b⟩, fun ⟨⟨a, c, d, e, f⟩, b⟩ => ⟨a, b, c, d, e, f⟩⟩
theorem rightB_no {y m d : Int} (h : y < 1 ∨ 9999 < y ∨ m < 1 ∨ 12 < m ∨ d < 1 ∨ mdays y m < d) : rightB y m d = false := by
  unfold rightB; rw [decide_eq_false_iff_not]; omega
theorem rightB_yes {y m d : Int} (h1 : 1 ≤ y) (h2 : y ≤ 9999) (h3 : 1 ≤ m) (h4 : m ≤ 12) (h5 : 1 ≤ d) (h6 : d ≤ mdays y m) : rightB y m d = true := by
  unfold rightB; rw [decide_eq_true_iff]; exact ⟨h1, h2, h3, h4, h5, h6⟩

end Go.Proofs.YtdfhfjkcafchiaaDoor
