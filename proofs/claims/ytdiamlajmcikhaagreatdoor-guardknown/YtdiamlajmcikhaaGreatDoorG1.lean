/-
  My own text: the program's small functions of layer 16.
-/
import Derived.Test.YtdiamlajmcikhaaGreatDoorGM
namespace Go.Proofs.YtdiamlajmcikhaaGreatDoor
open Go.RowKit

/-- A configuration as a value. -/
def cfV (A S q h k : Int) : Value := .agg #[.int .i64 A, .int .i64 S, .int .i64 q, .int .i64 h, .int .i64 k]
theorem errNeq (k : Int) (W : World) (v : Value) (h : v = errV k) : (binOp .neq 28 v .nilIface).run Tryz.prog W = .ok (.bool (decide (¬ k = 0))) W := by
  subst h
  unfold errV
  by_cases hk : k = 0
  · rw [if_pos hk, decide_eq_false (by simpa using hk)]; kernel_rfl
  · rw [if_neg hk, decide_eq_true hk]; kernel_rfl
theorem within_any (n a b : Int) (w : World) :
    Calls Tryz.prog 42 #[.int .i64 n, .int .i64 a, .int .i64 b] w fun e w' => e = .returned (.bool (decide (a ≤ n) && decide (n ≤ b))) ∧ w' = w := by
  cases h1 : decide (a ≤ n) <;> cases h2 : decide (n ≤ b)
  all_goals
    go_enter Tryz.func42, Tryz.ntmps42
    go_wp2_with fail
    go_ret
    exact ⟨rfl, rfl⟩
theorem hasAccount_any (A S q h k n : Int) (w : World) :
    Calls Tryz.prog 85 #[.agg #[.int .i64 A, .int .i64 S, .int .i64 q, .int .i64 h, .int .i64 k], .int .i64 n] w fun e w' => e = .returned (.bool (decide (0 ≤ n) && decide (n < A))) ∧ Below w.heap.size w w' := by
  have B0 := hide ((Below.refl w.heap.size w).alloc (Nat.le_refl _) (.cells #[.int .i64 A, .int .i64 S, .int .i64 q, .int .i64 h, .int .i64 k] 60))
  obtain ⟨x0, x1, x2, x3, x4⟩ := five_cells (alloc_new w (.cells #[.int .i64 A, .int .i64 S, .int .i64 q, .int .i64 h, .int .i64 k] 60)) rfl
  cases h1 : decide (0 ≤ n) <;> cases h2 : decide (n < A)
  all_goals
    go_enter Tryz.func85, Tryz.ntmps85
    go_wp2_with fail
    go_ret
    exact ⟨rfl, B0.out⟩
theorem hasAsset_any (A S q h k n : Int) (w : World) :
    Calls Tryz.prog 86 #[.agg #[.int .i64 A, .int .i64 S, .int .i64 q, .int .i64 h, .int .i64 k], .int .i64 n] w fun e w' => e = .returned (.bool (decide (0 ≤ n) && decide (n < S))) ∧ Below w.heap.size w w' := by
  have B0 := hide ((Below.refl w.heap.size w).alloc (Nat.le_refl _) (.cells #[.int .i64 A, .int .i64 S, .int .i64 q, .int .i64 h, .int .i64 k] 60))
  obtain ⟨x0, x1, x2, x3, x4⟩ := five_cells (alloc_new w (.cells #[.int .i64 A, .int .i64 S, .int .i64 q, .int .i64 h, .int .i64 k] 60)) rfl
  cases h1 : decide (0 ≤ n) <;> cases h2 : decide (n < S)
  all_goals
    go_enter Tryz.func86, Tryz.ntmps86
    go_wp2_with fail
    go_ret
    exact ⟨rfl, B0.out⟩
end Go.Proofs.YtdiamlajmcikhaaGreatDoor
