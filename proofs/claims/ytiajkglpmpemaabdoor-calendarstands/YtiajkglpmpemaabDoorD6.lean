/-
  My own text: the law on dates, numbers, days of the week and weeks.
-/
import Derived.Test.YtiajkglpmpemaabDoorD5
namespace Go.Proofs.YtiajkglpmpemaabDoor
open Go.RowKit

theorem numE_b (y m d : Int) : 0 ≤ numE y m d ∧ numE y m d ≤ 24 := by unfold numE; split <;> omega
theorem ofE_b (n : Int) : 0 ≤ ofE n ∧ ofE n ≤ 24 := by unfold ofE; split <;> omega
theorem ofV_parts (n : Int) : ∃ a b c, ofV n = dateV a b c := by
  unfold ofV; split
  · exact ⟨_, _, _, rfl⟩
  · exact ⟨_, _, _, rfl⟩
theorem Tryd.neqDate (a b c : Int) (w : World) : (binOp .neq 39 (.agg #[.int .i64 a, .int .i64 b, .int .i64 c]) (.agg #[.int .i64 a, .int .i64 b, .int .i64 c])).run Tryd.prog w = .ok (.bool false) w := by
  simp [go_sem]
end Go.Proofs.YtiajkglpmpemaabDoor
