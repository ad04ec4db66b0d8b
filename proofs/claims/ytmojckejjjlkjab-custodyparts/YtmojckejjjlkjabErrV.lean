/-
  My own text: errors as values.
-/
import Derived.Test.YtmojckejjjlkjabErr
namespace Go.Proofs.Ytmojckejjjlkjab
open Go.RowKit

/-- An error by its number. -/
def errV (k : Int) : Value := if k = 0 then .nilIface else .iface 43 (.int .i64 k)
theorem errV_zero : errV 0 = .nilIface := rfl
theorem errV_pos {k : Int} (h : 1 ≤ k) : errV k = .iface 43 (.int .i64 k) := by unfold errV; rw [if_neg (by omega)]
end Go.Proofs.Ytmojckejjjlkjab
