/-
  My own text: errors as values.
-/
import Derived.Test.YtmgjonifoeeemaaErr
namespace Go.Proofs.Ytmgjonifoeeemaa
open Go.RowKit

/-- An error by its number. -/
def errV (k : Int) : Value := if k = 0 then .nilIface else .iface 40 (.int .i64 k)
theorem errV_zero : errV 0 = .nilIface := rfl
theorem errV_pos {k : Int} (h : 1 ≤ k) : errV k = .iface 40 (.int .i64 k) := by unfold errV; rw [if_neg (by omega)]
end Go.Proofs.Ytmgjonifoeeemaa
