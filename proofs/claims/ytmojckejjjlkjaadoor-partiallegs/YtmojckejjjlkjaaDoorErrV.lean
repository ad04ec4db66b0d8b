/-
  My own text: errors as values.
-/
import Derived.Test.YtmojckejjjlkjaaDoorErr
namespace Go.Proofs.YtmojckejjjlkjaaDoor
open Go.RowKit

/-- An error by its number. -/
def errV (k : Int) : Value := if k = 0 then .nilIface else .iface 64 (.int .i64 k)
theorem errV_zero : errV 0 = .nilIface := rfl
theorem errV_pos {k : Int} (h : 1 ≤ k) : errV k = .iface 64 (.int .i64 k) := by unfold errV; rw [if_neg (by omega)]
theorem plain_errV (k n : Int) (w : World) (h1 : 0 ≤ k) (h2 : k ≤ 24) (hE : ErrType w) :
    Calls Tryd.prog 11 #[errV k, .int .i64 n] w fun e w' => e = .returned (.bool (k == n)) ∧ Below w.heap.size w w' := by
  by_cases h : k = 0
  · subst h; rw [errV_zero]; exact plain_nil n w
  · rw [errV_pos (by omega)]; exact plain_errno k n w (by omega) h2 hE
end Go.Proofs.YtmojckejjjlkjaaDoor
