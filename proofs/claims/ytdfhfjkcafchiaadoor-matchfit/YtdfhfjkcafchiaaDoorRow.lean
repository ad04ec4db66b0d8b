/-
  My own text: ErrV, Row in one.
-/
import Derived.Test.YtdfhfjkcafchiaaDoorErr
import Derived.Test.YtdfhfjkcafchiaaDoorRows
import Derived.Test.YtdfhfjkcafchiaaDoorTie
import Derived.Test.YtdfhfjkcafchiaaDoorCards
import Derived.ProofKit
import Derived.OpenShut
import Derived.ChangeSame
import Derived.ChangeVars
import Derived.JoinedOf
import Derived.RowKit
import Derived.RowKitTokens
import Derived.LaidLaws
import Derived.LaidHandle
import Derived.LaidMore
import Derived.SevenTiedAt
namespace Go.Proofs.YtdfhfjkcafchiaaDoor
open Go.RowKit

/-- An error by its number. -/
def errV (k : Int) : Value := if k = 0 then .nilIface else .iface 70 (.int .i64 k)
theorem errV_zero : errV 0 = .nilIface := rfl
theorem errV_pos {k : Int} (h : 1 ≤ k) : errV k = .iface 70 (.int .i64 k) := by unfold errV; rw [if_neg (by omega)]
end Go.Proofs.YtdfhfjkcafchiaaDoor
namespace Go.Proofs.YtdfhfjkcafchiaaDoor
open Go.ChangeShapes Go.WideShapes Go.RowKit

theorem Tryd.own : ownKnob Tryd.prog.godebug = none := by kernel_rfl
end Go.Proofs.YtdfhfjkcafchiaaDoor
