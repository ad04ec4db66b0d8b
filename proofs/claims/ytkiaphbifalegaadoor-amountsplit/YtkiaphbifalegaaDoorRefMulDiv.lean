/-
  My own text: the document's answer's rounding and product over a divisor.
-/
import Derived.Test.YtkiaphbifalegaaDoorMulDiv
import Derived.Laws.StructEq
namespace Go.Proofs.YtkiaphbifalegaaDoor
open Go.RowKit

theorem lo_odd (Q : Int) : loW Q % 2 = Q % 2 := by unfold loW; omega

theorem Tryd.wideGuard : Tryd.prog.eqGuardType Tryd.prog.depth 41 = false := by kernel_rfl
theorem Tryd.wideHeld : Tryd.prog.stoodInHeld 41 = false := by kernel_rfl
/-- two of them, held against each other -/
theorem wide_eql (a b c d : Int) (w : World) : (binOp .eql 41 (.agg #[.int .u64 a, .int .u64 b]) (.agg #[.int .u64 c, .int .u64 d])).run Tryd.prog w = .ok (.bool (a == c && b == d)) w := by
  have hu : Tryd.prog.underlying 41 = some (.struct (Tryd.prog.fieldsOf 41)) := by simp [Program.fieldsOf, Tryd.underlying41]
  rw [run_eql_struct, run_equalIn_struct w 9999 _ _ _ hu Tryd.wideHeld]
  cases h1 : (a == c) <;> cases h2 : (b == d) <;> simp [Program.fieldsOf, Tryd.underlying41, Op.eqFields, go_sem, h1, h2]

end Go.Proofs.YtkiaphbifalegaaDoor
