/-
  My own text: the document's answer's rounding and product over a divisor.
-/
import Derived.Test.YtmojckejjjlkjabMulDiv
import Derived.Laws.StructEq
namespace Go.Proofs.Ytmojckejjjlkjab
open Go.RowKit

theorem lo_odd (Q : Int) : loW Q % 2 = Q % 2 := by unfold loW; omega

theorem mulDiv_any (a b c mode : Int) (w : World) (a1 : a ≤ 9223372036854775807) (b1 : b ≤ 9223372036854775807) (c1 : c ≤ 9223372036854775807) :
    Calls Try.prog 20 #[.int .i64 a, .int .i64 b, .int .i64 c, .int .i64 mode] w fun e w' => e = .returned (.tuple #[.int .i64 (mdV a b c mode), errV (mdE a b c mode)]) ∧ Below w.heap.size w w' := by
  by_cases h : a < 0 ∨ b < 0 ∨ c ≤ 0 ∨ mode < 0 ∨ 3 < mode
  · exact mulDiv_arg a b c mode w h
  · exact mulDiv_fit a b c mode w (by omega) a1 (by omega) b1 (by omega) c1 (by omega) (by omega)
end Go.Proofs.Ytmojckejjjlkjab
