/-
  My own text: the document's answer's rounding and product over a divisor.
-/
import Derived.Test.YtijklmanhghhpaaMulDiv
import Derived.Laws.StructEq
namespace Go.Proofs.Ytijklmanhghhpaa
open Go.RowKit

theorem lo_odd (Q : Int) : loW Q % 2 = Q % 2 := by unfold loW; omega

end Go.Proofs.Ytijklmanhghhpaa
