/-
  My own text: products over a divisor, rounded: of the program, and of the document's answer.
-/
import Derived.Test.YtkiaphbifalegaaDoorDiv
import Derived.Test.YtkiaphbifalegaaDoorOver
import Derived.Test.YtkiaphbifalegaaDoorRow
namespace Go.Proofs.YtkiaphbifalegaaDoor
open Go.RowKit

theorem div64_any (hi lo y N : Int) (w : World) (h0 : 0 ≤ hi) (h1 : hi < y) (l0 : 0 ≤ lo) (l1 : lo < 18446744073709551616) (y1 : y < 9223372036854775808) (hN : Hid (N = hi * 18446744073709551616 + lo)) :
    Calls Tryd.prog 19 #[.int .u64 hi, .int .u64 lo, .int .u64 y] w fun e w' => e = .returned (.tuple #[.int .u64 (N / y), .int .u64 (N % y)]) ∧ Below w.heap.size w w' := by
  by_cases h : hi = 0
  · subst h
    have e : N = lo := by have := hN.out; omega
    subst e
    exact div64_zero N y w l0 l1 (by omega) y1
  · rw [hN.out]
    exact div64_big hi lo y w (by omega) h1 l0 l1 y1

end Go.Proofs.YtkiaphbifalegaaDoor
