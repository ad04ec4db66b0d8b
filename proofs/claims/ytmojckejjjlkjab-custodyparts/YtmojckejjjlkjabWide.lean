/-
  My own text: whole numbers of two words: the document's answer's Less, Plus, Minus, Times.
-/
import Derived.Test.YtmojckejjjlkjabErr
import Derived.Laws.Bits64b
namespace Go.Proofs.Ytmojckejjjlkjab
open Go.RowKit

def hiW (n : Int) : Int := n / 18446744073709551616
def loW (n : Int) : Int := n % 18446744073709551616
theorem hl (n : Int) : hiW n * 18446744073709551616 + loW n = n ∧ 0 ≤ loW n ∧ loW n < 18446744073709551616 := by unfold hiW loW; omega
theorem hi_nn {n : Int} (h : 0 ≤ n) : 0 ≤ hiW n := by unfold hiW; omega
theorem hi_of {n h l : Int} (e : n = h * 18446744073709551616 + l) (l0 : 0 ≤ l) (l1 : l < 18446744073709551616) : hiW n = h := by unfold hiW; omega
theorem lo_of {n h l : Int} (e : n = h * 18446744073709551616 + l) (l0 : 0 ≤ l) (l1 : l < 18446744073709551616) : loW n = l := by unfold loW; omega
theorem ret_wide {a b c d : Int} (h : a = c) (h' : b = d) : Ending.returned (.agg #[.int .u64 a, .int .u64 b]) = .returned (.agg #[.int .u64 c, .int .u64 d]) := by rw [h, h']
theorem ret_bool {a b : Bool} (h : a = b) : Ending.returned (.bool a) = .returned (.bool b) := by rw [h]
theorem wrap_over {x : Int} (h : 18446744073709551616 ≤ x) (h2 : x < 36893488147419103232) : IntKind.u64.wrap x = x - 18446744073709551616 := by rw [IntKind.wrap_u64]; omega
theorem wrap_neg {x : Int} (h : x < 0) (h2 : -18446744073709551616 ≤ x) : IntKind.u64.wrap x = x + 18446744073709551616 := by rw [IntKind.wrap_u64]; omega
theorem wrap_id {x : Int} (h : 0 ≤ x) (h2 : x < 18446744073709551616) : IntKind.u64.wrap x = x := by rw [IntKind.wrap_u64]; omega

theorem half_prod {a b : Int} (a0 : 0 ≤ a) (a1 : a ≤ 4294967295) (b0 : 0 ≤ b) (b1 : b ≤ 4294967295) : 0 ≤ a * b ∧ a * b ≤ 18446744065119617025 := by
  have h1 : 0 ≤ a * b := Int.mul_nonneg a0 b0
  have h2 : a * b ≤ 4294967295 * b := Int.mul_le_mul_of_nonneg_right a1 b0
  omega
theorem split_mul (a b c d : Int) : (4294967296 * a + b) * (4294967296 * c + d) = a * c * 18446744073709551616 + b * d + a * d * 4294967296 + b * c * 4294967296 := by
  have h1 : (4294967296 * a) * (4294967296 * c) = a * c * 18446744073709551616 := by
    rw [Int.mul_assoc, Int.mul_left_comm a, ← Int.mul_assoc, Int.mul_comm]; omega
  have h2 : (4294967296 * a) * d = a * d * 4294967296 := by rw [Int.mul_assoc, Int.mul_comm]
  have h3 : b * (4294967296 * c) = b * c * 4294967296 := by rw [Int.mul_left_comm, Int.mul_comm]
  rw [Int.add_mul, Int.mul_add, Int.mul_add, h1, h2, h3]; omega
theorem split_prod (x y : Int) : x * y = x / 4294967296 * (y / 4294967296) * 18446744073709551616 + x % 4294967296 * (y % 4294967296) + x / 4294967296 * (y % 4294967296) * 4294967296 + x % 4294967296 * (y / 4294967296) * 4294967296 := by
  rw [← split_mul, Int.mul_ediv_add_emod, Int.mul_ediv_add_emod]
theorem wrap_shl (m : Int) : IntKind.u64.wrap (m * 4294967296) = m % 4294967296 * 4294967296 := by rw [IntKind.wrap_u64]; omega

end Go.Proofs.Ytmojckejjjlkjab
