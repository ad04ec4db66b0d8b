/-
  My own text: the library's product of two words.
-/
import Derived.Test.YtmojckejjjlkjabWide
namespace Go.Proofs.Ytmojckejjjlkjab
open Go.RowKit

theorem and32 {a : Int} (h0 : 0 ≤ a) (h1 : a < 18446744073709551616) : bits .and .u64 a 4294967295 = a % 4294967296 := by
  obtain ⟨n, rfl⟩ := Int.eq_ofNat_of_zero_le h0
  have h := bits_and_u64_nat n 4294967295 (by omega) (by omega)
  have e : n &&& 4294967295 = n % 4294967296 := Nat.and_two_pow_sub_one_eq_mod n 32
  rw [e] at h
  simpa using h
theorem ret_uu {a b c d : Int} (h : a = c) (h' : b = d) : Ending.returned (.tuple #[.int .u64 a, .int .u64 b]) = .returned (.tuple #[.int .u64 c, .int .u64 d]) := by rw [h, h']
theorem wrap_mod (x : Int) : IntKind.u64.wrap x = x % 18446744073709551616 := IntKind.wrap_u64 x

theorem mul_hi {m11 m00 m10 m01 p : Int} (_p00 : 0 ≤ m00 ∧ m00 ≤ 18446744065119617025) (_p10 : 0 ≤ m10 ∧ m10 ≤ 18446744065119617025) (_p01 : 0 ≤ m01 ∧ m01 ≤ 18446744065119617025)
    (hp : p = m11 * 18446744073709551616 + m00 + m10 * 4294967296 + m01 * 4294967296) : m11 + (m10 + m00 / 4294967296) / 4294967296 + ((m10 + m00 / 4294967296) % 4294967296 + m01) / 4294967296 = hiW p := by
  unfold hiW; omega

set_option maxHeartbeats 400000 in
theorem mul64_any (x y : Int) (w : World) (x0 : 0 ≤ x) (x1 : x < 18446744073709551616) (y0 : 0 ≤ y) (y1 : y < 18446744073709551616) :
    Calls Try.prog 21 #[.int .u64 x, .int .u64 y] w fun e w' => e = .returned (.tuple #[.int .u64 (hiW (x * y)), .int .u64 (loW (x * y))]) ∧ w' = w := by
  have p11 := half_prod (a := x / 4294967296) (b := y / 4294967296) (by omega) (by omega) (by omega) (by omega)
  have p00 := half_prod (a := x % 4294967296) (b := y % 4294967296) (by omega) (by omega) (by omega) (by omega)
  have p10 := half_prod (a := x / 4294967296) (b := y % 4294967296) (by omega) (by omega) (by omega) (by omega)
  have p01 := half_prod (a := x % 4294967296) (b := y / 4294967296) (by omega) (by omega) (by omega) (by omega)
  have Hx := hide (split_prod x y)
  have e1 := wrap_id p11.1 (by omega)
  have e2 := wrap_id p00.1 (by omega)
  have e3 := wrap_id p10.1 (by omega)
  have e4 := wrap_id p01.1 (by omega)
  have ax := and32 x0 x1
  have ay := and32 y0 y1
  have hlo : Hid (IntKind.u64.wrap (x * y) = loW (x * y)) := by unfold loW; exact wrap_mod _
  have atm := and32 (a := x / 4294967296 * (y % 4294967296) + x % 4294967296 * (y % 4294967296) / 4294967296) (by omega) (by omega)
  have Hhi := hide (mul_hi (p := x * y) p00 p10 p01 Hx.out)
  go_enter Try.func21, Try.ntmps21
  go_wp2
  go_ret2
  exact ⟨ret_uu (unhide Hhi) hlo.out, rfl⟩
end Go.Proofs.Ytmojckejjjlkjab
