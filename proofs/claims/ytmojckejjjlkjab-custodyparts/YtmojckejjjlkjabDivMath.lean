/-
  My own text: plain mathematics: a quotient of two words by one, digit by digit (Knuth's algorithm D with two digits).
-/
import Derived.Lib.BitFns
import Derived.Lib.ItoaNum
namespace Go.Proofs.Ytmojckejjjlkjab

/-- u, then the digit d, over v = v1 B + v0 (normalised): B = 2^32. -/
structure Digit (u v v1 v0 d : Int) : Prop where
  hv : v = v1 * 4294967296 + v0
  v0n : 0 ≤ v0
  v0b : v0 < 4294967296
  v1n : 2147483648 ≤ v1
  v1b : v1 < 4294967296
  un : 0 ≤ u
  uv : u < v
  dn : 0 ≤ d
  db : d < 4294967296
/-- What holds of a guess q and its rest r. -/
structure Guess (u v v1 v0 d q r : Int) : Prop where
  g : Digit u v v1 v0 d
  qn : 0 ≤ q
  qb : q ≤ 4294967297
  rn : 0 ≤ r
  rb : r < 4294967296
  e : q * v1 + r = u
  up : u * 4294967296 + d < q * v + v
theorem Digit.start {u v v1 v0 d : Int} (g : Digit u v v1 v0 d) : Guess u v v1 v0 d (u / v1) (u % v1) := by
  have h1 := g.v1n
  have e1 : u / v1 * v1 + u % v1 = u := Int.ediv_mul_add_emod u v1
  have r0 := Int.emod_nonneg u (show v1 ≠ 0 by omega)
  have r1 := Int.emod_lt_of_pos u (show 0 < v1 by omega)
  have q0 : 0 ≤ u / v1 := Int.ediv_nonneg g.un (by omega)
  have h2 := g.hv; have h3 := g.uv; have h4 := g.v0b; have h5 := g.v1b; have h6 := g.db; have h7 := g.v0n
  have qb : u / v1 < 4294967298 := Int.ediv_lt_of_lt_mul (by omega) (by omega)
  refine ⟨g, q0, by omega, r0, by omega, e1, ?_⟩
  have hq : u / v1 * v = u / v1 * v1 * 4294967296 + u / v1 * v0 := by rw [h2, Int.mul_add, Int.mul_assoc]
  have hq0 : 0 ≤ u / v1 * v0 := Int.mul_nonneg q0 h7
  rw [hq]; omega
/-- The test, where the guess is within a word's half. -/
theorem Guess.test {u v v1 v0 d q r : Int} (g : Guess u v v1 v0 d q r) : q * v0 ≤ 4294967296 * r + d ↔ q * v ≤ u * 4294967296 + d := by
  have hq : q * v = q * v1 * 4294967296 + q * v0 := by rw [g.g.hv, Int.mul_add, Int.mul_assoc]
  have := g.e
  omega
theorem Guess.down {u v v1 v0 d q r : Int} (g : Guess u v v1 v0 d q r) (h : 4294967296 ≤ q ∨ 4294967296 * r + d < q * v0) :
    1 ≤ q ∧ u * 4294967296 + d < (q - 1) * v + v ∧ (q - 1) * v1 + (r + v1) = u := by
  have hv := g.g.uv; have hd := g.g.db; have hd0 := g.g.dn; have hr := g.rn; have hv1 := g.g.v1n; have hv0 := g.g.v0n; have he := g.g.hv
  have e1 : (q - 1) * v + v = q * v := by rw [Int.sub_mul, Int.one_mul]; omega
  have e2 : (q - 1) * v1 + (r + v1) = u := by rw [Int.sub_mul, Int.one_mul]; have := g.e; omega
  have q1 : 1 ≤ q := by
    rcases h with h | h
    · omega
    · have : q ≠ 0 := by intro e; subst e; simp at h; omega
      have := g.qn; omega
  refine ⟨q1, ?_, e2⟩
  rw [e1]
  rcases h with h | h
  · have h1 : 4294967296 * v ≤ q * v := Int.mul_le_mul_of_nonneg_right h (by omega)
    omega
  · have := g.test; omega
theorem Guess.next {u v v1 v0 d q r : Int} (g : Guess u v v1 v0 d q r) (h : 4294967296 ≤ q ∨ 4294967296 * r + d < q * v0) (hr : r + v1 < 4294967296) :
    Guess u v v1 v0 d (q - 1) (r + v1) := by
  obtain ⟨a, b, c⟩ := g.down h
  exact ⟨g.g, by omega, by have := g.qb; omega, by have := g.rn; have := g.g.v1n; omega, hr, c, b⟩
/-- The digit is found: at a test that says no. -/
theorem Guess.found {u v v1 v0 d q r : Int} (g : Guess u v v1 v0 d q r) (h : q * v0 ≤ 4294967296 * r + d) :
    q * v ≤ u * 4294967296 + d ∧ u * 4294967296 + d < q * v + v := ⟨g.test.1 h, g.up⟩
/-- .. or where the rest leaves the word's half. -/
theorem Guess.broke {u v v1 v0 d q r : Int} (g : Guess u v v1 v0 d q r) (h : 4294967296 ≤ q ∨ 4294967296 * r + d < q * v0) (hr : 4294967296 ≤ r + v1) :
    (q - 1) * v ≤ u * 4294967296 + d ∧ u * 4294967296 + d < (q - 1) * v + v := by
  obtain ⟨a, b, c⟩ := g.down h
  refine ⟨?_, b⟩
  have hq : (q - 1) * v = (q - 1) * v1 * 4294967296 + (q - 1) * v0 := by rw [g.g.hv, Int.mul_add, Int.mul_assoc]
  have h1 : (q - 1) * v0 ≤ 4294967296 * v0 := Int.mul_le_mul_of_nonneg_right (by have := g.qb; omega) g.g.v0n
  have := g.g.v0b; have := g.g.dn
  omega
/-- A found digit is below B. -/
theorem digit_lt {u v v1 v0 d q : Int} (g : Digit u v v1 v0 d) (h : q * v ≤ u * 4294967296 + d) : q < 4294967296 := by
  have hv := g.uv; have hd := g.db; have hn := g.un
  rcases Int.lt_or_le q 4294967296 with h1 | h1
  · exact h1
  · have := Int.mul_le_mul_of_nonneg_right h1 (show 0 ≤ v by omega)
    omega
/-- Both digits, taken back: P the power by which all was raised. -/
theorem divide_back {N y P V Z q1 q0 u u2 rr z1 z0 : Int} (hV : y * P = V) (hP : 0 < P) (hy : 0 < y) (hN : N * P = u * 18446744073709551616 + Z) (hZ : Z = z1 * 4294967296 + z0)
    (h1 : u2 = u * 4294967296 + z1 - q1 * V) (h0 : rr = u2 * 4294967296 + z0 - q0 * V) (r0 : 0 ≤ rr) (r1 : rr < V) :
    q1 * 4294967296 + q0 = N / y ∧ rr / P = N % y := by
  subst hV
  have e1 : (q1 * 4294967296 + q0) * (y * P) = q1 * (y * P) * 4294967296 + q0 * (y * P) := by rw [Int.add_mul, Int.mul_right_comm]
  have e2 : rr = (N - (q1 * 4294967296 + q0) * y) * P := by rw [Int.sub_mul, Int.mul_assoc (q1 * 4294967296 + q0), e1]; omega
  generalize q1 * 4294967296 + q0 = q at *
  have hlt : N - q * y < y := by
    rcases Int.lt_or_le (N - q * y) y with h | h
    · exact h
    · have := Int.mul_le_mul_of_nonneg_right h (show 0 ≤ P by omega); omega
  have hge : 0 ≤ N - q * y := by
    rcases Int.lt_or_le (N - q * y) 0 with h | h
    · have := Int.mul_lt_mul_of_pos_right h hP; omega
    · exact h
  have hu := (Int.ediv_emod_unique hy (a := N) (r := N - q * y) (q := q)).2 ⟨by rw [Int.mul_comm y q]; omega, hge, hlt⟩
  refine ⟨hu.1.symm, ?_⟩
  rw [e2, Int.mul_ediv_cancel _ (by omega), hu.2]

/-- How far a word is raised. -/
def lzI (y : Int) : Int := 64 - (Lib.bitLen y.toNat : Int)
theorem lz_bounds {y : Int} (h0 : 0 < y) (h1 : y < 9223372036854775808) : 1 ≤ lzI y ∧ lzI y ≤ 63 ∧ 9223372036854775808 ≤ y * 2 ^ (lzI y).toNat ∧ y * 2 ^ (lzI y).toNat < 18446744073709551616 := by
  have hb := Lib.bitLenAux_bounds 64 y.toNat (by omega) (by omega)
  have hle := Lib.bitLen_le y.toNat 63 (by omega) (by omega)
  obtain ⟨n, rfl⟩ := Int.eq_ofNat_of_zero_le (show 0 ≤ y by omega)
  unfold lzI
  rw [Int.toNat_natCast] at *
  unfold Lib.bitLen at *
  generalize Lib.bitLenAux 64 n = L at *
  obtain ⟨l1, l2, l3⟩ := hb
  have ht : (64 - (L : Int)).toNat = 64 - L := by omega
  rw [ht]
  have p1 : 2 ^ (L - 1) * 2 ^ (64 - L) = 9223372036854775808 := by rw [← Nat.pow_add, show L - 1 + (64 - L) = 63 from by omega]
  have p2 : 2 ^ L * 2 ^ (64 - L) = 18446744073709551616 := by rw [← Nat.pow_add, show L + (64 - L) = 64 from by omega]
  have a1 := Nat.mul_le_mul_right (2 ^ (64 - L)) l2
  have a2 := Nat.mul_lt_mul_of_pos_right l3 (show 0 < 2 ^ (64 - L) from Nat.pow_pos (by omega))
  rw [p1] at a1
  rw [p2] at a2
  have hc : ((n : Int) * 2 ^ (64 - L)) = ((n * 2 ^ (64 - L) : Nat) : Int) := by simp
  rw [hc]
  refine ⟨by omega, by omega, by omega, by omega⟩
end Go.Proofs.Ytmojckejjjlkjab
