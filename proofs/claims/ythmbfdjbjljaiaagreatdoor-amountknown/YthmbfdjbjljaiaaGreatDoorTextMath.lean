/-
  My own text: plain mathematics: decimal digits; numerals as lists of bytes.
-/
import Derived.Lib.ItoaNum
import Derived.Lib.ItoaMem
import Derived.Lib.Repeat
namespace Go.Proofs.YthmbfdjbjljaiaaGreatDoor
open Go.Lib

/-- The k lowest digits of m. -/
def dgs (m : Nat) : Nat → List UInt8
  | 0 => []
  | k + 1 => dgs (m / 10) k ++ [UInt8.ofNat (48 + m % 10)]
theorem dgs_len (m k : Nat) : (dgs m k).length = k := by
  induction k generalizing m with
  | zero => rfl
  | succ k ih => rw [dgs, List.length_append, ih]; rfl
theorem dgs_split (m a b : Nat) : dgs m (a + b) = dgs (m / 10 ^ b) a ++ dgs (m % 10 ^ b) b := by
  induction b generalizing m with
  | zero => simp [dgs]
  | succ b ih =>
    have h1 : m % 10 ^ (b + 1) / 10 = m / 10 % 10 ^ b := by rw [Nat.pow_succ, Nat.mul_comm, Nat.mod_mul_right_div_self]
    have h2 : m % 10 ^ (b + 1) % 10 = m % 10 := by rw [Nat.pow_succ, Nat.mul_comm, Nat.mod_mul_right_mod]
    have h3 : m / 10 / 10 ^ b = m / 10 ^ (b + 1) := by rw [Nat.div_div_eq_div_mul, Nat.pow_succ, Nat.mul_comm]
    rw [← Nat.add_assoc, dgs, ih, dgs, h1, h2, h3, List.append_assoc]
theorem dgs_low (N i : Nat) : dgs (N % 10 ^ i) i = dgs N i := by
  have := dgs_split N 0 i
  rw [Nat.zero_add] at this
  rw [this]; rfl
theorem dgs_cons (N i : Nat) : dgs N (i + 1) = UInt8.ofNat (48 + N / 10 ^ i % 10) :: dgs N i := by
  rw [Nat.add_comm, dgs_split, dgs_low]; rfl
theorem dgs_zero (k : Nat) : dgs 0 k = List.replicate k 48 := by
  induction k with
  | zero => rfl
  | succ k ih => rw [dgs, show 0 / 10 = 0 from rfl, ih, List.replicate_succ']; rfl
theorem dgs_pad {n e : Nat} (j : Nat) (h : n < 10 ^ e) : dgs n (j + e) = List.replicate j 48 ++ dgs n e := by
  rw [dgs_split, Nat.div_eq_of_lt h, Nat.mod_eq_of_lt h, dgs_zero]
theorem dec_dgs (u : Nat) : decDigits u = dgs u (nDigits u) := by
  induction u using Nat.strongRecOn with
  | _ u ih =>
    by_cases h : u < 10
    · rw [decDigits_one h, nDigits_small h]; simp [dgs, Nat.mod_eq_of_lt h]
    · rw [decDigits, dif_neg h, nDigits_big h, dgs, ih (u / 10) (by omega)]
theorem pow_le_nd {n : Nat} (h : 2 ≤ nDigits n) : 10 ^ (nDigits n - 1) ≤ n := by
  induction n using Nat.strongRecOn with
  | _ u ih =>
    by_cases h1 : u < 10
    · rw [nDigits_small h1] at h; omega
    · rw [nDigits_big h1] at h ⊢
      by_cases h2 : 2 ≤ nDigits (u / 10)
      · have := ih (u / 10) (by omega) h2
        have e : nDigits (u / 10) + 1 - 1 = (nDigits (u / 10) - 1) + 1 := by omega
        rw [e, Nat.pow_succ]
        omega
      · have : nDigits (u / 10) = 1 := by omega
        rw [this]; omega
theorem nd_of {m e : Nat} (h1 : 1 ≤ e) (h2 : m < 10 ^ e) (h3 : e = 1 ∨ 10 ^ (e - 1) ≤ m) : nDigits m = e := by
  by_cases h : e = 1
  · subst h; exact nDigits_small (by simpa using h2)
  · rcases h3 with h3 | h3
    · exact absurd h3 h
    · have := nDigits_unique (e - 1) m h3 (by rw [show e - 1 + 1 = e from by omega]; exact h2)
      omega
theorem nd_div {n s : Nat} (hs : s < nDigits n) : nDigits (n / 10 ^ s) = nDigits n - s := by
  have hlt := lt_pow_nDigits n
  refine nd_of (by omega) ?_ ?_
  · refine Nat.div_lt_of_lt_mul ?_
    rw [← Nat.pow_add, show s + (nDigits n - s) = nDigits n from by omega]; exact hlt
  · by_cases h : nDigits n - s = 1
    · exact .inl h
    · right
      rw [Nat.le_div_iff_mul_le (Nat.pow_pos (by omega)), ← Nat.pow_add, show nDigits n - s - 1 + s = nDigits n - 1 from by omega]
      exact pow_le_nd (by omega)
/-- n as a numeral with s digits behind the point. -/
def fmtL (n s : Nat) : List UInt8 := if s = 0 then decDigits n else decDigits (n / 10 ^ s) ++ 46 :: dgs (n % 10 ^ s) s
/-- What the program writes: digits, filled up, cut at the point. -/
theorem fmt_cut {n s L : Nat} (hs : 0 < s) (hL : L = if nDigits n < s + 1 then s + 1 else nDigits n) :
    (dgs n L).take (L - s) ++ 46 :: (dgs n L).drop (L - s) = fmtL n s := by
  have hnd : s + 1 ≤ L := by rw [hL]; split <;> omega
  have e : L - s = nDigits (n / 10 ^ s) := by
    by_cases h : nDigits n < s + 1
    · rw [if_pos h] at hL
      have h1 : n < 10 ^ s := Nat.lt_of_lt_of_le (lt_pow_nDigits n) (Nat.pow_le_pow_right (by omega) (by omega))
      rw [Nat.div_eq_of_lt h1, nDigits_small (by omega)]; omega
    · rw [if_neg h] at hL
      rw [nd_div (by omega)]; omega
  have hsp : dgs n L = dgs (n / 10 ^ s) (L - s) ++ dgs (n % 10 ^ s) s := by
    have := dgs_split n (L - s) s
    rwa [show L - s + s = L from by omega] at this
  rw [hsp, List.take_left' (dgs_len _ _), List.drop_left' (dgs_len _ _)]
  unfold fmtL
  rw [if_neg (by omega), dec_dgs, e]
theorem fmt_fill {n s : Nat} (h : nDigits n < s + 1) : List.replicate (s + 1 - nDigits n) 48 ++ decDigits n = dgs n (s + 1) := by
  have := dgs_pad (n := n) (e := nDigits n) (s + 1 - nDigits n) (lt_pow_nDigits n)
  rw [show s + 1 - nDigits n + nDigits n = s + 1 from by omega] at this
  rw [this, dec_dgs]
/-- What the document's answer writes. -/
theorem fmt_ref {n s e e' : Nat} (hs : 0 < s) (h1 : 1 ≤ e) (h2 : n / 10 ^ s < 10 ^ e) (h3 : e = 1 ∨ 10 ^ (e - 1) ≤ n / 10 ^ s) (g1 : s ≤ e') (g3 : e' = s ∨ 10 ^ (e' - 1) ≤ n % 10 ^ s) :
    dgs (n / 10 ^ s) e ++ 46 :: dgs (n % 10 ^ s) e' = fmtL n s := by
  have he : nDigits (n / 10 ^ s) = e := nd_of h1 h2 h3
  have he' : e' = s := by
    rcases g3 with h | h
    · exact h
    · rcases Nat.lt_or_ge s e' with hlt | hge
      · have h4 : 10 ^ s ≤ 10 ^ (e' - 1) := Nat.pow_le_pow_right (by omega) (by omega)
        have h5 := Nat.mod_lt n (show 0 < 10 ^ s from Nat.pow_pos (by omega))
        omega
      · omega
  unfold fmtL
  rw [if_neg (by omega), dec_dgs, he, he']
theorem fmt_ref0 {n e : Nat} (h1 : 1 ≤ e) (h2 : n < 10 ^ e) (h3 : e = 1 ∨ 10 ^ (e - 1) ≤ n) : dgs n e = fmtL n 0 := by
  unfold fmtL; rw [if_pos rfl, dec_dgs, nd_of h1 h2 h3]
end Go.Proofs.YthmbfdjbjljaiaaGreatDoor
