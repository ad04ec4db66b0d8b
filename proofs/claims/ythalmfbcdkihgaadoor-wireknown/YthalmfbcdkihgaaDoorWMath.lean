/-
  My own text: the form of a number, as plain mathematics.
-/
import Derived.Test.YthalmfbcdkihgaaDoorProg
namespace Go.Proofs.YthalmfbcdkihgaaDoor

/-- How many bytes stand behind the first one. -/
def nb (x : Int) : Nat :=
  if x < 248 then 0 else if x < 256 then 1 else if x < 65536 then 2 else if x < 16777216 then 3 else if x < 4294967296 then 4
  else if x < 1099511627776 then 5 else if x < 281474976710656 then 6 else if x < 72057594037927936 then 7 else 8
/-- The byte of weight 256 ^ k. -/
def byteAt (x : Int) (k : Nat) : UInt8 := UInt8.ofNat (x / 256 ^ k % 256).toNat
/-- The lowest n bytes, the highest first. -/
def be : Nat → Int → List UInt8
  | 0, _ => []
  | n + 1, x => byteAt x n :: be n x
/-- The form of a number. -/
def form (x : Int) : List UInt8 := if x < 248 then [byteAt x 0] else UInt8.ofNat (247 + nb x) :: be (nb x) x
/-- What bytes are, the highest first. -/
def bval (l : List UInt8) : Int := l.foldl (fun a c => a * 256 + (c.toNat : Int)) 0

theorem byteAt_nat (x : Int) (k : Nat) : ((byteAt x k).toNat : Int) = x / 256 ^ k % 256 := by
  unfold byteAt
  rw [UInt8.toNat_ofNat']
  have h0 : 0 ≤ x / 256 ^ k % 256 := Int.emod_nonneg _ (by decide)
  have h1 : x / 256 ^ k % 256 < 256 := Int.emod_lt_of_pos _ (by decide)
  have : (x / 256 ^ k % 256).toNat % 2 ^ 8 = (x / 256 ^ k % 256).toNat := Nat.mod_eq_of_lt (by omega)
  rw [this, Int.toNat_of_nonneg h0]
theorem be_len : ∀ (n : Nat) (x : Int), (be n x).length = n
  | 0, _ => rfl
  | n + 1, x => by show (be n x).length + 1 = _; rw [be_len n x]
theorem be_at : ∀ (n : Nat) (x : Int) (i : Nat), i < n → (be n x)[i]? = some (byteAt x (n - 1 - i))
  | 0, _, _, h => by omega
  | n + 1, x, 0, _ => by show some (byteAt x n) = _; congr 2
  | n + 1, x, i + 1, h => by
    show (be n x)[i]? = _
    rw [be_at n x i (by omega)]
    congr 2; omega
theorem nb_le (x : Int) : nb x ≤ 8 := by unfold nb; repeat' split <;> try omega
theorem nb_pos {x : Int} (h : 248 ≤ x) : 1 ≤ nb x := by unfold nb; repeat' split <;> try omega
theorem nb_small {x : Int} (h : x < 248) : nb x = 0 := by unfold nb; rw [if_pos h]
theorem nb_hi {x : Int} (h : 248 ≤ x) (h1 : x < 18446744073709551616) : x < 256 ^ nb x := by
  unfold nb
  rw [if_neg (by omega)]
  repeat' split
  all_goals simp only [Int.reducePow]; omega
theorem nb_lo {x : Int} (h : 256 ≤ x) : 256 ^ (nb x - 1) ≤ x := by
  unfold nb
  rw [if_neg (by omega)]
  repeat' split
  all_goals simp only [Nat.reduceSub, Int.reducePow]; omega
set_option maxHeartbeats 2000000 in
theorem nb_mono {x y : Int} (h : x ≤ y) : nb x ≤ nb y := by
  unfold nb
  repeat' split
  all_goals omega
theorem form_len (x : Int) : (form x).length = 1 + nb x := by
  unfold form
  split
  · rw [nb_small ‹_›]; rfl
  · rw [List.length_cons, be_len]; omega
theorem form_le (x : Int) : (form x).length ≤ 9 := by have := form_len x; have := nb_le x; omega
theorem form_ge (x : Int) : 1 ≤ (form x).length := by have := form_len x; omega

/-- At the first place at which two lists differ the first one has the lesser byte; there is one. -/
def Lex (a b : List UInt8) : Prop := ∃ (i : Nat) (c d : UInt8), a[i]? = some c ∧ b[i]? = some d ∧ a.take i = b.take i ∧ c.toNat < d.toNat
theorem Lex.cons {a b : List UInt8} (c : UInt8) (h : Lex a b) : Lex (c :: a) (c :: b) := by
  obtain ⟨i, x, y, h1, h2, h3, h4⟩ := h
  exact ⟨i + 1, x, y, h1, h2, by rw [List.take_succ_cons, List.take_succ_cons, h3], h4⟩
theorem Lex.head {a b : List UInt8} {c d : UInt8} (h : c.toNat < d.toNat) : Lex (c :: a) (d :: b) := ⟨0, c, d, rfl, rfl, rfl, h⟩
theorem mod_split (x p : Int) (hp : 0 < p) : x % (p * 256) = x / p % 256 * p + x % p := by
  have h1 := Int.mul_ediv_add_emod x p
  have h2 := Int.mul_ediv_add_emod (x / p) 256
  have h3 : 0 ≤ x / p % 256 := Int.emod_nonneg _ (by decide)
  have h4 : x / p % 256 < 256 := Int.emod_lt_of_pos _ (by decide)
  have h5 := Int.emod_nonneg x (Int.ne_of_gt hp)
  have h6 := Int.emod_lt_of_pos x hp
  have e : x = (x / p % 256 * p + x % p) + (x / p / 256) * (p * 256) := by
    have : p * (256 * (x / p / 256) + x / p % 256) + x % p = x := by rw [h2]; exact h1
    rw [Int.mul_add] at this
    have c1 : p * (256 * (x / p / 256)) = (x / p / 256) * (p * 256) := by rw [← Int.mul_assoc, Int.mul_comm]
    have c2 : p * (x / p % 256) = x / p % 256 * p := Int.mul_comm _ _
    rw [c1, c2] at this
    omega
  have hlt : x / p % 256 * p + x % p < p * 256 := by
    have : x / p % 256 * p ≤ 255 * p := Int.mul_le_mul_of_nonneg_right (by omega) (by omega)
    omega
  have hge : 0 ≤ x / p % 256 * p + x % p := by
    have : 0 ≤ x / p % 256 * p := Int.mul_nonneg h3 (by omega)
    omega
  have : x % (p * 256) = ((x / p % 256 * p + x % p) + (x / p / 256) * (p * 256)) % (p * 256) := congrArg (· % (p * 256)) e
  rw [this, Int.add_mul_emod_self_right, Int.emod_eq_of_lt hge hlt]
theorem be_lex : ∀ (n : Nat) (x y : Int), x % 256 ^ n < y % 256 ^ n → Lex (be n x) (be n y)
  | 0, x, y, h => by simp at h
  | n + 1, x, y, h => by
    have hp : (0 : Int) < 256 ^ n := Int.pow_pos (by decide)
    rw [Int.pow_succ, mod_split x _ hp, mod_split y _ hp] at h
    have hx := byteAt_nat x n
    have hy := byteAt_nat y n
    have x5 := Int.emod_nonneg x (Int.ne_of_gt hp)
    have x6 := Int.emod_lt_of_pos x hp
    have y5 := Int.emod_nonneg y (Int.ne_of_gt hp)
    have y6 := Int.emod_lt_of_pos y hp
    show Lex (byteAt x n :: be n x) (byteAt y n :: be n y)
    rcases Int.lt_trichotomy (x / 256 ^ n % 256) (y / 256 ^ n % 256) with hc | hc | hc
    · exact Lex.head (by omega)
    · have : byteAt x n = byteAt y n := by unfold byteAt; rw [hc]
      rw [this]
      refine Lex.cons _ (be_lex n x y ?_)
      rw [hc] at h; omega
    · exfalso
      have : (y / 256 ^ n % 256 + 1) * 256 ^ n ≤ x / 256 ^ n % 256 * 256 ^ n := Int.mul_le_mul_of_nonneg_right (by omega) (by omega)
      rw [Int.add_mul] at this
      omega
theorem form_lex {x y : Int} (x0 : 0 ≤ x) (h : x < y) (y1 : y < 18446744073709551616) : Lex (form x) (form y) := by
  unfold form
  by_cases hx : x < 248
  · rw [if_pos hx]
    have e := byteAt_nat x 0
    rw [Int.pow_zero, Int.ediv_one, Int.emod_eq_of_lt x0 (by omega)] at e
    by_cases hy : y < 248
    · rw [if_pos hy]
      have e' := byteAt_nat y 0
      rw [Int.pow_zero, Int.ediv_one, Int.emod_eq_of_lt (by omega) (by omega)] at e'
      exact Lex.head (by omega)
    · rw [if_neg hy]
      refine Lex.head ?_
      rw [UInt8.toNat_ofNat', Nat.mod_eq_of_lt (by have := nb_le y; omega)]
      have := nb_pos (x := y) (by omega); omega
  · rw [if_neg hx, if_neg (by omega)]
    have hm := nb_mono (Int.le_of_lt h)
    have l1 := nb_le x
    have l2 := nb_le y
    by_cases he : nb x = nb y
    · rw [he]
      refine Lex.cons _ (be_lex _ _ _ ?_)
      have h1 := nb_hi (x := y) (by omega) y1
      rw [Int.emod_eq_of_lt x0 (by omega), Int.emod_eq_of_lt (by omega) h1]
      exact h
    · refine Lex.head ?_
      rw [UInt8.toNat_ofNat', UInt8.toNat_ofNat', Nat.mod_eq_of_lt (by omega), Nat.mod_eq_of_lt (by omega)]
      omega
theorem take_le {a b : List UInt8} {i k : Nat} (h : a.take i = b.take i) (hk : k ≤ i) : a.take k = b.take k := by
  have : (a.take i).take k = (b.take i).take k := by rw [h]
  rwa [List.take_take, List.take_take, Nat.min_eq_left hk] at this
/-- The first place at which they differ is the one at which a walk stops. -/
theorem Lex.stop {a b : List UInt8} (h : Lex a b) {k : Nat} (hk : a.take k = b.take k) (hs : a.length ≤ k ∨ b.length ≤ k ∨ a[k]? ≠ b[k]?) :
    ∃ c d : UInt8, a[k]? = some c ∧ b[k]? = some d ∧ c.toNat < d.toNat := by
  obtain ⟨i, c, d, h1, h2, h3, h4⟩ := h
  have ha : i < a.length := (List.getElem?_eq_some_iff.1 h1).1
  have hb : i < b.length := (List.getElem?_eq_some_iff.1 h2).1
  rcases Nat.lt_trichotomy k i with hc | hc | hc
  · exfalso
    rcases hs with hs | hs | hs
    · omega
    · omega
    · apply hs
      have e := take_le h3 (k := k + 1) (by omega)
      rw [List.take_add_one, List.take_add_one, hk] at e
      have e2 := List.append_cancel_left e
      have q1 := List.getElem?_eq_getElem (l := a) (i := k) (by omega)
      have q2 := List.getElem?_eq_getElem (l := b) (i := k) (by omega)
      rw [q1, q2] at e2 ⊢
      simpa using e2
  · subst hc; exact ⟨c, d, h1, h2, h4⟩
  · exfalso
    have e := take_le hk (k := i + 1) (by omega)
    rw [List.take_add_one, List.take_add_one, h3, h1, h2] at e
    have e2 := List.append_cancel_left e
    simp at e2
    subst e2; omega
end Go.Proofs.YthalmfbcdkihgaaDoor
