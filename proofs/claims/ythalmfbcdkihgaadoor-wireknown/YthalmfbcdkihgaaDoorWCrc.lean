/-
  My own text: the sum of 32 bits, as plain mathematics.
-/
import Derived.Test.YthalmfbcdkihgaaDoorProg
namespace Go.Proofs.YthalmfbcdkihgaaDoor

def poly : BitVec 32 := 0x82f63b78#32
/-- One step with a bit of nought. -/
def g1 (s : BitVec 32) : BitVec 32 := (s >>> 1) ^^^ (if s.getLsbD 0 then poly else 0#32)
theorem g1_zero : g1 0#32 = 0#32 := by decide
theorem g1_xor (a b : BitVec 32) : g1 (a ^^^ b) = g1 a ^^^ g1 b := by
  unfold g1
  rw [BitVec.ushiftRight_xor_distrib, BitVec.getLsbD_xor]
  generalize a >>> 1 = x
  generalize b >>> 1 = y
  cases a.getLsbD 0 <;> cases b.getLsbD 0 <;> simp only [Bool.xor_false, Bool.xor_true, Bool.not_true, Bool.not_false, if_true, Bool.false_eq_true, if_false, BitVec.xor_zero]
  · rw [BitVec.xor_assoc]
  · rw [BitVec.xor_assoc, BitVec.xor_assoc, BitVec.xor_comm y poly]
  · have : (x ^^^ poly) ^^^ (y ^^^ poly) = x ^^^ y ^^^ (poly ^^^ poly) := by
      rw [BitVec.xor_assoc, BitVec.xor_assoc, ← BitVec.xor_assoc poly y poly, BitVec.xor_comm poly y, BitVec.xor_assoc y poly poly]
    rw [this, BitVec.xor_self, BitVec.xor_zero]
theorem g1_shl {y : BitVec 32} (h : y.getLsbD 31 = false) : g1 (y <<< 1) = y := by
  unfold g1
  have h0 : (y <<< 1).getLsbD 0 = false := by simp
  rw [h0]
  simp only [Bool.false_eq_true, if_false, BitVec.xor_zero]
  apply BitVec.eq_of_getLsbD_eq
  intro i hi
  rw [BitVec.getLsbD_ushiftRight, BitVec.getLsbD_shiftLeft]
  by_cases h31 : i = 31
  · subst h31; rw [h]; simp
  · have : 1 + i < 32 := by omega
    simp [this]
/-- So many steps. -/
def gn : Nat → BitVec 32 → BitVec 32
  | 0, s => s
  | n + 1, s => gn n (g1 s)
theorem gn_xor : ∀ (n : Nat) (a b : BitVec 32), gn n (a ^^^ b) = gn n a ^^^ gn n b
  | 0, _, _ => rfl
  | n + 1, a, b => by show gn n (g1 (a ^^^ b)) = _; rw [g1_xor, gn_xor n]; rfl
theorem gn_zero : ∀ n : Nat, gn n 0#32 = 0#32
  | 0 => rfl
  | n + 1 => by show gn n (g1 0#32) = _; rw [g1_zero, gn_zero n]
theorem gn_add : ∀ (n m : Nat) (s : BitVec 32), gn (n + m) s = gn m (gn n s)
  | 0, m, s => by rw [Nat.zero_add]; rfl
  | n + 1, m, s => by rw [Nat.add_right_comm]; show gn (n + m) (g1 s) = _; rw [gn_add n m]; rfl
theorem gn_shl : ∀ (n : Nat) (y : BitVec 32), (∀ i, 32 - n ≤ i → i < 32 → y.getLsbD i = false) → gn n (y <<< n) = y
  | 0, y, _ => by show y <<< 0 = y; simp
  | n + 1, y, h => by
    by_cases hn : n < 32
    · have e : y <<< (n + 1) = (y <<< n) <<< 1 := by
        apply BitVec.eq_of_getLsbD_eq
        intro i hi
        simp only [BitVec.getLsbD_shiftLeft]
        by_cases h1 : i < 1
        · have h2 : i < n + 1 := by omega
          simp [h1, h2]
        · have : i - 1 < 32 := by omega
          by_cases h2 : i < n + 1
          · have : i - 1 < n := by omega
            simp [h2, h1, hi, this]
          · have h3 : ¬ i - 1 < n := by omega
            have h4 : i - 1 - n = i - (n + 1) := by omega
            simp [h2, h1, hi, h3, h4, this]
      show gn n (g1 (y <<< (n + 1))) = y
      rw [e, g1_shl]
      · exact gn_shl n y (fun i h1 h2 => h i (by omega) h2)
      · rw [BitVec.getLsbD_shiftLeft]
        by_cases h5 : 31 < n
        · omega
        · have h6 := h (31 - n) (by omega) (by omega)
          simp [h6]
    · have h0 : y = 0#32 := by
        apply BitVec.eq_of_getLsbD_eq
        intro i hi
        rw [h i (by omega) hi]; simp
      subst h0
      have : (0#32 : BitVec 32) <<< (n + 1) = 0#32 := by simp
      rw [this, gn_zero]
theorem g1_inj {s : BitVec 32} (h : g1 s = 0#32) : s = 0#32 := by
  unfold g1 at h
  have hb : s.getLsbD 0 = false := by
    cases hs : s.getLsbD 0 with
    | false => rfl
    | true =>
      rw [hs] at h
      simp only [if_true] at h
      have := congrArg (fun x : BitVec 32 => x.getLsbD 31) h
      simp only [BitVec.getLsbD_xor, BitVec.getLsbD_ushiftRight] at this
      have hp : poly.getLsbD 31 = true := by decide
      rw [hp] at this
      simp at this
  rw [hb] at h
  simp only [Bool.false_eq_true, if_false, BitVec.xor_zero] at h
  apply BitVec.eq_of_getLsbD_eq
  intro i hi
  cases i with
  | zero => rw [hb]; simp
  | succ i =>
    have := congrArg (fun x : BitVec 32 => x.getLsbD i) h
    simp only [BitVec.getLsbD_ushiftRight] at this
    rw [Nat.add_comm 1 i] at this
    rw [this]; simp
theorem gn_inj : ∀ {n : Nat} {s : BitVec 32}, gn n s = 0#32 → s = 0#32
  | 0, _, h => h
  | n + 1, _, h => g1_inj (gn_inj (n := n) h)

/-- A byte as 32 bits. -/
def w8 (c : UInt8) : BitVec 32 := BitVec.ofNat 32 c.toNat
theorem w8_nat (c : UInt8) : (w8 c).toNat = c.toNat := by
  unfold w8; rw [BitVec.toNat_ofNat]; exact Nat.mod_eq_of_lt (by have := c.toNat_lt; omega)
/-- What the 32 bits become by a byte; by bytes. -/
def stepB (s : BitVec 32) (c : UInt8) : BitVec 32 := gn 8 (s ^^^ w8 c)
def crc (s : BitVec 32) (l : List UInt8) : BitVec 32 := l.foldl stepB s
theorem crc_app (s : BitVec 32) (a b : List UInt8) : crc s (a ++ b) = crc (crc s a) b := by unfold crc; rw [List.foldl_append]
theorem crc_snoc (s : BitVec 32) (a : List UInt8) (c : UInt8) : crc s (a ++ [c]) = stepB (crc s a) c := by rw [crc_app]; rfl
def ones : BitVec 32 := 0xffffffff#32
/-- The sum. -/
def sumB (l : List UInt8) : BitVec 32 := crc ones l ^^^ ones

/-! ### four bits at a time -/
def tab4 (i : Nat) : Nat := (gn 4 (BitVec.ofNat 32 i)).toNat
theorem gn4_split (s : BitVec 32) : gn 4 s = (s >>> 4) ^^^ gn 4 (BitVec.ofNat 32 (s.toNat % 16)) := by
  have e : s = ((s >>> 4) <<< 4) ^^^ BitVec.ofNat 32 (s.toNat % 16) := by
    apply BitVec.eq_of_getLsbD_eq
    intro i hi
    rw [BitVec.getLsbD_xor, BitVec.getLsbD_shiftLeft, BitVec.getLsbD_ushiftRight, BitVec.getLsbD_ofNat]
    have hm : (s.toNat % 16).testBit i = (decide (i < 4) && s.toNat.testBit i) := by
      rw [show 16 = 2 ^ 4 from rfl, Nat.testBit_mod_two_pow]
    rw [hm]
    by_cases h : i < 4
    · simp [h, hi, BitVec.getLsbD]
    · have : 4 + (i - 4) = i := by omega
      simp [h, hi, this]
  have h1 : gn 4 s = gn 4 (((s >>> 4) <<< 4) ^^^ BitVec.ofNat 32 (s.toNat % 16)) := congrArg (gn 4) e
  rw [h1, gn_xor, gn_shl 4 (s >>> 4)]
  intro i h1 h2
  rw [BitVec.getLsbD_ushiftRight]
  exact BitVec.getLsbD_of_ge _ _ (by omega)
theorem gn4_nat (s : BitVec 32) : (gn 4 s).toNat = s.toNat / 16 ^^^ tab4 (s.toNat % 16) := by
  rw [gn4_split, BitVec.toNat_xor, BitVec.toNat_ushiftRight]
  unfold tab4
  rw [Nat.shiftRight_eq_div_pow]

/-! ### bit by bit -/
/-- One step with a bit. -/
def bitS (s : BitVec 32) (b : Bool) : BitVec 32 := (s >>> 1) ^^^ (if s.getLsbD 0 ≠ b then poly else 0#32)
theorem bitS_eq (s : BitVec 32) (b : Bool) : bitS s b = g1 (s ^^^ BitVec.ofNat 32 b.toNat) := by
  unfold bitS g1
  rw [BitVec.ushiftRight_xor_distrib, BitVec.getLsbD_xor]
  have h1 : (BitVec.ofNat 32 b.toNat) >>> 1 = 0#32 := by cases b <;> decide
  have h2 : (BitVec.ofNat 32 b.toNat).getLsbD 0 = b := by cases b <;> decide
  rw [h1, h2, BitVec.xor_zero]
  cases s.getLsbD 0 <;> cases b <;> rfl
/-- The first k bits of a byte. -/
def bits8 (s : BitVec 32) (c : UInt8) : Nat → BitVec 32
  | 0 => s
  | k + 1 => bitS (bits8 s c k) (c.toNat.testBit k)
theorem bit_one (b : Bool) (k : Nat) (hk : k < 8) : gn (k + 1) (BitVec.ofNat 32 b.toNat <<< k) = g1 (BitVec.ofNat 32 b.toNat) := by
  rw [gn_add k 1]
  show g1 (gn k (BitVec.ofNat 32 b.toNat <<< k)) = _
  rw [gn_shl k]
  intro i h1 h2
  rw [BitVec.getLsbD_ofNat]
  have : b.toNat.testBit i = false := Nat.testBit_lt_two_pow (by have : b.toNat < 2 := by cases b <;> decide
                                                                 exact Nat.lt_of_lt_of_le this (by have : 2 ^ 1 ≤ 2 ^ i := Nat.pow_le_pow_right (by decide) (by omega)
                                                                                                   simpa using this))
  rw [this]; simp
theorem bits8_eq (s : BitVec 32) (c : UInt8) : ∀ k, k ≤ 8 → bits8 s c k = gn k (s ^^^ BitVec.ofNat 32 (c.toNat % 2 ^ k))
  | 0, _ => by show s = s ^^^ BitVec.ofNat 32 (c.toNat % 1); rw [Nat.mod_one]; simp
  | k + 1, hk => by
    show bitS (bits8 s c k) (c.toNat.testBit k) = _
    rw [bitS_eq, bits8_eq s c k (by omega)]
    have hc := c.toNat_lt
    have e : BitVec.ofNat 32 (c.toNat % 2 ^ (k + 1)) = BitVec.ofNat 32 (c.toNat % 2 ^ k) ^^^ (BitVec.ofNat 32 (c.toNat.testBit k).toNat <<< k) := by
      apply BitVec.eq_of_getLsbD_eq
      intro i hi
      rw [BitVec.getLsbD_xor, BitVec.getLsbD_shiftLeft, BitVec.getLsbD_ofNat, BitVec.getLsbD_ofNat, BitVec.getLsbD_ofNat, Nat.testBit_mod_two_pow, Nat.testBit_mod_two_pow]
      rcases Nat.lt_trichotomy i k with h | h | h
      · have h2 : i < k + 1 := by omega
        simp [h, h2, hi]
      · subst h
        have h3 : (c.toNat.testBit i).toNat.testBit 0 = c.toNat.testBit i := by cases c.toNat.testBit i <;> rfl
        simp [hi, h3]
      · have h2 : ¬ i < k + 1 := by omega
        have h4 : ¬ i < k := by omega
        have h5 : (c.toNat.testBit k).toNat.testBit (i - k) = false := by
          have h6 : i - k = (i - k - 1) + 1 := by omega
          rw [h6]
          cases c.toNat.testBit k
          · exact Nat.zero_testBit _
          · show (1 : Nat).testBit _ = false; rw [Nat.testBit_succ]; exact Nat.zero_testBit _
        simp [h2, h4, h5]
    rw [e, ← BitVec.xor_assoc, gn_xor (k + 1), bit_one _ k (by omega), g1_xor, gn_add k 1]
    rfl
theorem byte_bits (s : BitVec 32) (c : UInt8) : bits8 s c 8 = stepB s c := by
  rw [bits8_eq s c 8 (Nat.le_refl _)]
  unfold stepB w8
  rw [Nat.mod_eq_of_lt (by have := c.toNat_lt; omega)]
end Go.Proofs.YthalmfbcdkihgaaDoor
