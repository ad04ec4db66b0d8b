/-
  My own text: a burst of four bytes is seen: the mathematics.
-/
import Derived.Test.YtbkgegiglegnjabDoorWF2
import Derived.Test.YtbkgegiglegnjabDoorWM2
namespace Go.Proofs.YtbkgegiglegnjabDoor

/-- What a frame, or what looks like one, is taken apart into. -/
theorem un_of {x : Int} {s m r : List UInt8} (h0 : 0 ≤ x) (h1 : x < 18446744073709551616) (hs : s.length = 4) (hm : m.length ≤ 65536) :
    un1 (form (m.length : Int) ++ form x ++ s ++ m ++ r) = ((m.length : Int), form x ++ (s ++ (m ++ r)), 0) ∧ un2 (form (m.length : Int) ++ form x ++ s ++ m ++ r) = (x, s ++ (m ++ r), 0) ∧
    un3 (form (m.length : Int) ++ form x ++ s ++ m ++ r) = (s, m ++ r, 0) ∧ un4 (form (m.length : Int) ++ form x ++ s ++ m ++ r) = (m, r, 0) := by
  have e1 : un1 (form (m.length : Int) ++ form x ++ s ++ m ++ r) = ((m.length : Int), form x ++ (s ++ (m ++ r)), 0) := by
    unfold un1
    rw [List.append_assoc, List.append_assoc, List.append_assoc, rdU_of_form (by omega) (by omega) (by omega)]
  have e2 : un2 (form (m.length : Int) ++ form x ++ s ++ m ++ r) = (x, s ++ (m ++ r), 0) := by
    unfold un2
    rw [e1]
    exact rdU_of_form h0 h1 (by omega) _
  have e3 : un3 (form (m.length : Int) ++ form x ++ s ++ m ++ r) = (s, m ++ r, 0) := by
    unfold un3
    rw [e2]
    show rdT 4 (s ++ (m ++ r)) 0 = _
    unfold rdT
    rw [if_neg (by simp), if_neg (by rw [List.length_append]; omega)]
    have : (4 : Int).toNat = s.length := by rw [hs]; rfl
    rw [this, List.take_left, List.drop_left]
  refine ⟨e1, e2, e3, ?_⟩
  unfold un4
  rw [e1, e3]
  show rdT (m.length : Int) (m ++ r) 0 = _
  unfold rdT
  rw [if_neg (by simp), if_neg (by rw [List.length_append]; omega), Int.toNat_natCast, List.take_left, List.drop_left]
theorem unE_of {x : Int} {s m r : List UInt8} (h0 : 0 ≤ x) (h1 : x < 18446744073709551616) (hs : s.length = 4) (hm : m.length ≤ 65536) :
    unE (form (m.length : Int) ++ form x ++ s ++ m ++ r) = if bval s = ((fsum x m).toNat : Int) then 0 else 7 := by
  obtain ⟨_, e2, e3, e4⟩ := un_of (r := r) h0 h1 hs hm
  unfold unE
  rw [e2, e3, e4]
  rw [if_neg (by simp)]
theorem bval_sum (s : BitVec 32) : bval (be 4 (s.toNat : Int)) = (s.toNat : Int) := by
  rw [bval_be, Int.emod_eq_of_lt (by omega) (by have := bv_lt s; simp only [Int.reducePow]; omega)]

/-! ### words of four bytes -/
def lev : List UInt8 → Nat
  | [] => 0
  | c :: t => c.toNat + 256 * lev t
theorem lev_lt : ∀ m : List UInt8, lev m < 256 ^ m.length
  | [] => by decide
  | c :: t => by
    have := lev_lt t
    have hc := c.toNat_lt
    show c.toNat + 256 * lev t < 256 ^ (t.length + 1)
    rw [Nat.pow_succ]; omega
theorem lev_inj : ∀ {a b : List UInt8}, a.length = b.length → lev a = lev b → a = b
  | [], [], _, _ => rfl
  | c :: t, d :: u, hl, h => by
    have hc := c.toNat_lt
    have hd := d.toNat_lt
    have h' : c.toNat + 256 * lev t = d.toNat + 256 * lev u := h
    have e1 : c.toNat = d.toNat := by omega
    have e2 : lev t = lev u := by omega
    rw [UInt8.toNat_inj.1 e1, lev_inj (by simpa using hl) e2]
  | [], _ :: _, hl, _ => by simp at hl
  | _ :: _, [], hl, _ => by simp at hl
def wordB (m : List UInt8) : BitVec 32 := BitVec.ofNat 32 (lev m)
theorem word_cons (c : UInt8) (t : List UInt8) : wordB (c :: t) = w8 c ^^^ (wordB t <<< 8) := by
  unfold wordB w8
  show BitVec.ofNat 32 (c.toNat + 256 * lev t) = _
  apply BitVec.eq_of_getLsbD_eq
  intro i hi
  rw [BitVec.getLsbD_xor, BitVec.getLsbD_shiftLeft, BitVec.getLsbD_ofNat, BitVec.getLsbD_ofNat, BitVec.getLsbD_ofNat]
  have hc := c.toNat_lt
  have e : c.toNat + 256 * lev t = 2 ^ 8 * lev t + c.toNat := by omega
  rw [e, Nat.testBit_two_pow_mul_add _ (by omega : c.toNat < 2 ^ 8)]
  by_cases h : i < 8
  · simp [h, hi]
  · have h9 : c.toNat.testBit i = false := Nat.testBit_lt_two_pow (Nat.lt_of_lt_of_le (by omega : c.toNat < 2 ^ 8) (Nat.pow_le_pow_right (by decide) (by omega)))
    have : i - 8 < 32 := by omega
    simp [h, hi, h9, this]
theorem crc_word : ∀ (m : List UInt8) (q : BitVec 32), m.length ≤ 4 → crc q m = gn (8 * m.length) (q ^^^ wordB m)
  | [], q, _ => by show q = q ^^^ BitVec.ofNat 32 0; simp
  | c :: t, q, h => by
    have hl : t.length ≤ 3 := by simpa using h
    show crc (gn 8 (q ^^^ w8 c)) t = gn (8 * (t.length + 1)) _
    rw [crc_word t _ (by omega), word_cons]
    have ht : gn 8 (wordB t <<< 8) = wordB t := gn_shl 8 _ (fun i h1 h2 => by
      unfold wordB
      rw [BitVec.getLsbD_ofNat]
      have : (lev t).testBit i = false := by
        refine Nat.testBit_lt_two_pow (Nat.lt_of_lt_of_le (lev_lt t) ?_)
        calc 256 ^ t.length = 2 ^ (8 * t.length) := by rw [Nat.pow_mul]
          _ ≤ 2 ^ i := Nat.pow_le_pow_right (by decide) (by omega)
      rw [this]; simp)
    have e : gn 8 (q ^^^ w8 c) ^^^ wordB t = gn 8 (q ^^^ (w8 c ^^^ wordB t <<< 8)) := by
      rw [← BitVec.xor_assoc, gn_xor 8 (q ^^^ w8 c), ht]
    rw [e, ← gn_add, Nat.mul_add, Nat.mul_one, Nat.add_comm]
theorem xor_eq_zero {a b : BitVec 32} (h : a ^^^ b = 0#32) : a = b := by
  have : a ^^^ b ^^^ b = 0#32 ^^^ b := by rw [h]
  rw [BitVec.xor_assoc, BitVec.xor_self, BitVec.xor_zero, BitVec.zero_xor] at this
  exact this
theorem gn_cancel {n : Nat} {a b : BitVec 32} (h : gn n a = gn n b) : a = b := by
  apply xor_eq_zero
  apply gn_inj (n := n)
  rw [gn_xor, h, BitVec.xor_self]
theorem xor_cancel {a b c : BitVec 32} (h : a ^^^ b = a ^^^ c) : b = c := by
  have : a ^^^ (a ^^^ b) = a ^^^ (a ^^^ c) := by rw [h]
  rwa [← BitVec.xor_assoc, ← BitVec.xor_assoc, BitVec.xor_self, BitVec.zero_xor, BitVec.zero_xor] at this
theorem crc_cancel : ∀ (l : List UInt8) {a b : BitVec 32}, crc a l = crc b l → a = b
  | [], _, _, h => h
  | c :: t, a, b, h => by
    have h1 : stepB a c = stepB b c := crc_cancel t h
    have h2 := gn_cancel h1
    rw [BitVec.xor_comm a, BitVec.xor_comm b] at h2
    exact xor_cancel h2
theorem burst {q : BitVec 32} {pre m m' post : List UInt8} (h4 : m.length ≤ 4) (hl : m'.length = m.length) (h : crc q (pre ++ m ++ post) = crc q (pre ++ m' ++ post)) : m' = m := by
  rw [crc_app, crc_app, crc_app q (pre ++ m'), crc_app q pre] at h
  have h1 := crc_cancel post h
  rw [crc_word m _ h4, crc_word m' _ (by omega), hl] at h1
  have h2 := xor_cancel (gn_cancel h1)
  unfold wordB at h2
  have h3 := congrArg BitVec.toNat h2
  have b1 := lev_lt m
  have b2 := lev_lt m'
  have hp : 256 ^ m.length ≤ 2 ^ 32 := by
    calc 256 ^ m.length = 2 ^ (8 * m.length) := by rw [Nat.pow_mul]
      _ ≤ 2 ^ 32 := Nat.pow_le_pow_right (by decide) (by omega)
  rw [hl] at b2
  rw [BitVec.toNat_ofNat, BitVec.toNat_ofNat, Nat.mod_eq_of_lt (by omega), Nat.mod_eq_of_lt (by omega)] at h3
  exact lev_inj hl h3.symm
theorem fsum_ne {x : Int} {pre m m' post : List UInt8} (h4 : m.length ≤ 4) (hl : m'.length = m.length) (hne : m' ≠ m) : fsum x (pre ++ m ++ post) ≠ fsum x (pre ++ m' ++ post) := by
  intro h
  unfold fsum sumB at h
  rw [BitVec.xor_comm, BitVec.xor_comm _ ones] at h
  have h1 := xor_cancel h
  rw [← List.append_assoc, ← List.append_assoc, ← List.append_assoc, ← List.append_assoc] at h1
  exact hne (burst h4 hl h1)

/-! ### bytes that are turned -/
/-- The first i bytes from pos on are turned by t. -/
def chg (L : List UInt8) (pos : Nat) (t : Nat → UInt8) : Nat → List UInt8
  | 0 => L
  | i + 1 => (chg L pos t i).set (pos + i) (L.getD (pos + i) 0 ^^^ t i)
theorem chg_len (L : List UInt8) (pos : Nat) (t : Nat → UInt8) : ∀ i, (chg L pos t i).length = L.length
  | 0 => rfl
  | i + 1 => by show (List.set _ _ _).length = _; rw [List.length_set, chg_len L pos t i]
theorem chg_at (L : List UInt8) (pos : Nat) (t : Nat → UInt8) : ∀ i j, pos + i ≤ j → (chg L pos t i)[j]? = L[j]?
  | 0, _, _ => rfl
  | i + 1, j, h => by
    show (List.set _ _ _)[j]? = _
    rw [List.getElem?_set_ne (by omega), chg_at L pos t i j (by omega)]
def turnL (m : List UInt8) (t : Nat → UInt8) : Nat → List UInt8
  | 0 => m
  | i + 1 => (turnL m t i).set i (m.getD i 0 ^^^ t i)
theorem turnL_len (m : List UInt8) (t : Nat → UInt8) : ∀ i, (turnL m t i).length = m.length
  | 0 => rfl
  | i + 1 => by show (List.set _ _ _).length = _; rw [List.length_set, turnL_len m t i]
theorem chg_mid (pre m post : List UInt8) (t : Nat → UInt8) : ∀ i, i ≤ m.length → chg (pre ++ m ++ post) pre.length t i = pre ++ turnL m t i ++ post
  | 0, _ => rfl
  | i + 1, h => by
    show (chg (pre ++ m ++ post) pre.length t i).set (pre.length + i) _ = pre ++ (turnL m t i).set i _ ++ post
    rw [chg_mid pre m post t i (by omega)]
    have hl := turnL_len m t i
    rw [List.set_append_left _ _ (by rw [List.length_append]; omega), List.set_append_right _ _ (by omega), Nat.add_sub_cancel_left]
    congr 3
    simp only [List.getD_eq_getElem?_getD]
    rw [List.getElem?_append_left (by rw [List.length_append]; omega), List.getElem?_append_right (by omega), Nat.add_sub_cancel_left]
theorem turnL_at (m : List UInt8) (t : Nat → UInt8) : ∀ i j, j < i → i ≤ m.length → (turnL m t i)[j]? = some (m.getD j 0 ^^^ t j)
  | 0, _, h, _ => by omega
  | i + 1, j, h, hl => by
    show (List.set _ _ _)[j]? = _
    by_cases hj : j = i
    · subst hj
      rw [List.getElem?_set_self (by rw [turnL_len]; omega)]
    · rw [List.getElem?_set_ne (by omega), turnL_at m t i j (by omega) (by omega)]
theorem turnL_ne {m : List UInt8} {t : Nat → UInt8} {i j : Nat} (hj : j < i) (hi : i ≤ m.length) (ht : t j ≠ 0) : turnL m t i ≠ m := by
  intro h
  have h1 := turnL_at m t i j hj hi
  rw [h, List.getElem?_eq_getElem (by omega)] at h1
  have h2 := Option.some.inj h1
  have h3 : m.getD j 0 = m[j]'(by omega) := by rw [List.getD_eq_getElem?_getD, List.getElem?_eq_getElem (by omega)]; rfl
  rw [h3] at h2
  apply ht
  have h4 := congrArg (fun z => m[j]'(by omega) ^^^ z) h2
  simp only [← UInt8.xor_assoc, UInt8.xor_self, UInt8.zero_xor] at h4
  exact h4.symm
end Go.Proofs.YtbkgegiglegnjabDoor
