/-
  My own text: forms there and back, as plain mathematics.
-/
import Derived.Test.YthalmfbcdkihgaaDoorW10
namespace Go.Proofs.YthalmfbcdkihgaaDoor

theorem byteAt_add (a r : Int) (k j : Nat) : byteAt (a * 256 ^ (k + 1 + j) + r) k = byteAt r k := by
  unfold byteAt
  congr 2
  have hp : (0 : Int) < 256 ^ k := Int.pow_pos (by decide)
  have e : a * 256 ^ (k + 1 + j) + r = r + (a * 256 ^ j * 256) * 256 ^ k := by
    rw [Nat.add_assoc, Int.pow_add, Int.pow_add, Int.pow_one, Int.add_comm]
    congr 1
    rw [Int.mul_comm (256 ^ k), ← Int.mul_assoc, Int.mul_comm 256 (256 ^ j), ← Int.mul_assoc]
  rw [e, Int.add_mul_ediv_right _ _ (Int.ne_of_gt hp), Int.add_mul_emod_self_right]
theorem be_add (a r : Int) : ∀ (n j : Nat), be n (a * 256 ^ (n + j) + r) = be n r
  | 0, _ => rfl
  | n + 1, j => by
    show byteAt _ n :: be n _ = byteAt r n :: be n r
    rw [byteAt_add a r n j]
    have := be_add a r n (1 + j)
    rw [show n + 1 + j = n + (1 + j) by omega, this]
theorem be_bval : ∀ t : List UInt8, be t.length (bval t) = t
  | [] => rfl
  | c :: t => by
    have hr := bval_rng t
    have hp : (0 : Int) < 256 ^ t.length := Int.pow_pos (by decide)
    show byteAt (bval (c :: t)) t.length :: be t.length (bval (c :: t)) = c :: t
    rw [bval_cons]
    have h1 : byteAt ((c.toNat : Int) * 256 ^ t.length + bval t) t.length = c := by
      have hb := byteAt_nat ((c.toNat : Int) * 256 ^ t.length + bval t) t.length
      rw [Int.add_comm, Int.add_mul_ediv_right _ _ (Int.ne_of_gt hp), Int.ediv_eq_zero_of_lt hr.1 hr.2, Int.zero_add] at hb
      have hc := c.toNat_lt
      rw [Int.emod_eq_of_lt (by omega) (by omega), Int.add_comm] at hb
      exact UInt8.toNat_inj.1 (by omega)
    have h2 := be_add (c.toNat : Int) (bval t) t.length 0
    rw [Nat.add_zero] at h2
    rw [h1, h2, be_bval t]
theorem bval_be : ∀ (n : Nat) (x : Int), bval (be n x) = x % 256 ^ n
  | 0, x => by simp [be, bval, Int.emod_one]
  | n + 1, x => by
    have hp : (0 : Int) < 256 ^ n := Int.pow_pos (by decide)
    show bval (byteAt x n :: be n x) = _
    rw [bval_cons, be_len, bval_be n x, byteAt_nat, Int.pow_succ, mod_split x _ hp]
/-- What is read is the form. -/
theorem beg_form {l : List UInt8} (h : (beg l).2.2 = 0) : form (beg l).1 = l.take (beg l).2.1 := by
  cases l with
  | nil => cases h
  | cons c t =>
    have c8 := c.toNat_lt
    by_cases h1 : c.toNat < 248
    · rw [beg_lo h1]
      show form (c.toNat : Int) = [c]
      unfold form
      rw [if_pos (by omega)]
      congr 1
      have := byteAt_nat (c.toNat : Int) 0
      rw [Int.pow_zero, Int.ediv_one, Int.emod_eq_of_lt (by omega) (by omega)] at this
      exact UInt8.toNat_inj.1 (by omega)
    · by_cases h2 : t.length < c.toNat - 247
      · rw [beg_short h1 h2] at h; cases h
      · by_cases h3 : nb (bval (t.take (c.toNat - 247))) = c.toNat - 247
        · rw [beg_ok h1 h2 h3]
          dsimp only
          have hx : ¬ bval (t.take (c.toNat - 247)) < 248 := fun hh => by rw [nb_small hh] at h3; omega
          unfold form
          rw [if_neg hx, h3, Nat.add_comm 1, List.take_succ_cons]
          have hl : (t.take (c.toNat - 247)).length = c.toNat - 247 := by rw [List.length_take]; omega
          have hb := be_bval (t.take (c.toNat - 247))
          rw [hl] at hb
          have hc' : UInt8.ofNat (247 + (c.toNat - 247)) = c := by
            apply UInt8.toNat_inj.1
            rw [UInt8.toNat_ofNat', Nat.mod_eq_of_lt (by omega)]
            omega
          rw [hb, hc']
        · rw [beg_bad h1 h2 h3] at h; cases h
/-- A form is read as its number. -/
theorem beg_of_form {x : Int} (h0 : 0 ≤ x) (h1 : x < 18446744073709551616) (r : List UInt8) : beg (form x ++ r) = (x, (form x).length, 0) := by
  by_cases hx : x < 248
  · have e := byteAt_nat x 0
    rw [Int.pow_zero, Int.ediv_one, Int.emod_eq_of_lt h0 (by omega)] at e
    have hf : form x = [byteAt x 0] := by unfold form; rw [if_pos hx]
    rw [hf]
    show beg (byteAt x 0 :: r) = _
    rw [beg_lo (by omega), e]
    rfl
  · have n1 := nb_pos (x := x) (by omega)
    have n8 := nb_le x
    have hf : form x = UInt8.ofNat (247 + nb x) :: be (nb x) x := by unfold form; rw [if_neg hx]
    have hn : (UInt8.ofNat (247 + nb x)).toNat = 247 + nb x := by rw [UInt8.toNat_ofNat', Nat.mod_eq_of_lt (by omega)]
    have ht : (be (nb x) x ++ r).take (nb x) = be (nb x) x := by rw [List.take_append_of_le_length (by rw [be_len]; exact Nat.le_refl _), List.take_of_length_le (by rw [be_len]; exact Nat.le_refl _)]
    have hv : bval (be (nb x) x) = x := by rw [bval_be, Int.emod_eq_of_lt h0 (nb_hi (by omega) h1)]
    have hs : 247 + nb x - 247 = nb x := by omega
    rw [hf, List.cons_append]
    have hsh : ¬ (be (nb x) x ++ r).length < (UInt8.ofNat (247 + nb x)).toNat - 247 := by rw [hn, hs, List.length_append, be_len]; omega
    have hnb : nb (bval ((be (nb x) x ++ r).take ((UInt8.ofNat (247 + nb x)).toNat - 247))) = (UInt8.ofNat (247 + nb x)).toNat - 247 := by rw [hn, hs, ht, hv]
    rw [beg_ok (by omega) hsh hnb, hn, hs, ht, hv, List.length_cons, be_len, Nat.add_comm]
theorem rdU_of_form {x most : Int} (h0 : 0 ≤ x) (h1 : x < 18446744073709551616) (hm : x ≤ most) (r : List UInt8) : rdU most (form x ++ r) 0 = (x, r, 0) := by
  have hb := beg_of_form h0 h1 r
  rw [rdU_ok (by rw [hb]) (by rw [hb]; show ¬ most < x; omega), hb]
  show (x, List.drop (form x).length (form x ++ r), (0 : Int)) = _
  rw [List.drop_left]
theorem rdI_of_form {x : Int} (h1 : -9223372036854775808 ≤ x) (h2 : x ≤ 9223372036854775807) (r : List UInt8) : rdI (form (foldI x) ++ r) 0 = (x, r, 0) := by
  obtain ⟨f0, f1⟩ := fold_rng h1 h2
  unfold rdI
  rw [rdU_of_form f0 f1 (by omega) r]
  show (unfI (foldI x), r, (0 : Int)) = _
  rw [unf_fold]
theorem rdX_of_form {m : List UInt8} {most : Int} (hm : (m.length : Int) ≤ most) (hl : m.length ≤ 140737488355328) (r : List UInt8) : rdX most (form (m.length : Int) ++ m ++ r) 0 = (m, r, 0) := by
  unfold rdX rdY
  have hM : mostOf most = most := by unfold mostOf; rw [if_neg (by omega)]
  rw [hM, List.append_assoc, rdU_of_form (by omega) (by omega) hm (m ++ r)]
  have hT : rdT (m.length : Int) (m ++ r) 0 = (m, r, 0) := by
    unfold rdT
    rw [if_neg (by simp), if_neg (by rw [List.length_append]; omega), Int.toNat_natCast, List.take_left, List.drop_left]
  show (if (rdT (m.length : Int) (m ++ r) 0).2.2 ≠ 0 then _ else rdT (m.length : Int) (m ++ r) 0) = _
  rw [hT, if_neg (by simp)]

/-- What is written of what was read is what was there. -/
theorem rdU_back {l : List UInt8} (h : (rdU 18446744073709551615 l 0).2.2 = 0) : form (rdU 18446744073709551615 l 0).1 ++ (rdU 18446744073709551615 l 0).2.1 = l := by
  obtain ⟨x0, x1, _, _⟩ := beg_rng l
  by_cases hb : (beg l).2.2 = 0
  · rw [rdU_ok hb (by omega)]
    show form (beg l).1 ++ l.drop (beg l).2.1 = l
    rw [beg_form hb, List.take_append_drop]
  · rw [rdU_bad hb] at h; exact absurd h hb
theorem rdI_back {l : List UInt8} (h : (rdI l 0).2.2 = 0) : form (foldI (rdI l 0).1) ++ (rdI l 0).2.1 = l := by
  obtain ⟨x0, _, _⟩ := rdU_rng 18446744073709551615 l 0 (by decide) (by decide)
  unfold rdI at h ⊢
  show form (foldI (unfI _)) ++ _ = l
  rw [fold_unf x0]
  exact rdU_back h
theorem rdX_back {most : Int} {l : List UInt8} (h : (rdX most l 0).2.2 = 0) : form ((rdX most l 0).1.length : Int) ++ (rdX most l 0).1 ++ (rdX most l 0).2.1 = l := by
  unfold rdX at h ⊢
  generalize mostOf most = M at h ⊢
  unfold rdY at h ⊢
  obtain ⟨x0, x1, _, _⟩ := beg_rng l
  split at h
  · rename_i hk; exact absurd h hk
  · rename_i hk
    rw [if_neg hk]
    by_cases hb : (beg l).2.2 = 0
    · by_cases hm : M < (beg l).1
      · rw [rdU_many hb hm] at hk; simp [rdT] at hk
      · rw [rdU_ok hb hm] at hk ⊢
        by_cases hs : ((l.drop (beg l).2.1).length : Int) < (beg l).1
        · simp only [rdT] at hk; rw [if_neg (by simp), if_pos hs] at hk; simp at hk
        · have hT : rdT (beg l).1 (l.drop (beg l).2.1) 0 = ((l.drop (beg l).2.1).take (beg l).1.toNat, (l.drop (beg l).2.1).drop (beg l).1.toNat, 0) := by unfold rdT; rw [if_neg (by simp), if_neg hs]
          show form ((rdT (beg l).1 (l.drop (beg l).2.1) 0).1.length : Int) ++ (rdT (beg l).1 (l.drop (beg l).2.1) 0).1 ++ (rdT (beg l).1 (l.drop (beg l).2.1) 0).2.1 = l
          rw [hT]
          show form (((l.drop (beg l).2.1).take (beg l).1.toNat).length : Int) ++ (l.drop (beg l).2.1).take (beg l).1.toNat ++ (l.drop (beg l).2.1).drop (beg l).1.toNat = l
          have hlen : (((l.drop (beg l).2.1).take (beg l).1.toNat).length : Int) = (beg l).1 := by rw [List.length_take]; omega
          rw [hlen, List.append_assoc, List.take_append_drop, beg_form hb, List.take_append_drop]
    · rw [rdU_bad hb] at hk
      exfalso
      apply hk
      show (rdT 0 l (beg l).2.2).2.2 ≠ 0
      unfold rdT; rw [if_pos hb]; exact hb
end Go.Proofs.YthalmfbcdkihgaaDoor
