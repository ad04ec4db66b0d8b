/-
  My own text: frames found again, their beginnings: the mathematics.
-/
import Derived.Test.YtbkgegiglegnjabDoorWBm
namespace Go.Proofs.YtbkgegiglegnjabDoor

theorem beg_prefix {x : Int} {i : Nat} (h : i < (form x).length) : beg ((form x).take i) = (0, 0, 2) := by
  cases i with
  | zero => rfl
  | succ i =>
    by_cases hx : x < 248
    · have hf : form x = [byteAt x 0] := by unfold form; rw [if_pos hx]
      rw [hf] at h; simp at h
    · have n1 := nb_pos (x := x) (by omega)
      have n8 := nb_le x
      have hf : form x = UInt8.ofNat (247 + nb x) :: be (nb x) x := by unfold form; rw [if_neg hx]
      have hn : (UInt8.ofNat (247 + nb x)).toNat = 247 + nb x := by rw [UInt8.toNat_ofNat', Nat.mod_eq_of_lt (by omega)]
      rw [hf, List.length_cons, be_len] at h
      rw [hf, List.take_succ_cons]
      refine beg_short (by omega) ?_
      rw [hn, List.length_take, be_len]; omega
theorem rdU_short {most x : Int} {i : Nat} (h : i < (form x).length) : rdU most ((form x).take i) 0 = (0, (form x).take i, 2) := by
  have hb := beg_prefix h
  rw [rdU_bad (by rw [hb]; decide), hb]
theorem rdT_short {size : Int} {l : List UInt8} (h : (l.length : Int) < size) : rdT size l 0 = ([], l, 2) := by unfold rdT; rw [if_neg (by simp), if_pos h]
theorem rdT_err {size : Int} {l : List UInt8} {e : Int} (h : e ≠ 0) : rdT size l e = ([], l, e) := by unfold rdT; rw [if_pos h]
theorem unE_err {l : List UInt8} (h : (un4 l).2.2 = 2) : unE l = 2 := by unfold unE; rw [if_pos (by rw [h]; decide), h]
theorem take_app {a b : List UInt8} {i : Nat} (h : a.length ≤ i) : (a ++ b).take i = a ++ b.take (i - a.length) := by
  rw [List.take_append, List.take_of_length_le h]
theorem unE_prefix {x : Int} {l : List UInt8} (h0 : 0 ≤ x) (h1 : x < 18446744073709551616) (hl : l.length ≤ 65536) {i : Nat} (hi : i < (frameL x l).length) : unE ((frameL x l).take i) = 2 := by
  apply unE_err
  have e0 : frameL x l = form (l.length : Int) ++ (form x ++ (be 4 ((fsum x l).toNat : Int) ++ l)) := by unfold frameL headL; simp [List.append_assoc]
  have hlen : (frameL x l).length = (form (l.length : Int)).length + ((form x).length + (4 + l.length)) := by rw [e0]; simp [be_len]
  by_cases c1 : i < (form (l.length : Int)).length
  · have e1 : un1 ((frameL x l).take i) = (0, (form (l.length : Int)).take i, 2) := by
      unfold un1
      rw [e0, List.take_append_of_le_length (by omega)]
      exact rdU_short c1
    have e2 : (un2 ((frameL x l).take i)).2.2 = 2 := by unfold un2; rw [e1]; show (rdU _ _ 2).2.2 = 2; rw [rdU_err (by decide)]
    have e3 : (un3 ((frameL x l).take i)).2.2 = 2 := by unfold un3; rw [e2, rdT_err (by decide)]
    unfold un4; rw [e3, rdT_err (by decide)]
  · have e1 : un1 ((frameL x l).take i) = ((l.length : Int), (form x ++ (be 4 ((fsum x l).toNat : Int) ++ l)).take (i - (form (l.length : Int)).length), 0) := by
      unfold un1
      rw [e0, take_app (by omega)]
      exact rdU_of_form (by omega) (by omega) (by omega) _
    by_cases c2 : i - (form (l.length : Int)).length < (form x).length
    · have e2 : (un2 ((frameL x l).take i)).2.2 = 2 := by
        unfold un2; rw [e1]
        dsimp only
        rw [List.take_append_of_le_length (by omega), rdU_short c2]
      have e3 : (un3 ((frameL x l).take i)).2.2 = 2 := by unfold un3; rw [e2, rdT_err (by decide)]
      unfold un4; rw [e3, rdT_err (by decide)]
    · have e2 : un2 ((frameL x l).take i) = (x, (be 4 ((fsum x l).toNat : Int) ++ l).take (i - (form (l.length : Int)).length - (form x).length), 0) := by
        unfold un2; rw [e1]
        dsimp only
        rw [take_app (by omega)]
        exact rdU_of_form h0 h1 (by omega) _
      by_cases c3 : i - (form (l.length : Int)).length - (form x).length < 4
      · have e3 : (un3 ((frameL x l).take i)).2.2 = 2 := by
          unfold un3; rw [e2]
          show (rdT 4 (List.take _ _) 0).2.2 = 2
          rw [rdT_short (by rw [List.length_take]; omega)]
        unfold un4; rw [e3, rdT_err (by decide)]
      · have e3 : un3 ((frameL x l).take i) = (be 4 ((fsum x l).toNat : Int), l.take (i - (form (l.length : Int)).length - (form x).length - 4), 0) := by
          unfold un3; rw [e2]
          show rdT 4 (List.take _ _) 0 = _
          rw [take_app (by rw [be_len]; omega), be_len]
          unfold rdT
          rw [if_neg (by simp), if_neg (by rw [List.length_append, be_len]; omega)]
          have : (4 : Int).toNat = (be 4 ((fsum x l).toNat : Int)).length := by rw [be_len]; rfl
          rw [this, List.take_left, List.drop_left]
        unfold un4; rw [e1, e3]
        show (rdT (l.length : Int) (List.take _ _) 0).2.2 = 2
        rw [rdT_short (by rw [List.length_take]; omega)]
theorem unE_frame {x : Int} {l r : List UInt8} (h0 : 0 ≤ x) (h1 : x < 18446744073709551616) (hl : l.length ≤ 65536) : unE (frameL x l ++ r) = 0 ∧ (un2 (frameL x l ++ r)).1 = x ∧ un4 (frameL x l ++ r) = (l, r, 0) := by
  have e : frameL x l ++ r = form (l.length : Int) ++ form x ++ be 4 ((fsum x l).toNat : Int) ++ l ++ r := rfl
  rw [e]
  obtain ⟨_, e2, _, e4⟩ := un_of (x := x) (s := be 4 ((fsum x l).toNat : Int)) (m := l) (r := r) h0 h1 (be_len _ _) hl
  refine ⟨?_, by rw [e2], e4⟩
  rw [unE_of h0 h1 (be_len _ _) hl, bval_sum, if_pos rfl]
theorem rdT_was {size : Int} {l : List UInt8} {e : Int} (h : (rdT size l e).2.2 = 0) : e = 0 ∧ ¬ (l.length : Int) < size := by
  unfold rdT at h
  by_cases he : e = 0
  · rw [if_neg (by simp [he])] at h
    refine ⟨he, fun hs => ?_⟩
    rw [if_pos hs] at h; cases h
  · rw [if_pos he] at h; exact absurd h he
theorem rdU_full {most : Int} {l : List UInt8} {e : Int} (h : (rdU most l e).2.2 = 0) : e = 0 ∧ form (rdU most l e).1 ++ (rdU most l e).2.1 = l ∧ (rdU most l e).1 ≤ most := by
  by_cases he : e = 0
  · subst he
    refine ⟨rfl, ?_⟩
    by_cases hb : (beg l).2.2 = 0
    · by_cases hm : most < (beg l).1
      · rw [rdU_many hb hm] at h; cases h
      · rw [rdU_ok hb hm]
        exact ⟨by show form (beg l).1 ++ l.drop (beg l).2.1 = l; rw [beg_form hb, List.take_append_drop], by show (beg l).1 ≤ most; omega⟩
    · rw [rdU_bad hb] at h; exact absurd h hb
  · rw [rdU_err he] at h; exact absurd h he
/-- What is taken is a frame. -/
theorem unE_taken {b : List UInt8} (h : unE b = 0) : b = frameL (un2 b).1 (un4 b).1 ++ (un4 b).2.1 ∧ (un4 b).1.length ≤ 65536 := by
  have h4 : (un4 b).2.2 = 0 := by
    unfold unE at h
    by_cases h0 : (un4 b).2.2 = 0
    · exact h0
    · rw [if_pos h0] at h; exact absurd h h0
  have hs : bval (un3 b).1 = ((fsum (un2 b).1 (un4 b).1).toNat : Int) := by
    unfold unE at h
    rw [if_neg (by simp [h4])] at h
    by_cases hs : bval (un3 b).1 = ((fsum (un2 b).1 (un4 b).1).toNat : Int)
    · exact hs
    · rw [if_neg hs] at h; cases h
  obtain ⟨h3, hl4⟩ := rdT_was (size := (un1 b).1) (l := (un3 b).2.1) h4
  obtain ⟨h2, hl3⟩ := rdT_was (size := 4) (l := (un2 b).2.1) h3
  obtain ⟨h1, e2, _⟩ := rdU_full (most := 18446744073709551615) (l := (un1 b).2.1) h2
  obtain ⟨_, e1, x6⟩ := rdU_full (most := 65536) (l := b) (e := 0) h1
  obtain ⟨x0, _⟩ := (un_rng b).1
  have f3 : un3 b = ((un2 b).2.1.take 4, (un2 b).2.1.drop 4, 0) := by
    show rdT 4 _ _ = _
    unfold rdT; rw [if_neg (by simp [h2]), if_neg hl3]; rfl
  have f4 : un4 b = ((un3 b).2.1.take (un1 b).1.toNat, (un3 b).2.1.drop (un1 b).1.toNat, 0) := by
    show rdT _ _ _ = _
    unfold rdT; rw [if_neg (by simp [h3]), if_neg hl4]
  have l4 : (un4 b).1.length = (un1 b).1.toNat := by rw [f4]; show (List.take _ _).length = _; rw [List.length_take]; omega
  have l3 : (un3 b).1.length = 4 := by rw [f3]; show (List.take _ _).length = _; rw [List.length_take]; omega
  have hx : ((un4 b).1.length : Int) = (un1 b).1 := by rw [l4]; omega
  have s3 : (un3 b).1 = be 4 ((fsum (un2 b).1 (un4 b).1).toNat : Int) := by
    have hb := be_bval (un3 b).1
    rw [l3, hs] at hb; exact hb.symm
  have a3 : (un2 b).2.1 = (un3 b).1 ++ (un3 b).2.1 := by rw [f3]; exact (List.take_append_drop _ _).symm
  have a4 : (un3 b).2.1 = (un4 b).1 ++ (un4 b).2.1 := by rw [f4]; exact (List.take_append_drop _ _).symm
  have e1' : form (un1 b).1 ++ (un1 b).2.1 = b := e1
  have e2' : form (un2 b).1 ++ (un2 b).2.1 = (un1 b).2.1 := e2
  refine ⟨?_, by have x6' : (un1 b).1 ≤ 65536 := x6; omega⟩
  unfold frameL headL
  rw [hx, ← s3, List.append_assoc, ← a4, List.append_assoc, ← a3, List.append_assoc, e2', e1']
end Go.Proofs.YtbkgegiglegnjabDoor
