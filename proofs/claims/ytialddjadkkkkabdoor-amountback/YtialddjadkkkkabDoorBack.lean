/-
  My own text: the law on what is written and read back: its walk.
-/
import Derived.Test.YtialddjadkkkkabDoorRefParse
import Derived.Test.YtialddjadkkkkabDoorBackMath
import Derived.Test.YtialddjadkkkkabDoorSums
import Derived.Test.YtialddjadkkkkabDoorInts
import Derived.WalkSmall
namespace Go.Proofs.YtialddjadkkkkabDoor
open Go.RowKit

/-- Has a text a point? -/
def pt (l : List UInt8) : Bool := decide (0 < (st l).2.1)
theorem ret_b {a b : Bool} (h : a = b) : Ending.returned (.bool a) = .returned (.bool b) := by rw [h]
theorem pt_yes {l : List UInt8} {k : Nat} {c : UInt8} (h : l.take (k + 1) = l.take k ++ [c]) (hc : c.toNat = 46) : pt l = true := by
  have h1 : (st (l.take (k + 1))).2.1 ≤ (st l).2.1 := by
    have := fold_mono (l.drop (k + 1)) (st (l.take (k + 1)))
    rwa [show (l.drop (k + 1)).foldl step (st (l.take (k + 1))) = st l by unfold st; rw [← List.foldl_append, List.take_append_drop]] at this
  rw [h, st_snoc, step_point hc] at h1
  unfold pt; simp; simp at h1; omega
theorem pt_step {l : List UInt8} {k : Nat} {c : UInt8} (h0 : (st (l.take k)).2.1 = 0) (h : l.take (k + 1) = l.take k ++ [c]) (hc : c.toNat ≠ 46) : (st (l.take (k + 1))).2.1 = 0 := by
  rw [h, st_snoc, step_digit hc]; exact h0
theorem pt_no {l : List UInt8} {k : Nat} (h0 : (st (l.take k)).2.1 = 0) (h : l.length ≤ k) : pt l = false := by
  rw [List.take_of_length_le h] at h0; unfold pt; rw [h0]; rfl
theorem fmt_len (n s : Nat) (hn : n ≤ 9223372036854775807) (hs : s ≤ 18) : (fmtL n s).length ≤ 100 := by
  unfold fmtL
  have h1 := Lib.nDigits_le20 n (by omega)
  have h2 := Lib.nDigits_le20 (n / 10 ^ s) (by have := Nat.div_le_self n (10 ^ s); omega)
  split
  · rw [Lib.decDigits_length]; omega
  · rw [List.length_append, List.length_cons, dgs_len, Lib.decDigits_length]; omega
theorem fmt_read (n s : Nat) (hn : n ≤ 9223372036854775807) (hs : s ≤ 18) : pV (fmtL n s) s = n ∧ pE (fmtL n s) s = 0 := by
  have h := fmt_back n s hn
  exact p_ok hs h.1 (by rw [h.2.1]; exact Nat.le_refl _) h.2.2.1
/-- Where a text is read, it has one point at most. -/
theorem pt_one {l : List UInt8} {s : Int} (h : pE l s = 0) (hp : pt l = true) : (st l).2.1 = 1 := by
  have hs : ¬ (s < 0 ∨ 18 < s) := by intro hc; rw [(p_arg (l := l) hc).2] at h; cases h
  cases hn : isNum l
  · rw [(p_text hs hn).2] at h; cases h
  · unfold isNum at hn; unfold pt at hp; simp at hn hp; omega

set_option maxRecDepth 100000 in
set_option maxHeartbeats 1000000 in
theorem pointed_any (l : List UInt8) (w : World) (hl : l.length ≤ 140737488355328) :
    Calls Tryd.prog 7 #[.string ⟨l.toArray⟩] w fun e w' => e = .returned (.bool (pt l)) ∧ w' = w := by
  go_enter Tryd.func7, Tryd.ntmps7
  go_wp2_with fail
  go_loop [3] (fun i => ∃ k : Nat, k ≤ l.length ∧ i = .int .i64 k ∧ Hid ((st (l.take k)).2.1 = 0)) (fun i => l.length - (intOf i).toNat)
  case atStart => exact ⟨0, Nat.zero_le _, rfl, hide rfl⟩
  case round =>
    obtain ⟨k, hk, rfl, H0⟩ := hrel
    by_cases hlt : k < l.length
    · obtain ⟨c, Hc⟩ : ∃ c, Hid (l[k] = c) := ⟨_, hide rfl⟩
      have HT : Hid (l.take (k + 1) = l.take k ++ [c]) := by rw [take_snoc_b hlt, Hc.out]; exact hide rfl
      have hsz : k < (⟨l.toArray⟩ : ByteArray).size := by rw [bytes_size]; exact hlt
      obtain ⟨x, hx, Hx⟩ : ∃ x : Nat, ((⟨l.toArray⟩ : ByteArray)[k]'hsz).toNat = x ∧ Hid (c.toNat = x) := ⟨_, rfl, by rw [← Hc.out]; exact hide rfl⟩
      clear Hc
      by_cases h46 : x = 46
      · have hb46 : ((x : Int) == 46) = true := by simp; omega
        have HY := hide (pt_yes HT.out (Hx.out.trans h46))
        go_wp2_with fail
        go_ret
        exact ⟨ret_b HY.out.symm, rfl⟩
      · have hb46 : ((x : Int) == 46) = false := by simp; omega
        have HN := hide (pt_step H0.out HT.out (by rw [Hx.out]; exact h46))
        go_wp2_with fail
        go_round
        case rel => exact ⟨k + 1, by omega, by go_num, HN⟩
        case measure => simp [intOf]; omega
    · have HN := hide (pt_no H0.out (by omega))
      go_wp2_with fail
      go_ret
      exact ⟨ret_b HN.out.symm, rfl⟩

set_option maxRecDepth 100000 in
set_option maxHeartbeats 1000000 in
theorem back_bad (n m : Int) (l : List UInt8) (s : Int) (w : World) (hE : ErrType w) (hP : Pow w) (hn : n ≤ 9223372036854775807) (h : n < 0 ∨ s < 0 ∨ 18 < s) :
    Calls Tryd.prog 3 #[.int .i64 n, .int .i64 m, .string ⟨l.toArray⟩, .int .i64 s] w fun e w' => e = .returned (.bool true) ∧ Below w.heap.size w w' := by
  have H := hide (fmt_arg h)
  have HE := hide hE
  clear hE
  by_cases h1 : n < 0
  · clear h
    go_enter Tryd.func3, Tryd.ntmps3
    go_wp2_with fail
    refine (format_any n s _ hP hn).mono ?_
    rintro e w1 ⟨rfl, hb1⟩
    rw [H.out.1, H.out.2]
    go_wp2_with fail
    refine (plain_errV 1 1 _ (by omega) (by omega) (HE.out.below hb1)).mono ?_
    rintro e w2 ⟨rfl, hb2⟩
    go_wp2_with fail
    go_ret
    exact ⟨rfl, hb1.trans (hb2.mono hb1.size)⟩
  by_cases h2 : s < 0
  · clear h
    go_enter Tryd.func3, Tryd.ntmps3
    go_wp2_with fail
    refine (format_any n s _ hP hn).mono ?_
    rintro e w1 ⟨rfl, hb1⟩
    rw [H.out.1, H.out.2]
    go_wp2_with fail
    refine (plain_errV 1 1 _ (by omega) (by omega) (HE.out.below hb1)).mono ?_
    rintro e w2 ⟨rfl, hb2⟩
    go_wp2_with fail
    go_ret
    exact ⟨rfl, hb1.trans (hb2.mono hb1.size)⟩
  have h3 : 18 < s := by omega
  clear h
  go_enter Tryd.func3, Tryd.ntmps3
  go_wp2_with fail
  refine (format_any n s _ hP hn).mono ?_
  rintro e w1 ⟨rfl, hb1⟩
  rw [H.out.1, H.out.2]
  go_wp2_with fail
  refine (plain_errV 1 1 _ (by omega) (by omega) (HE.out.below hb1)).mono ?_
  rintro e w2 ⟨rfl, hb2⟩
  go_wp2_with fail
  go_ret
  exact ⟨rfl, hb1.trans (hb2.mono hb1.size)⟩

/-- The last part: what is added can be taken away. -/
theorem two_sum (a b : Int) : [a, b].sum = a + b := by simp
theorem two_RI (w : World) (a c : Int) (t : TypeId) : RI (w.alloc (.cells #[.int .i64 a, .int .i64 c] t)) .i64 (.slice (some ⟨w.heap.size, 0, none⟩) 2 2) [a, c] := by
  refine ⟨_, 2, rfl, .inr ⟨w.heap.size, 0, rfl, by simp, fun j x hx => ?_⟩⟩
  have h := cell_two_new w (.int .i64 a) (.int .i64 c) t j (.int .i64 x) (by rcases j with _ | _ | j <;> simp at hx ⊢ <;> exact hx)
  rwa [show (⟨w.heap.size, 0, none⟩ : Addr).add j = ⟨w.heap.size, 0 + j, none⟩ by simp [Addr.add]; omega] at h

set_option maxRecDepth 100000 in
set_option maxHeartbeats 4000000 in
theorem back_fit1 (a : Nat) (m : Int) (l : List UInt8) (b : Nat) (w : World) (hE : ErrType w) (hP : Pow w) (hn : a ≤ 9223372036854775807) (hs : b ≤ 18) (hm : m ≤ 9223372036854775807) (hl : l.length ≤ 140737488355320) (hp : ¬ pE l b = 0) :
    Calls Tryd.prog 3 #[.int .i64 a, .int .i64 m, .string ⟨l.toArray⟩, .int .i64 b] w fun e w' => e = .returned (.bool true) ∧ Below w.heap.size w w' := by
  obtain ⟨T, HT, HR, hT1, hT2⟩ : ∃ T : List UInt8, Hid (fmtL a b = T) ∧ Hid (pV T b = a ∧ pE T b = 0) ∧ b + 1 ≤ T.length ∧ T.length ≤ 100 := ⟨_, hide rfl, hide (fmt_read a b hn hs), (fmt_back a b hn).2.2.2, fmt_len a b hn hs⟩
  have HF := hide (fmt_ok a b hs)
  have HP := hide hP
  have HE := hide hE
  clear hP hE
  go_enter Tryd.func3, Tryd.ntmps3
  go_wp2_with fail
  refine (format_any a b _ HP.out (by omega)).mono ?_
  rintro e w1 ⟨rfl, hb1⟩
  have HE1 := hide (HE.out.below hb1)
  rw [HF.out.1, HF.out.2, errV_zero, HT.out]
  go_wp2_with fail
  refine (parse_any T b _ (by omega)).mono ?_
  rintro e w2 ⟨rfl, rfl⟩
  rw [HR.out.1, HR.out.2, errV_zero]
  go_wp2_with fail
  refine (parse_any l b _ (by omega)).mono ?_
  rintro e w3 ⟨rfl, rfl⟩
  have hk : 1 ≤ pE l b := by have := pE_lo l b; omega
  rw [errV_pos hk]
  generalize pE l b = k at *
  generalize pV l b = y at *
  clear hp
  by_cases hm0 : m < 0
  · have HA := hide (add_arg (a := (a : Int)) (b := m) (Or.inr hm0))
    have HS := hide (sub_arg (a := (a : Int)) (b := m) (Or.inr hm0))
    go_wp2_with fail
    refine (add_any a m _ (by omega) hm).mono ?_
    rintro e w5 ⟨rfl, rfl⟩
    rw [HA.out.1, HA.out.2, errV_pos (show (1 : Int) ≤ 1 by omega)]
    go_wp2_with fail
    refine (sub_any a m _ (by omega) hm).mono ?_
    rintro e w6 ⟨rfl, rfl⟩
    rw [HS.out.1, HS.out.2, errV_pos (show (1 : Int) ≤ 1 by omega)]
    go_wp2_with fail
    go_ret
    exact ⟨rfl, hb1⟩
  obtain ⟨c, rfl⟩ := Int.eq_ofNat_of_zero_le (show 0 ≤ m by omega)
  clear hm0
  have HNN := hide (show ¬ ((a : Int) < 0 ∨ (c : Int) < 0) by omega)
  by_cases hov : 9223372036854775807 < a + c
  · have HA := hide (add_over HNN.out (show (9223372036854775807 : Int) < (a : Int) + c by omega))
    by_cases hlt : a < c
    · have HS := hide (sub_short HNN.out (show (a : Int) < c by omega))
      go_wp2_with fail
      refine (add_any a c _ (by omega) hm).mono ?_
      rintro e w5 ⟨rfl, rfl⟩
      rw [HA.out.1, HA.out.2, errV_pos (show (1 : Int) ≤ 9 by omega)]
      go_wp2_with fail
      refine (sub_any a c _ (by omega) hm).mono ?_
      rintro e w6 ⟨rfl, rfl⟩
      rw [HS.out.1, HS.out.2, errV_pos (show (1 : Int) ≤ 2 by omega)]
      go_wp2_with fail
      go_ret
      exact ⟨rfl, hb1⟩
    · have HS := hide (sub_ok HNN.out (show ¬ (a : Int) < c by omega))
      obtain ⟨d, hd, Hd⟩ : ∃ d : Nat, (a : Int) - c = (d : Int) ∧ Hid (d + c = a) := ⟨a - c, by omega, hide (by omega)⟩
      have HB : Hid (addV (d : Int) c = a ∧ addE (d : Int) c = 0) := by
        have h := add_ok (a := (d : Int)) (b := c) (by omega) (by have := Hd.out; omega)
        exact ⟨h.1.trans (by have := Hd.out; omega), h.2⟩
      rw [hd] at HS
      clear hd
      go_wp2_with fail
      refine (add_any a c _ (by omega) hm).mono ?_
      rintro e w5 ⟨rfl, rfl⟩
      rw [HA.out.1, HA.out.2, errV_pos (show (1 : Int) ≤ 9 by omega)]
      go_wp2_with fail
      refine (sub_any a c _ (by omega) hm).mono ?_
      rintro e w6 ⟨rfl, rfl⟩
      rw [HS.out.1, HS.out.2, errV_zero]
      go_wp2_with fail
      refine (add_any d c _ (by have := Hd.out; omega) hm).mono ?_
      rintro e w7 ⟨rfl, rfl⟩
      rw [HB.out.1, HB.out.2, errV_zero]
      go_wp2_with fail
      go_ret
      exact ⟨rfl, hb1⟩
  · obtain ⟨d, hd, Hd⟩ : ∃ d : Nat, (a : Int) + c = (d : Int) ∧ Hid (d = a + c) := ⟨a + c, by omega, hide rfl⟩
    have HA := hide (add_ok HNN.out (show ¬ (9223372036854775807 : Int) < (a : Int) + c by omega))
    have HS : Hid (subV (d : Int) c = a ∧ subE (d : Int) c = 0) := by
      have h := sub_ok (a := (d : Int)) (b := c) (by omega) (by have := Hd.out; omega)
      exact ⟨h.1.trans (by have := Hd.out; omega), h.2⟩
    have HU : Hid (sumV ([(a : Int), (c : Int)].sum) = d ∧ sumE ([(a : Int), (c : Int)].sum) = 0) := by
      have h := sum_ok (s := [(a : Int), (c : Int)].sum) (by rw [two_sum]; omega)
      exact ⟨h.1.trans (by rw [two_sum]; exact hd), h.2⟩
    rw [hd] at HA
    clear hd
    go_wp2_with fail
    refine (add_any a c _ (by omega) hm).mono ?_
    rintro e w5 ⟨rfl, rfl⟩
    rw [HA.out.1, HA.out.2, errV_zero]
    go_wp2_with fail
    refine (sub_any d c _ (by have := Hd.out; omega) hm).mono ?_
    rintro e w6 ⟨rfl, rfl⟩
    rw [HS.out.1, HS.out.2, errV_zero]
    go_wp2_with fail
    refine (sum_int64 _ [(a : Int), (c : Int)] _ (two_RI _ a c 2) (by simp) (by intro x hx; simp at hx; omega)).mono ?_
    rintro e w7 ⟨rfl, rfl⟩
    rw [HU.out.1, HU.out.2, errV_zero]
    go_wp2_with fail
    go_ret
    exact ⟨rfl, (hb1).alloc (hb1).size _⟩

set_option maxRecDepth 100000 in
set_option maxHeartbeats 4000000 in
theorem back_fit2 (a : Nat) (m : Int) (l : List UInt8) (b : Nat) (w : World) (hE : ErrType w) (hP : Pow w) (hn : a ≤ 9223372036854775807) (hs : b ≤ 18) (hm : m ≤ 9223372036854775807) (hl : l.length ≤ 140737488355320) (hp : pE l b = 0) (hq : pt l = false) :
    Calls Tryd.prog 3 #[.int .i64 a, .int .i64 m, .string ⟨l.toArray⟩, .int .i64 b] w fun e w' => e = .returned (.bool true) ∧ Below w.heap.size w w' := by
  obtain ⟨T, HT, HR, hT1, hT2⟩ : ∃ T : List UInt8, Hid (fmtL a b = T) ∧ Hid (pV T b = a ∧ pE T b = 0) ∧ b + 1 ≤ T.length ∧ T.length ≤ 100 := ⟨_, hide rfl, hide (fmt_read a b hn hs), (fmt_back a b hn).2.2.2, fmt_len a b hn hs⟩
  have HF := hide (fmt_ok a b hs)
  have HP := hide hP
  have HE := hide hE
  clear hP hE
  go_enter Tryd.func3, Tryd.ntmps3
  go_wp2_with fail
  refine (format_any a b _ HP.out (by omega)).mono ?_
  rintro e w1 ⟨rfl, hb1⟩
  have HE1 := hide (HE.out.below hb1)
  rw [HF.out.1, HF.out.2, errV_zero, HT.out]
  go_wp2_with fail
  refine (parse_any T b _ (by omega)).mono ?_
  rintro e w2 ⟨rfl, rfl⟩
  rw [HR.out.1, HR.out.2, errV_zero]
  go_wp2_with fail
  refine (parse_any l b _ (by omega)).mono ?_
  rintro e w3 ⟨rfl, rfl⟩
  have HQ := hide hq
  clear hq
  obtain ⟨y, Hy, HY, y0, y1⟩ : ∃ y, Hid (pV l b = y) ∧ Hid (pE l b = 0) ∧ 0 ≤ y ∧ y ≤ 9223372036854775807 := ⟨_, hide rfl, hide hp, (pV_nn l b hp).1, (pV_nn l b hp).2⟩
  obtain ⟨L1, hcat1, HL1, hl1⟩ : ∃ L1 : List UInt8, (⟨#[48]⟩ : ByteArray) ++ ⟨l.toArray⟩ = ⟨L1.toArray⟩ ∧ Hid (pV L1 b = y ∧ pE L1 b = 0) ∧ L1.length = l.length + 1 := ⟨48 :: l, by rw [bytes_app]; simp, by have h := p_cons0 hp; rw [Hy.out] at h; exact h, by simp⟩
  obtain ⟨L2, hcat2, HL2, hl2⟩ : ∃ L2 : List UInt8, (⟨l.toArray⟩ : ByteArray) ++ ⟨#[48]⟩ = ⟨L2.toArray⟩ ∧ Hid (L2 = l ++ [48]) ∧ L2.length = l.length + 1 := ⟨l ++ [48], by rw [bytes_app]; simp, hide rfl, by simp⟩
  rw [Hy.out, HY.out, errV_zero]
  clear hp
  go_wp2_with fail
  refine (parse_any L1 b _ (by omega)).mono ?_
  rintro e w31 ⟨rfl, rfl⟩
  rw [HL1.out.1, HL1.out.2, errV_zero]
  go_wp2_with fail
  refine (parse_any L2 b _ (by omega)).mono ?_
  rintro e w32 ⟨rfl, rfl⟩
  generalize pV L2 b = y2 at *
  generalize errV (pE L2 b) = e2 at *
  go_wp2_with fail
  refine (pointed_any l _ (by omega)).mono ?_
  rintro e w33 ⟨rfl, rfl⟩
  rw [HQ.out]
  by_cases hm0 : m < 0
  · have HA := hide (add_arg (a := (a : Int)) (b := m) (Or.inr hm0))
    have HS := hide (sub_arg (a := (a : Int)) (b := m) (Or.inr hm0))
    go_wp2_with fail
    refine (add_any a m _ (by omega) hm).mono ?_
    rintro e w5 ⟨rfl, rfl⟩
    rw [HA.out.1, HA.out.2, errV_pos (show (1 : Int) ≤ 1 by omega)]
    go_wp2_with fail
    refine (sub_any a m _ (by omega) hm).mono ?_
    rintro e w6 ⟨rfl, rfl⟩
    rw [HS.out.1, HS.out.2, errV_pos (show (1 : Int) ≤ 1 by omega)]
    go_wp2_with fail
    go_ret
    exact ⟨rfl, hb1⟩
  obtain ⟨c, rfl⟩ := Int.eq_ofNat_of_zero_le (show 0 ≤ m by omega)
  clear hm0
  have HNN := hide (show ¬ ((a : Int) < 0 ∨ (c : Int) < 0) by omega)
  by_cases hov : 9223372036854775807 < a + c
  · have HA := hide (add_over HNN.out (show (9223372036854775807 : Int) < (a : Int) + c by omega))
    by_cases hlt : a < c
    · have HS := hide (sub_short HNN.out (show (a : Int) < c by omega))
      go_wp2_with fail
      refine (add_any a c _ (by omega) hm).mono ?_
      rintro e w5 ⟨rfl, rfl⟩
      rw [HA.out.1, HA.out.2, errV_pos (show (1 : Int) ≤ 9 by omega)]
      go_wp2_with fail
      refine (sub_any a c _ (by omega) hm).mono ?_
      rintro e w6 ⟨rfl, rfl⟩
      rw [HS.out.1, HS.out.2, errV_pos (show (1 : Int) ≤ 2 by omega)]
      go_wp2_with fail
      go_ret
      exact ⟨rfl, hb1⟩
    · have HS := hide (sub_ok HNN.out (show ¬ (a : Int) < c by omega))
      obtain ⟨d, hd, Hd⟩ : ∃ d : Nat, (a : Int) - c = (d : Int) ∧ Hid (d + c = a) := ⟨a - c, by omega, hide (by omega)⟩
      have HB : Hid (addV (d : Int) c = a ∧ addE (d : Int) c = 0) := by
        have h := add_ok (a := (d : Int)) (b := c) (by omega) (by have := Hd.out; omega)
        exact ⟨h.1.trans (by have := Hd.out; omega), h.2⟩
      rw [hd] at HS
      clear hd
      go_wp2_with fail
      refine (add_any a c _ (by omega) hm).mono ?_
      rintro e w5 ⟨rfl, rfl⟩
      rw [HA.out.1, HA.out.2, errV_pos (show (1 : Int) ≤ 9 by omega)]
      go_wp2_with fail
      refine (sub_any a c _ (by omega) hm).mono ?_
      rintro e w6 ⟨rfl, rfl⟩
      rw [HS.out.1, HS.out.2, errV_zero]
      go_wp2_with fail
      refine (add_any d c _ (by have := Hd.out; omega) hm).mono ?_
      rintro e w7 ⟨rfl, rfl⟩
      rw [HB.out.1, HB.out.2, errV_zero]
      go_wp2_with fail
      go_ret
      exact ⟨rfl, hb1⟩
  · obtain ⟨d, hd, Hd⟩ : ∃ d : Nat, (a : Int) + c = (d : Int) ∧ Hid (d = a + c) := ⟨a + c, by omega, hide rfl⟩
    have HA := hide (add_ok HNN.out (show ¬ (9223372036854775807 : Int) < (a : Int) + c by omega))
    have HS : Hid (subV (d : Int) c = a ∧ subE (d : Int) c = 0) := by
      have h := sub_ok (a := (d : Int)) (b := c) (by omega) (by have := Hd.out; omega)
      exact ⟨h.1.trans (by have := Hd.out; omega), h.2⟩
    have HU : Hid (sumV ([(a : Int), (c : Int)].sum) = d ∧ sumE ([(a : Int), (c : Int)].sum) = 0) := by
      have h := sum_ok (s := [(a : Int), (c : Int)].sum) (by rw [two_sum]; omega)
      exact ⟨h.1.trans (by rw [two_sum]; exact hd), h.2⟩
    rw [hd] at HA
    clear hd
    go_wp2_with fail
    refine (add_any a c _ (by omega) hm).mono ?_
    rintro e w5 ⟨rfl, rfl⟩
    rw [HA.out.1, HA.out.2, errV_zero]
    go_wp2_with fail
    refine (sub_any d c _ (by have := Hd.out; omega) hm).mono ?_
    rintro e w6 ⟨rfl, rfl⟩
    rw [HS.out.1, HS.out.2, errV_zero]
    go_wp2_with fail
    refine (sum_int64 _ [(a : Int), (c : Int)] _ (two_RI _ a c 2) (by simp) (by intro x hx; simp at hx; omega)).mono ?_
    rintro e w7 ⟨rfl, rfl⟩
    rw [HU.out.1, HU.out.2, errV_zero]
    go_wp2_with fail
    go_ret
    exact ⟨rfl, (hb1).alloc (hb1).size _⟩

set_option maxRecDepth 100000 in
set_option maxHeartbeats 4000000 in
theorem back_fit3 (a : Nat) (m : Int) (l : List UInt8) (b : Nat) (w : World) (hE : ErrType w) (hP : Pow w) (hn : a ≤ 9223372036854775807) (hs : b ≤ 18) (hm : m ≤ 9223372036854775807) (hl : l.length ≤ 140737488355320) (hp : pE l b = 0) (hq : pt l = true) (hr : pV (l ++ [48]) b = pV l b ∧ pE (l ++ [48]) b = 0) :
    Calls Tryd.prog 3 #[.int .i64 a, .int .i64 m, .string ⟨l.toArray⟩, .int .i64 b] w fun e w' => e = .returned (.bool true) ∧ Below w.heap.size w w' := by
  obtain ⟨T, HT, HR, hT1, hT2⟩ : ∃ T : List UInt8, Hid (fmtL a b = T) ∧ Hid (pV T b = a ∧ pE T b = 0) ∧ b + 1 ≤ T.length ∧ T.length ≤ 100 := ⟨_, hide rfl, hide (fmt_read a b hn hs), (fmt_back a b hn).2.2.2, fmt_len a b hn hs⟩
  have HF := hide (fmt_ok a b hs)
  have HP := hide hP
  have HE := hide hE
  clear hP hE
  go_enter Tryd.func3, Tryd.ntmps3
  go_wp2_with fail
  refine (format_any a b _ HP.out (by omega)).mono ?_
  rintro e w1 ⟨rfl, hb1⟩
  have HE1 := hide (HE.out.below hb1)
  rw [HF.out.1, HF.out.2, errV_zero, HT.out]
  go_wp2_with fail
  refine (parse_any T b _ (by omega)).mono ?_
  rintro e w2 ⟨rfl, rfl⟩
  rw [HR.out.1, HR.out.2, errV_zero]
  go_wp2_with fail
  refine (parse_any l b _ (by omega)).mono ?_
  rintro e w3 ⟨rfl, rfl⟩
  have HQ := hide hq
  have HW := hide hr
  clear hq hr
  obtain ⟨y, Hy, HY, y0, y1⟩ : ∃ y, Hid (pV l b = y) ∧ Hid (pE l b = 0) ∧ 0 ≤ y ∧ y ≤ 9223372036854775807 := ⟨_, hide rfl, hide hp, (pV_nn l b hp).1, (pV_nn l b hp).2⟩
  obtain ⟨L1, hcat1, HL1, hl1⟩ : ∃ L1 : List UInt8, (⟨#[48]⟩ : ByteArray) ++ ⟨l.toArray⟩ = ⟨L1.toArray⟩ ∧ Hid (pV L1 b = y ∧ pE L1 b = 0) ∧ L1.length = l.length + 1 := ⟨48 :: l, by rw [bytes_app]; simp, by have h := p_cons0 hp; rw [Hy.out] at h; exact h, by simp⟩
  obtain ⟨L2, hcat2, HL2, hl2⟩ : ∃ L2 : List UInt8, (⟨l.toArray⟩ : ByteArray) ++ ⟨#[48]⟩ = ⟨L2.toArray⟩ ∧ Hid (L2 = l ++ [48]) ∧ L2.length = l.length + 1 := ⟨l ++ [48], by rw [bytes_app]; simp, hide rfl, by simp⟩
  rw [Hy.out, HY.out, errV_zero]
  clear hp
  go_wp2_with fail
  refine (parse_any L1 b _ (by omega)).mono ?_
  rintro e w31 ⟨rfl, rfl⟩
  rw [HL1.out.1, HL1.out.2, errV_zero]
  go_wp2_with fail
  refine (parse_any L2 b _ (by omega)).mono ?_
  rintro e w32 ⟨rfl, rfl⟩
  rw [HL2.out, HW.out.1, HW.out.2, Hy.out, errV_zero, ← HL2.out]
  go_wp2_with fail
  refine (pointed_any l _ (by omega)).mono ?_
  rintro e w33 ⟨rfl, rfl⟩
  rw [HQ.out]
  by_cases hm0 : m < 0
  · have HA := hide (add_arg (a := (a : Int)) (b := m) (Or.inr hm0))
    have HS := hide (sub_arg (a := (a : Int)) (b := m) (Or.inr hm0))
    go_wp2_with fail
    refine (add_any a m _ (by omega) hm).mono ?_
    rintro e w5 ⟨rfl, rfl⟩
    rw [HA.out.1, HA.out.2, errV_pos (show (1 : Int) ≤ 1 by omega)]
    go_wp2_with fail
    refine (sub_any a m _ (by omega) hm).mono ?_
    rintro e w6 ⟨rfl, rfl⟩
    rw [HS.out.1, HS.out.2, errV_pos (show (1 : Int) ≤ 1 by omega)]
    go_wp2_with fail
    go_ret
    exact ⟨rfl, hb1⟩
  obtain ⟨c, rfl⟩ := Int.eq_ofNat_of_zero_le (show 0 ≤ m by omega)
  clear hm0
  have HNN := hide (show ¬ ((a : Int) < 0 ∨ (c : Int) < 0) by omega)
  by_cases hov : 9223372036854775807 < a + c
  · have HA := hide (add_over HNN.out (show (9223372036854775807 : Int) < (a : Int) + c by omega))
    by_cases hlt : a < c
    · have HS := hide (sub_short HNN.out (show (a : Int) < c by omega))
      go_wp2_with fail
      refine (add_any a c _ (by omega) hm).mono ?_
      rintro e w5 ⟨rfl, rfl⟩
      rw [HA.out.1, HA.out.2, errV_pos (show (1 : Int) ≤ 9 by omega)]
      go_wp2_with fail
      refine (sub_any a c _ (by omega) hm).mono ?_
      rintro e w6 ⟨rfl, rfl⟩
      rw [HS.out.1, HS.out.2, errV_pos (show (1 : Int) ≤ 2 by omega)]
      go_wp2_with fail
      go_ret
      exact ⟨rfl, hb1⟩
    · have HS := hide (sub_ok HNN.out (show ¬ (a : Int) < c by omega))
      obtain ⟨d, hd, Hd⟩ : ∃ d : Nat, (a : Int) - c = (d : Int) ∧ Hid (d + c = a) := ⟨a - c, by omega, hide (by omega)⟩
      have HB : Hid (addV (d : Int) c = a ∧ addE (d : Int) c = 0) := by
        have h := add_ok (a := (d : Int)) (b := c) (by omega) (by have := Hd.out; omega)
        exact ⟨h.1.trans (by have := Hd.out; omega), h.2⟩
      rw [hd] at HS
      clear hd
      go_wp2_with fail
      refine (add_any a c _ (by omega) hm).mono ?_
      rintro e w5 ⟨rfl, rfl⟩
      rw [HA.out.1, HA.out.2, errV_pos (show (1 : Int) ≤ 9 by omega)]
      go_wp2_with fail
      refine (sub_any a c _ (by omega) hm).mono ?_
      rintro e w6 ⟨rfl, rfl⟩
      rw [HS.out.1, HS.out.2, errV_zero]
      go_wp2_with fail
      refine (add_any d c _ (by have := Hd.out; omega) hm).mono ?_
      rintro e w7 ⟨rfl, rfl⟩
      rw [HB.out.1, HB.out.2, errV_zero]
      go_wp2_with fail
      go_ret
      exact ⟨rfl, hb1⟩
  · obtain ⟨d, hd, Hd⟩ : ∃ d : Nat, (a : Int) + c = (d : Int) ∧ Hid (d = a + c) := ⟨a + c, by omega, hide rfl⟩
    have HA := hide (add_ok HNN.out (show ¬ (9223372036854775807 : Int) < (a : Int) + c by omega))
    have HS : Hid (subV (d : Int) c = a ∧ subE (d : Int) c = 0) := by
      have h := sub_ok (a := (d : Int)) (b := c) (by omega) (by have := Hd.out; omega)
      exact ⟨h.1.trans (by have := Hd.out; omega), h.2⟩
    have HU : Hid (sumV ([(a : Int), (c : Int)].sum) = d ∧ sumE ([(a : Int), (c : Int)].sum) = 0) := by
      have h := sum_ok (s := [(a : Int), (c : Int)].sum) (by rw [two_sum]; omega)
      exact ⟨h.1.trans (by rw [two_sum]; exact hd), h.2⟩
    rw [hd] at HA
    clear hd
    go_wp2_with fail
    refine (add_any a c _ (by omega) hm).mono ?_
    rintro e w5 ⟨rfl, rfl⟩
    rw [HA.out.1, HA.out.2, errV_zero]
    go_wp2_with fail
    refine (sub_any d c _ (by have := Hd.out; omega) hm).mono ?_
    rintro e w6 ⟨rfl, rfl⟩
    rw [HS.out.1, HS.out.2, errV_zero]
    go_wp2_with fail
    refine (sum_int64 _ [(a : Int), (c : Int)] _ (two_RI _ a c 2) (by simp) (by intro x hx; simp at hx; omega)).mono ?_
    rintro e w7 ⟨rfl, rfl⟩
    rw [HU.out.1, HU.out.2, errV_zero]
    go_wp2_with fail
    go_ret
    exact ⟨rfl, (hb1).alloc (hb1).size _⟩

set_option maxRecDepth 100000 in
set_option maxHeartbeats 4000000 in
theorem back_fit4 (a : Nat) (m : Int) (l : List UInt8) (b : Nat) (w : World) (hE : ErrType w) (hP : Pow w) (hn : a ≤ 9223372036854775807) (hs : b ≤ 18) (hm : m ≤ 9223372036854775807) (hl : l.length ≤ 140737488355320) (hp : pE l b = 0) (hq : pt l = true) (hr : pE (l ++ [48]) b = 3) :
    Calls Tryd.prog 3 #[.int .i64 a, .int .i64 m, .string ⟨l.toArray⟩, .int .i64 b] w fun e w' => e = .returned (.bool true) ∧ Below w.heap.size w w' := by
  obtain ⟨T, HT, HR, hT1, hT2⟩ : ∃ T : List UInt8, Hid (fmtL a b = T) ∧ Hid (pV T b = a ∧ pE T b = 0) ∧ b + 1 ≤ T.length ∧ T.length ≤ 100 := ⟨_, hide rfl, hide (fmt_read a b hn hs), (fmt_back a b hn).2.2.2, fmt_len a b hn hs⟩
  have HF := hide (fmt_ok a b hs)
  have HP := hide hP
  have HE := hide hE
  clear hP hE
  go_enter Tryd.func3, Tryd.ntmps3
  go_wp2_with fail
  refine (format_any a b _ HP.out (by omega)).mono ?_
  rintro e w1 ⟨rfl, hb1⟩
  have HE1 := hide (HE.out.below hb1)
  rw [HF.out.1, HF.out.2, errV_zero, HT.out]
  go_wp2_with fail
  refine (parse_any T b _ (by omega)).mono ?_
  rintro e w2 ⟨rfl, rfl⟩
  rw [HR.out.1, HR.out.2, errV_zero]
  go_wp2_with fail
  refine (parse_any l b _ (by omega)).mono ?_
  rintro e w3 ⟨rfl, rfl⟩
  have HQ := hide hq
  have HW := hide hr
  clear hq hr
  obtain ⟨y, Hy, HY, y0, y1⟩ : ∃ y, Hid (pV l b = y) ∧ Hid (pE l b = 0) ∧ 0 ≤ y ∧ y ≤ 9223372036854775807 := ⟨_, hide rfl, hide hp, (pV_nn l b hp).1, (pV_nn l b hp).2⟩
  obtain ⟨L1, hcat1, HL1, hl1⟩ : ∃ L1 : List UInt8, (⟨#[48]⟩ : ByteArray) ++ ⟨l.toArray⟩ = ⟨L1.toArray⟩ ∧ Hid (pV L1 b = y ∧ pE L1 b = 0) ∧ L1.length = l.length + 1 := ⟨48 :: l, by rw [bytes_app]; simp, by have h := p_cons0 hp; rw [Hy.out] at h; exact h, by simp⟩
  obtain ⟨L2, hcat2, HL2, hl2⟩ : ∃ L2 : List UInt8, (⟨l.toArray⟩ : ByteArray) ++ ⟨#[48]⟩ = ⟨L2.toArray⟩ ∧ Hid (L2 = l ++ [48]) ∧ L2.length = l.length + 1 := ⟨l ++ [48], by rw [bytes_app]; simp, hide rfl, by simp⟩
  rw [Hy.out, HY.out, errV_zero]
  clear hp
  go_wp2_with fail
  refine (parse_any L1 b _ (by omega)).mono ?_
  rintro e w31 ⟨rfl, rfl⟩
  rw [HL1.out.1, HL1.out.2, errV_zero]
  go_wp2_with fail
  refine (parse_any L2 b _ (by omega)).mono ?_
  rintro e w32 ⟨rfl, rfl⟩
  have HW2 : Hid (pE L2 b = 3) := by show pE L2 b = 3; rw [HL2.out]; exact HW.out
  rw [HW2.out, errV_pos (show (1 : Int) ≤ 3 by omega)]
  generalize pV L2 b = y2 at *
  go_wp2_with fail
  refine (pointed_any l _ (by omega)).mono ?_
  rintro e w33 ⟨rfl, rfl⟩
  rw [HQ.out]
  go_wp2_with fail
  refine (plain_errno 3 3 _ (by omega) (by omega) HE1.out).mono ?_
  rintro e w34 ⟨rfl, hb34⟩
  have hB := hb1.trans (hb34.mono hb1.size)
  by_cases hm0 : m < 0
  · have HA := hide (add_arg (a := (a : Int)) (b := m) (Or.inr hm0))
    have HS := hide (sub_arg (a := (a : Int)) (b := m) (Or.inr hm0))
    go_wp2_with fail
    refine (add_any a m _ (by omega) hm).mono ?_
    rintro e w5 ⟨rfl, rfl⟩
    rw [HA.out.1, HA.out.2, errV_pos (show (1 : Int) ≤ 1 by omega)]
    go_wp2_with fail
    refine (sub_any a m _ (by omega) hm).mono ?_
    rintro e w6 ⟨rfl, rfl⟩
    rw [HS.out.1, HS.out.2, errV_pos (show (1 : Int) ≤ 1 by omega)]
    go_wp2_with fail
    go_ret
    exact ⟨rfl, hB⟩
  obtain ⟨c, rfl⟩ := Int.eq_ofNat_of_zero_le (show 0 ≤ m by omega)
  clear hm0
  have HNN := hide (show ¬ ((a : Int) < 0 ∨ (c : Int) < 0) by omega)
  by_cases hov : 9223372036854775807 < a + c
  · have HA := hide (add_over HNN.out (show (9223372036854775807 : Int) < (a : Int) + c by omega))
    by_cases hlt : a < c
    · have HS := hide (sub_short HNN.out (show (a : Int) < c by omega))
      go_wp2_with fail
      refine (add_any a c _ (by omega) hm).mono ?_
      rintro e w5 ⟨rfl, rfl⟩
      rw [HA.out.1, HA.out.2, errV_pos (show (1 : Int) ≤ 9 by omega)]
      go_wp2_with fail
      refine (sub_any a c _ (by omega) hm).mono ?_
      rintro e w6 ⟨rfl, rfl⟩
      rw [HS.out.1, HS.out.2, errV_pos (show (1 : Int) ≤ 2 by omega)]
      go_wp2_with fail
      go_ret
      exact ⟨rfl, hB⟩
    · have HS := hide (sub_ok HNN.out (show ¬ (a : Int) < c by omega))
      obtain ⟨d, hd, Hd⟩ : ∃ d : Nat, (a : Int) - c = (d : Int) ∧ Hid (d + c = a) := ⟨a - c, by omega, hide (by omega)⟩
      have HB : Hid (addV (d : Int) c = a ∧ addE (d : Int) c = 0) := by
        have h := add_ok (a := (d : Int)) (b := c) (by omega) (by have := Hd.out; omega)
        exact ⟨h.1.trans (by have := Hd.out; omega), h.2⟩
      rw [hd] at HS
      clear hd
      go_wp2_with fail
      refine (add_any a c _ (by omega) hm).mono ?_
      rintro e w5 ⟨rfl, rfl⟩
      rw [HA.out.1, HA.out.2, errV_pos (show (1 : Int) ≤ 9 by omega)]
      go_wp2_with fail
      refine (sub_any a c _ (by omega) hm).mono ?_
      rintro e w6 ⟨rfl, rfl⟩
      rw [HS.out.1, HS.out.2, errV_zero]
      go_wp2_with fail
      refine (add_any d c _ (by have := Hd.out; omega) hm).mono ?_
      rintro e w7 ⟨rfl, rfl⟩
      rw [HB.out.1, HB.out.2, errV_zero]
      go_wp2_with fail
      go_ret
      exact ⟨rfl, hB⟩
  · obtain ⟨d, hd, Hd⟩ : ∃ d : Nat, (a : Int) + c = (d : Int) ∧ Hid (d = a + c) := ⟨a + c, by omega, hide rfl⟩
    have HA := hide (add_ok HNN.out (show ¬ (9223372036854775807 : Int) < (a : Int) + c by omega))
    have HS : Hid (subV (d : Int) c = a ∧ subE (d : Int) c = 0) := by
      have h := sub_ok (a := (d : Int)) (b := c) (by omega) (by have := Hd.out; omega)
      exact ⟨h.1.trans (by have := Hd.out; omega), h.2⟩
    have HU : Hid (sumV ([(a : Int), (c : Int)].sum) = d ∧ sumE ([(a : Int), (c : Int)].sum) = 0) := by
      have h := sum_ok (s := [(a : Int), (c : Int)].sum) (by rw [two_sum]; omega)
      exact ⟨h.1.trans (by rw [two_sum]; exact hd), h.2⟩
    rw [hd] at HA
    clear hd
    go_wp2_with fail
    refine (add_any a c _ (by omega) hm).mono ?_
    rintro e w5 ⟨rfl, rfl⟩
    rw [HA.out.1, HA.out.2, errV_zero]
    go_wp2_with fail
    refine (sub_any d c _ (by have := Hd.out; omega) hm).mono ?_
    rintro e w6 ⟨rfl, rfl⟩
    rw [HS.out.1, HS.out.2, errV_zero]
    go_wp2_with fail
    refine (sum_int64 _ [(a : Int), (c : Int)] _ (two_RI _ a c 2) (by simp) (by intro x hx; simp at hx; omega)).mono ?_
    rintro e w7 ⟨rfl, rfl⟩
    rw [HU.out.1, HU.out.2, errV_zero]
    go_wp2_with fail
    go_ret
    exact ⟨rfl, (hB).alloc (hB).size _⟩

theorem back_law (n m : Int) (l : List UInt8) (s : Int) (w : World) (hE : ErrType w) (hP : Pow w) (hn : n ≤ 9223372036854775807) (hm : m ≤ 9223372036854775807) (hl : l.length ≤ 140737488355320) :
    Calls Tryd.prog 3 #[.int .i64 n, .int .i64 m, .string ⟨l.toArray⟩, .int .i64 s] w fun e w' => e = .returned (.bool true) ∧ Below w.heap.size w w' := by
  by_cases h : n < 0 ∨ s < 0 ∨ 18 < s
  · exact back_bad n m l s w hE hP hn h
  · obtain ⟨a, rfl⟩ := Int.eq_ofNat_of_zero_le (show 0 ≤ n by omega)
    obtain ⟨b, rfl⟩ := Int.eq_ofNat_of_zero_le (show 0 ≤ s by omega)
    by_cases hp : pE l b = 0
    · cases hq : pt l
      · exact back_fit2 a m l b w hE hP (by omega) (by omega) hm hl hp hq
      · rcases p_snoc0 hp (pt_one hp hq) with hr | hr
        · exact back_fit3 a m l b w hE hP (by omega) (by omega) hm hl hp hq hr
        · exact back_fit4 a m l b w hE hP (by omega) (by omega) hm hl hp hq hr
    · exact back_fit1 a m l b w hE hP (by omega) (by omega) hm hl hp
end Go.Proofs.YtialddjadkkkkabDoor
