/-
  My own text: the document's own form of a number.
-/
import Derived.Test.YthalmfbcdkihgaaDoorWR1
namespace Go.Proofs.YthalmfbcdkihgaaDoor
open Go.RowKit Go.Extern

theorem sz_big {x : Int} (h : ¬ x < 248) : sz x = nb x := by unfold sz; rw [if_neg h]
set_option maxRecDepth 100000 in
set_option maxHeartbeats 1000000 in
theorem refPutUint_any (x : Int) (B : Nat) (v : Value) (l : List UInt8) (w : World) (h0 : 0 ≤ x) (h1 : x < 18446744073709551616) (ho : Own w B v l) (hB : B ≤ w.heap.size) (hl : l.length ≤ 140737488355200) :
    Calls Tryd.prog 24 #[v, .int .u64 x] w fun e w' => ∃ v', e = .returned v' ∧ Own w' B v' (l ++ form x) ∧ Grew w v w' v' := by
  obtain ⟨i0, hi, hz0, hz1, hz2⟩ := info_parts Tryd.infoB
  obtain ⟨a0, c0, rfl⟩ := ho.slice
  have HO := hide ho
  clear ho
  by_cases hx : x < 248
  · have dx : decide (x < 248) = true := by rw [decide_eq_true_eq]; exact hx
    have HF : Hid (form x = [byteAt x 0]) := hide (by unfold form; rw [if_pos hx])
    have HW := hide (byteAt_nat x 0)
    rw [Int.pow_zero, Int.ediv_one] at HW
    rw [HF.out]
    go_enter Tryd.func24, Tryd.ntmps24
    go_wp2_with (first
      | (at_builtin; refine wpList_append_lies _ rfl _ _ 29 rfl B 5 i0 (.int .u8 0) 1 1 Tryd.underlying29 hi hz0 hz1 hz2 rfl (by decide) _ _ _ rfl (HO.out.alloc _) ⟨_, 0, none⟩ 1 1 [.int .u8 x] rfl rfl ?c1 ?c2 (by decide) ?c3 ?c4 ?c5 _ rfl ?_)
      | go_in)
    case c1 =>
      intro j u hj
      match j, hj with
      | 0, hj => simp at hj; subst hj; simp [Addr.add]
    case c2 => intro u hu; simp at hu; subst hu; rfl
    case c3 => unfold maxLen; omega
    case c4 => omega
    case c5 => simp; omega
    intro g cap w1 hown' hgrow hat hlt'
    have HO1 := hide (own_snoc (c := byteAt x 0) hown' (by rw [HW.out]; omega))
    have HG1 := hide (grew_lies (n := l.length + 1) (cap := cap) hgrow hat)
    clear hown' hgrow hat
    go_wp2_with fail
    go_ret
    exact ⟨_, rfl, HO1.out, HG1.out⟩
  · have dx : decide (x < 248) = false := by rw [decide_eq_false_iff_not]; exact hx
    have HN := hide (fun W : World => size_any x W h0 h1)
    have n8 := nb_le x
    have n1 := nb_pos (x := x) (by omega)
    have HF : Hid (form x = UInt8.ofNat (247 + nb x) :: be (nb x) x) := hide (by unfold form; rw [if_neg hx])
    have HC : Hid ((247 + (nb x : Int)) = ((UInt8.ofNat (247 + nb x)).toNat : Int)) := hide (by rw [UInt8.toNat_ofNat', Nat.mod_eq_of_lt (by omega)]; omega)
    rw [HF.out]
    rw [sz_big hx] at HN
    obtain ⟨n, hn⟩ : ∃ n, Hid (nb x = n) := ⟨_, hide rfl⟩
    rw [hn.out] at HN n8 n1 HC ⊢
    obtain ⟨R, hR⟩ : ∃ R, Hid (l ++ UInt8.ofNat (247 + n) :: be n x = R) := ⟨_, hide rfl⟩
    rw [hR.out]
    go_enter Tryd.func24, Tryd.ntmps24
    go_wp2_with fail
    refine (HN.out _).mono ?_
    rintro e w1 ⟨rfl, hw⟩
    obtain rfl := hw.symm
    go_wp2_with (first
      | (at_builtin; refine wpList_append_lies _ rfl _ _ 29 rfl B 5 i0 (.int .u8 0) 1 1 Tryd.underlying29 hi hz0 hz1 hz2 rfl (by decide) _ _ _ rfl (HO.out.alloc _) ⟨_, 0, none⟩ 1 1 [.int .u8 (247 + (n : Int))] rfl rfl ?c1 ?c2 (by decide) ?c3 ?c4 ?c5 _ rfl ?_)
      | go_in)
    case c1 =>
      intro j u hj
      match j, hj with
      | 0, hj => simp at hj; subst hj; simp [Addr.add]
    case c2 => intro u hu; simp at hu; subst hu; rfl
    case c3 => unfold maxLen; omega
    case c4 => omega
    case c5 => simp; omega
    intro g cap w1 hown' hgrow hat hlt'
    have HO1 := hide (own_snoc hown' HC.out)
    have HG1 := hide (grew_lies (n := l.length + 1) (cap := cap) hgrow hat)
    have hsz : w.heap.size ≤ w1.heap.size := HG1.out.grown.size
    have HLm : Hid ((l ++ [UInt8.ofNat (247 + n)]).length = l.length + 1) := hide (by simp)
    have HRm : Hid ((l ++ [UInt8.ofNat (247 + n)]) ++ be n x = R) := hide (by rw [List.append_assoc, List.singleton_append]; exact hR.out)
    obtain ⟨M, hM⟩ : ∃ M, Hid (l ++ [UInt8.ofNat (247 + n)] = M) := ⟨_, hide rfl⟩
    rw [hM.out] at HO1 HLm HRm
    clear hown' hgrow hat HO HN
    go_wp2_with fail
    go_loopw [0, 6] (fun u i wr => ∃ (k : Nat) (v' : Value), k ≤ n ∧ i = .int .i64 ((n : Int) - 1 - (k : Int)) ∧ u = v' ∧ Hid (Own wr B v' (M ++ (be n x).take k)) ∧ Hid (Grew w (.slice a0 l.length c0) wr v')) (fun _ i _ => (intOf i + 1).toNat)
    case atStart => exact ⟨0, _, Nat.zero_le _, by congr 1; omega, rfl, by rw [List.take_zero, List.append_nil]; exact HO1, HG1⟩
    case round =>
      clear HO1 HG1
      obtain ⟨k, v', hk, rfl, rfl, HO, HG⟩ := hrel
      by_cases hlt : k < n
      · obtain ⟨a1, c1, rfl⟩ := HO.out.slice
        have HT := hide (be_snoc (x := x) hlt)
        have hsz : w.heap.size ≤ wr.heap.size := HG.out.grown.size
        have hln : (M ++ (be n x).take k).length = l.length + 1 + k := by rw [List.length_append, List.length_take, be_len, HLm.out]; omega
        obtain ⟨m, hm⟩ : ∃ m, Hid (M ++ (be n x).take k = m) := ⟨_, hide rfl⟩
        rw [hm.out] at hln HO HG ⊢
        have HLN := hide hln
        clear hln
        obtain ⟨q, hq⟩ : ∃ q : Int, Hid ((n : Int) - 1 - (k : Int) = q) := ⟨_, hide rfl⟩
        have hq2 := hq.out
        rw [hq.out]
        have q0 : 0 ≤ q := by omega
        have q8 : q ≤ 8 := by omega
        have HQ : Hid ((n : Int) - 1 - ((k + 1 : Nat) : Int) = q - 1) := hide (by omega)
        have dq : decide (0 ≤ q) = true := by rw [decide_eq_true_eq]; exact q0
        obtain ⟨s, hs⟩ : ∃ s : Int, 8 * q = s := ⟨_, rfl⟩
        have s0 : 0 ≤ s := by omega
        have s1 : s ≤ 64 := by omega
        have HS : Hid (s.toNat = 8 * (n - 1 - k)) := hide (by omega)
        have HW := hide (byte_of x (n - 1 - k))
        rw [← HS.out] at HW
        obtain ⟨y, hy⟩ : ∃ y : Int, x / 2 ^ s.toNat = y := ⟨_, rfl⟩
        rw [hy] at HW
        clear hq2
        go_wp2_with (first
          | (at_builtin; refine wpList_append_lies _ rfl _ _ 29 rfl B 5 i0 (.int .u8 0) 1 1 Tryd.underlying29 hi hz0 hz1 hz2 rfl (by decide) _ _ _ rfl (HO.out.alloc _) ⟨_, 0, none⟩ 1 1 [.int .u8 (y % 256)] rfl rfl ?d1 ?d2 (by decide) ?d3 ?d4 ?d5 _ rfl ?_)
          | go_in)
        case d1 =>
          intro j u hj
          match j, hj with
          | 0, hj => simp at hj; subst hj; simp [Addr.add]
        case d2 => intro u hu; simp at hu; subst hu; rfl
        case d3 => have := HLN.out; unfold maxLen; omega
        case d4 => have := HLN.out; omega
        case d5 => simp; omega
        intro g cap w1 hown' hgrow hat hlt'
        have HO1 : Hid (Own w1 B (.slice (some ⟨g, 0, none⟩) (m.length + 1) cap) (M ++ List.take (k + 1) (be n x))) := hide (by rw [HT.out, ← List.append_assoc, hm.out]; exact own_snoc hown' HW.out)
        have HG1 := hide (HG.out.trans (grew_lies (n := m.length + 1) (cap := cap) hgrow hat))
        clear HO HG hown' hgrow hat hy hs HW HS
        go_wp2_with fail
        go_roundw
        case rel => exact ⟨k + 1, _, by omega, by rw [HQ.out], rfl, HO1, HG1⟩
        case measure => simp [intOf]; omega
      · have hk' : k = n := by omega
        subst hk'
        rw [List.take_of_length_le (by rw [be_len]; exact Nat.le_refl _), HRm.out] at HO
        rw [show (k : Int) - 1 - (k : Int) = -1 by omega]
        obtain ⟨a1, c1, rfl⟩ := HO.out.slice
        go_wp2_with fail
        go_ret
        exact ⟨_, rfl, HO.out, HG.out⟩
end Go.Proofs.YthalmfbcdkihgaaDoor
