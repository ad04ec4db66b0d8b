/-
  My own text: the form of a number, behind bytes.
-/
import Derived.Test.YthalmfbcdkihgaaDoorW2
namespace Go.Proofs.YthalmfbcdkihgaaDoor
open Go.RowKit Go.Extern

theorem byte_of (x : Int) (k : Nat) : x / 2 ^ (8 * k) % 256 = ((byteAt x k).toNat : Int) := by
  rw [byteAt_nat]
  have : (2 : Int) ^ (8 * k) = 256 ^ k := by rw [Int.pow_mul]; rfl
  rw [this]
theorem bv_snoc (l : List UInt8) (c : UInt8) : bv (l ++ [c]) = bv l ++ [.int .u8 (c.toNat : Int)] := by rw [bv_app]; rfl
theorem be_snoc {n : Nat} {x : Int} {k : Nat} (h : k < n) : (be n x).take (k + 1) = (be n x).take k ++ [byteAt x (n - 1 - k)] := by
  rw [List.take_add_one, be_at n x k h]; rfl

theorem grew_lies {wr w1 : World} {v : Value} {o : Obj} {g n cap : Nat} (hgrow : (wr.alloc o).grownBy w1 v.ownBlock) (hat : v.ownBlock = some g ∨ g = wr.heap.size + 1) : Grew wr v w1 (.slice (some ⟨g, 0, none⟩) n cap) := by
  refine Grew.ofBelow ((Below.refl _ _).alloc (Nat.le_refl _) o) ⟨hgrow, fun k hk => ?_⟩
  have : g = k := by simpa [Value.ownBlock] using hk
  subst this
  rcases hat with h | h
  · exact .inl h
  · exact .inr (by rw [h]; simp)
theorem own_snoc {w : World} {B : Nat} {v : Value} {m : List UInt8} {z : Int} {c : UInt8} (h : w.ownsRow B 5 1 v (m.length + 1) (bv m ++ [.int .u8 z])) (hz : z = (c.toNat : Int)) : Own w B v (m ++ [c]) := by
  unfold Own
  rw [bv_snoc, ← hz, List.length_append]
  exact h
set_option maxRecDepth 100000 in
set_option maxHeartbeats 1000000 in
theorem appendBytes_any (x : Int) (n B : Nat) (v : Value) (l : List UInt8) (w : World) (_h0 : 0 ≤ x) (_h1 : x < 18446744073709551616) (hn : n ≤ 8) (ho : Own w B v l) (hB : B ≤ w.heap.size) (hl : l.length ≤ 140737488355300) :
    Calls Tryd.prog 36 #[v, .int .u64 x, .int .i64 n] w fun e w' => ∃ v', e = .returned v' ∧ Own w' B v' (l ++ be n x) ∧ Grew w v w' v' := by
  obtain ⟨i0, hi, hz0, hz1, hz2⟩ := info_parts Tryd.infoB
  obtain ⟨a0, c0, rfl⟩ := ho.slice
  go_enter Tryd.func36, Tryd.ntmps36
  go_wp2_with fail
  go_loopw [0, 9] (fun u i wr => ∃ (k : Nat) (v' : Value), k ≤ n ∧ i = .int .i64 k ∧ u = v' ∧ Hid (Own wr B v' (l ++ (be n x).take k)) ∧ Hid (Grew w (.slice a0 l.length c0) wr v')) (fun _ i _ => n - (intOf i).toNat)
  case atStart => exact ⟨0, _, Nat.zero_le _, rfl, rfl, by rw [List.take_zero, List.append_nil]; exact hide ho, hide (Grew.refl _ _)⟩
  case round =>
    clear ho
    obtain ⟨k, v', hk, rfl, rfl, HO, HG⟩ := hrel
    by_cases hlt : k < n
    · obtain ⟨a1, c1, rfl⟩ := HO.out.slice
      have HT := hide (be_snoc (x := x) hlt)
      have hsz : w.heap.size ≤ wr.heap.size := HG.out.grown.size
      have hln : (l ++ (be n x).take k).length = l.length + k := by rw [List.length_append, List.length_take, be_len]; omega
      obtain ⟨m, hm⟩ : ∃ m, Hid (l ++ (be n x).take k = m) := ⟨_, hide rfl⟩
      rw [hm.out] at hln HO HG ⊢
      have HLN := hide hln
      clear hln
      obtain ⟨s, hs⟩ : ∃ s : Int, 8 * ((n : Int) - 1 - (k : Int)) = s := ⟨_, rfl⟩
      have s0 : 0 ≤ s := by omega
      have s1 : s ≤ 64 := by omega
      have HS : Hid (s.toNat = 8 * (n - 1 - k)) := hide (by omega)
      have HW := hide (byte_of x (n - 1 - k))
      rw [← HS.out] at HW
      obtain ⟨y, hy⟩ : ∃ y : Int, x / 2 ^ s.toNat = y := ⟨_, rfl⟩
      rw [hy] at HW
      go_wp2_with (first
        | (at_builtin; refine wpList_append_lies _ rfl _ _ 29 rfl B 5 i0 (.int .u8 0) 1 1 Tryd.underlying29 hi hz0 hz1 hz2 rfl (by decide) _ _ _ rfl (HO.out.alloc _) ⟨_, 0, none⟩ 1 1 [.int .u8 (y % 256)] rfl rfl ?c1 ?c2 (by decide) ?c3 ?c4 ?c5 _ rfl ?_)
        | go_in)
      case c1 =>
        intro j u hj
        match j, hj with
        | 0, hj => simp at hj; subst hj; simp [Addr.add]
      case c2 => intro u hu; simp at hu; subst hu; rfl
      case c3 => have := HLN.out; unfold maxLen; omega
      case c4 => have := HLN.out; omega
      case c5 => simp; omega
      intro g cap w1 hown' hgrow hat hlt'
      have HO1 : Hid (Own w1 B (.slice (some ⟨g, 0, none⟩) (m.length + 1) cap) (l ++ List.take (k + 1) (be n x))) := hide (by rw [HT.out, ← List.append_assoc, hm.out]; exact own_snoc hown' HW.out)
      have HG1 := hide (HG.out.trans (grew_lies (n := m.length + 1) (cap := cap) hgrow hat))
      clear HO HG hown' hgrow hat hy hs HW HS
      go_wp2_with fail
      go_roundw
      case rel => exact ⟨k + 1, _, by omega, by go_num, rfl, HO1, HG1⟩
      case measure => simp [intOf]; omega
    · have hk' : k = n := by omega
      subst hk'
      rw [List.take_of_length_le (by rw [be_len]; exact Nat.le_refl _)] at HO
      obtain ⟨a1, c1, rfl⟩ := HO.out.slice
      go_wp2_with fail
      go_ret
      exact ⟨_, rfl, HO.out, HG.out⟩

set_option maxRecDepth 100000 in
set_option maxHeartbeats 1000000 in
theorem appendForm_any (x : Int) (B : Nat) (v : Value) (l : List UInt8) (w : World) (h0 : 0 ≤ x) (h1 : x < 18446744073709551616) (ho : Own w B v l) (hB : B ≤ w.heap.size) (hl : l.length ≤ 140737488355200) :
    Calls Tryd.prog 28 #[v, .int .u64 x] w fun e w' => ∃ v', e = .returned v' ∧ Own w' B v' (l ++ form x) ∧ Grew w v w' v' := by
  obtain ⟨i0, hi, hz0, hz1, hz2⟩ := info_parts Tryd.infoB
  obtain ⟨a0, c0, rfl⟩ := ho.slice
  have HO := hide ho
  clear ho
  by_cases hx : x < 248
  · have HN := hide (fun W : World => behind_small x W h0 hx)
    have HF : Hid (form x = [byteAt x 0]) := hide (by unfold form; rw [if_pos hx])
    have HW := hide (byteAt_nat x 0)
    rw [Int.pow_zero, Int.ediv_one] at HW
    rw [HF.out]
    go_enter Tryd.func28, Tryd.ntmps28
    go_wp2_with fail
    refine (HN.out _).mono ?_
    rintro e w1 ⟨rfl, hw⟩
    obtain rfl := hw.symm
    go_wp2_with (first
      | (at_builtin; refine wpList_append_lies _ rfl _ _ 29 rfl B 5 i0 (.int .u8 0) 1 1 Tryd.underlying29 hi hz0 hz1 hz2 rfl (by decide) _ _ _ rfl (HO.out.alloc _) ⟨_, 0, none⟩ 1 1 [.int .u8 x] rfl rfl ?c1 ?c2 (by decide) ?c3 ?c4 ?c5 _ rfl ?_)
      | go_in)
    case c1 =>
      intro j u hj
      match j, hj with
      | 0, hj => simp at hj; subst hj; simp [Addr.add]
    case c2 => intro u hu; simp at hu; subst hu; rfl
    case c3 => unfold maxLen; omega
    case c4 => omega
    case c5 => simp; omega
    intro g cap w1 hown' hgrow hat hlt'
    have HO1 := hide (own_snoc (c := byteAt x 0) hown' (by rw [HW.out]; omega))
    have HG1 := hide (grew_lies (n := l.length + 1) (cap := cap) hgrow hat)
    clear hown' hgrow hat
    go_wp2_with fail
    go_ret
    exact ⟨_, rfl, HO1.out, HG1.out⟩
  · have HN := hide (fun W : World => behind_big x W (by omega) h1)
    have n8 := nb_le x
    have n1 := nb_pos (x := x) (by omega)
    have HF : Hid (form x = UInt8.ofNat (247 + nb x) :: be (nb x) x) := hide (by unfold form; rw [if_neg hx])
    have HC : Hid ((247 + (nb x : Int)) = ((UInt8.ofNat (247 + nb x)).toNat : Int)) := hide (by rw [UInt8.toNat_ofNat', Nat.mod_eq_of_lt (by omega)]; omega)
    have HA := hide (fun (v : Value) (m : List UInt8) (W : World) => appendBytes_any x (nb x) B v m W h0 h1 n8)
    rw [HF.out]
    obtain ⟨n, hn⟩ : ∃ n, Hid (nb x = n) := ⟨_, hide rfl⟩
    rw [hn.out] at HN n8 n1 HC HA ⊢
    obtain ⟨R, hR⟩ : ∃ R, Hid (l ++ UInt8.ofNat (247 + n) :: be n x = R) := ⟨_, hide rfl⟩
    rw [hR.out]
    have hne : ((n : Int) == 0) = false := by simp; omega
    go_enter Tryd.func28, Tryd.ntmps28
    go_wp2_with fail
    refine (HN.out _).mono ?_
    rintro e w1 ⟨rfl, hw⟩
    obtain rfl := hw.symm
    go_wp2_with (first
      | (at_builtin; refine wpList_append_lies _ rfl _ _ 29 rfl B 5 i0 (.int .u8 0) 1 1 Tryd.underlying29 hi hz0 hz1 hz2 rfl (by decide) _ _ _ rfl (HO.out.alloc _) ⟨_, 0, none⟩ 1 1 [.int .u8 (247 + (n : Int))] rfl rfl ?c1 ?c2 (by decide) ?c3 ?c4 ?c5 _ rfl ?_)
      | go_in)
    case c1 =>
      intro j u hj
      match j, hj with
      | 0, hj => simp at hj; subst hj; simp [Addr.add]
    case c2 => intro u hu; simp at hu; subst hu; rfl
    case c3 => unfold maxLen; omega
    case c4 => omega
    case c5 => simp; omega
    intro g cap w1 hown' hgrow hat hlt'
    have HO1 := hide (own_snoc hown' HC.out)
    have HG1 := hide (grew_lies (n := l.length + 1) (cap := cap) hgrow hat)
    have hsz : w.heap.size ≤ w1.heap.size := HG1.out.grown.size
    clear hown' hgrow hat
    go_wp2_with fail
    refine (HA.out _ _ _ HO1.out (by omega) (by simp; omega)).mono ?_
    rintro e w2 ⟨v2, rfl, ho2, hg2⟩
    have HO2 := hide ho2
    rw [List.append_assoc, List.singleton_append, hR.out] at HO2
    have HG2 := hide (HG1.out.trans hg2)
    obtain ⟨a2, c2, rfl⟩ := HO2.out.slice
    clear ho2 hg2
    go_wp2_with fail
    go_ret
    exact ⟨_, rfl, HO2.out, HG2.out⟩
end Go.Proofs.YthalmfbcdkihgaaDoor
