/-
  My own text: the sum, by the program's table and bit by bit.
-/
import Derived.Test.YthalmfbcdkihgaaDoorW4
import Derived.Test.YthalmfbcdkihgaaDoorW2
import Derived.Test.YthalmfbcdkihgaaDoorWCrc
import Derived.Laws.BitsAllLaws
namespace Go.Proofs.YthalmfbcdkihgaaDoor
open Go.RowKit Go.Extern

theorem bv_lt (s : BitVec 32) : (s.toNat : Int) < 4294967296 := by have := s.isLt; omega
theorem xor_bv (a b : BitVec 32) : bits .xor .u32 (a.toNat : Int) (b.toNat : Int) = ((a ^^^ b).toNat : Int) := by
  rw [u32_xor_nat _ _ a.isLt b.isLt, BitVec.toNat_xor]
/-- What the table holds. -/
def Tab (w : World) : Prop := ∀ i, i < 16 → w.cell? ⟨1, i, none⟩ = some (.int .u32 (tab4 i : Int))
theorem Tab.lt {w : World} (h : Tab w) : 1 < w.heap.size := by
  rcases Nat.lt_or_ge 1 w.heap.size with h0 | h0
  · exact h0
  · have := h 0 (by decide)
    simp [World.cell?, Array.getElem?_eq_none h0] at this
theorem Tab.below {w w' : World} (h : Tab w) (hb : Below w.heap.size w w') : Tab w' := fun i hi => (hb.cell (p := ⟨1, i, none⟩) h.lt).trans (h i hi)
theorem tab_lt (i : Nat) : tab4 i < 4294967296 := (gn 4 (BitVec.ofNat 32 i)).isLt
/-- Four bits, as the program has them. -/
theorem nib (a : BitVec 32) : bits .xor .u32 ((a.toNat : Int) / 16) (tab4 (a.toNat % 16) : Int) = ((gn 4 a).toNat : Int) := by
  have e : ((a.toNat : Int) / 16) = ((a.toNat / 16 : Nat) : Int) := by omega
  have := a.isLt
  rw [e, u32_xor_nat _ _ (by omega) (tab_lt _), gn4_nat]
set_option maxRecDepth 100000 in
set_option maxHeartbeats 1000000 in
theorem turned_any (s : BitVec 32) (g : Nat) (v : Value) (l : List UInt8) (w : World) (hv : RG w g v l) (hT : Tab w) (hl : l.length ≤ 140737488355328) :
    Calls Tryd.prog 35 #[.int .u32 (s.toNat : Int), v] w fun e w' => e = .returned (.int .u32 ((crc s l).toNat : Int)) ∧ w' = w := by
  obtain ⟨a, cap, rfl, hcap, hr⟩ := hv
  have HT := hide hT
  clear hT
  go_enter Tryd.func35, Tryd.ntmps35
  go_wp2_with fail
  go_loop [0, 9] (fun x i => ∃ k : Nat, k ≤ l.length ∧ i = .int .i64 k ∧ x = .int .u32 ((crc s (l.take k)).toNat : Int)) (fun _ i => l.length - (intOf i).toNat)
  case atStart => exact ⟨0, Nat.zero_le _, rfl, rfl⟩
  case round =>
    obtain ⟨k, hk, rfl, rfl⟩ := hrel
    by_cases hlt : k < l.length
    · obtain ⟨c, hc⟩ := some_at hlt
      rcases hr with h0 | ⟨off, rfl, hlg, hcell⟩
      · rw [h0] at hlt; simp at hlt
      have hx1 := hcell k c hc
      have HS : Hid (crc s (l.take (k + 1)) = stepB (crc s (l.take k)) c) := hide (by rw [List.take_add_one, hc]; exact crc_snoc _ _ _)
      clear hcell hc
      generalize crc s (l.take k) = q at HS ⊢
      have h1 := xor_bv q (w8 c)
      rw [w8_nat] at h1
      have h2 := nib (q ^^^ w8 c)
      have h3 := nib (gn 4 (q ^^^ w8 c))
      have t1 := HT.out ((q ^^^ w8 c).toNat % 16) (Nat.mod_lt _ (by decide))
      have t2 := HT.out ((gn 4 (q ^^^ w8 c)).toNat % 16) (Nat.mod_lt _ (by decide))
      have h4 : ((gn 4 (gn 4 (q ^^^ w8 c))).toNat : Int) = ((stepB q c).toNat : Int) := by unfold stepB; rw [← gn_add 4 4]
      have l1 := bv_lt (q ^^^ w8 c)
      have l2 := bv_lt (gn 4 (q ^^^ w8 c))
      have e1 : (q ^^^ w8 c).toNat % 16 = (((q ^^^ w8 c).toNat : Int) % 16).toNat := by omega
      have e2 : (gn 4 (q ^^^ w8 c)).toNat % 16 = (((gn 4 (q ^^^ w8 c)).toNat : Int) % 16).toNat := by omega
      have HST : Hid (stepB q c = crc s (l.take (k + 1))) := hide HS.out.symm
      rw [h4] at h3
      rw [HST.out] at h3
      rw [e1] at t1 h2
      rw [e2] at t2 h3
      clear e1 e2 h4 HS HST
      obtain ⟨y, hy⟩ : ∃ y : Int, Hid (((q ^^^ w8 c).toNat : Int) = y) := ⟨_, hide rfl⟩
      obtain ⟨z, hz⟩ : ∃ z : Int, Hid (((gn 4 (q ^^^ w8 c)).toNat : Int) = z) := ⟨_, hide rfl⟩
      have y0 : 0 ≤ y := by have := hy.out; omega
      have z0 : 0 ≤ z := by have := hz.out; omega
      rw [hy.out] at h1 h2 t1 l1
      rw [hz.out] at h2 h3 t2 l2
      obtain ⟨a1, ha1⟩ : ∃ a1 : Int, Hid ((tab4 (y % 16).toNat : Int) = a1) := ⟨_, hide rfl⟩
      obtain ⟨a2, ha2⟩ : ∃ a2 : Int, Hid ((tab4 (z % 16).toNat : Int) = a2) := ⟨_, hide rfl⟩
      rw [ha1.out] at t1 h2
      rw [ha2.out] at t2 h3
      have hw8 : IntKind.u32.wrap (c.toNat : Int) = (c.toNat : Int) := by have := c.toNat_lt; rw [IntKind.wrap_u32]; omega
      go_wp2_with fail
      go_round
      case rel => exact ⟨k + 1, by omega, by go_num, rfl⟩
      case measure => simp [intOf]; omega
    · have hk' : k = l.length := by omega
      subst hk'
      rw [List.take_length]
      go_wp2_with fail
      go_ret
      exact ⟨rfl, rfl⟩
theorem ones_nat : ((ones.toNat : Nat) : Int) = 4294967295 := by decide
theorem not_bv (a : BitVec 32) : bits .xor .u32 4294967295 (a.toNat : Int) = ((a ^^^ ones).toNat : Int) := by
  rw [BitVec.xor_comm, ← xor_bv ones a, ones_nat]
set_option maxRecDepth 100000 in
theorem sum_any (g : Nat) (v : Value) (l : List UInt8) (w : World) (hv : RG w g v l) (hT : Tab w) (hl : l.length ≤ 140737488355328) :
    Calls Tryd.prog 19 #[v] w fun e w' => e = .returned (.int .u32 ((sumB l).toNat : Int)) ∧ w' = w := by
  have HT := hide (turned_any ones g v l w hv hT hl)
  rw [ones_nat] at HT
  have HN : Hid (bits .xor .u32 IntKind.u32.max ((crc ones l).toNat : Int) = ((sumB l).toNat : Int)) := hide (not_bv (crc ones l))
  clear hT
  obtain ⟨a, cap, rfl, _, _⟩ := hv
  go_enter Tryd.func19, Tryd.ntmps19
  go_wp2_with fail
  refine HT.out.mono ?_
  rintro e w1 ⟨rfl, hw⟩
  obtain rfl := hw.symm
  go_wp2_with fail
  go_ret
  exact ⟨ret_i HN.out, rfl⟩

theorem and_one (n : Nat) (h : n < 4294967296) : bits .and .u32 (n : Int) 1 = ((n % 2 : Nat) : Int) := by
  have := u32_and_nat n 1 h (by decide)
  rw [Nat.and_one_is_mod] at this
  exact this
theorem bitS_ne {s : BitVec 32} {c : UInt8} {j : Nat} (h : s.toNat % 2 ≠ c.toNat / 2 ^ j % 2) : bits .xor .u32 ((s.toNat : Int) / 2) 2197175160 = ((bitS s (c.toNat.testBit j)).toNat : Int) := by
  have e : bitS s (c.toNat.testBit j) = (s >>> 1) ^^^ poly := by
    unfold bitS
    rw [if_pos]
    intro hh
    apply h
    have h1 : s.getLsbD 0 = decide (s.toNat % 2 = 1) := by unfold BitVec.getLsbD; rw [Nat.testBit_zero]
    have h2 : c.toNat.testBit j = decide (c.toNat / 2 ^ j % 2 = 1) := by rw [Nat.testBit_eq_decide_div_mod_eq]
    rw [h1, h2] at hh
    have h3 : s.toNat % 2 = 1 ↔ c.toNat / 2 ^ j % 2 = 1 := by simpa using hh
    omega
  rw [e, BitVec.toNat_xor, BitVec.toNat_ushiftRight, Nat.shiftRight_eq_div_pow]
  have h4 : ((s.toNat : Int) / 2) = ((s.toNat / 2 ^ 1 : Nat) : Int) := by omega
  have hp : (2197175160 : Int) = (poly.toNat : Int) := by decide
  have := s.isLt
  rw [h4, hp, u32_xor_nat _ _ (by omega) poly.isLt]
theorem bitS_eq2 {s : BitVec 32} {c : UInt8} {j : Nat} (h : s.toNat % 2 = c.toNat / 2 ^ j % 2) : (s.toNat : Int) / 2 = ((bitS s (c.toNat.testBit j)).toNat : Int) := by
  have e : bitS s (c.toNat.testBit j) = s >>> 1 := by
    unfold bitS
    rw [if_neg, BitVec.xor_zero]
    intro hh
    apply hh
    have h1 : s.getLsbD 0 = decide (s.toNat % 2 = 1) := by unfold BitVec.getLsbD; rw [Nat.testBit_zero]
    have h2 : c.toNat.testBit j = decide (c.toNat / 2 ^ j % 2 = 1) := by rw [Nat.testBit_eq_decide_div_mod_eq]
    rw [h1, h2, h]
  rw [e, BitVec.toNat_ushiftRight, Nat.shiftRight_eq_div_pow]
  omega
set_option maxRecDepth 100000 in
set_option maxHeartbeats 1000000 in
theorem refSum_any (g : Nat) (v : Value) (l : List UInt8) (w : World) (hv : RG w g v l) (hl : l.length ≤ 140737488355328) :
    Calls Tryd.prog 74 #[v] w fun e w' => e = .returned (.int .u32 ((sumB l).toNat : Int)) ∧ w' = w := by
  obtain ⟨a, cap, rfl, hcap, hr⟩ := hv
  go_enter Tryd.func74, Tryd.ntmps74
  go_wp2_with fail
  go_loop [3, 4] (fun x i => ∃ k : Nat, k ≤ l.length ∧ i = .int .i64 k ∧ x = .int .u32 ((crc ones (l.take k)).toNat : Int)) (fun _ i => l.length - (intOf i).toNat)
  case atStart => exact ⟨0, Nat.zero_le _, rfl, by rw [List.take_zero]; show _ = Value.int .u32 ((ones.toNat : Nat) : Int); rw [ones_nat]⟩
  case round =>
    obtain ⟨k, hk, rfl, rfl⟩ := hrel
    by_cases hlt : k < l.length
    · have dk : decide ((k : Int) < (l.length : Int)) = true := by rw [decide_eq_true_eq]; omega
      obtain ⟨c, hc⟩ := some_at hlt
      rcases hr with h0 | ⟨off, rfl, hlg, hcell⟩
      · rw [h0] at hlt; simp at hlt
      have hx1 := hcell k c hc
      have HS : Hid (crc ones (l.take (k + 1)) = stepB (crc ones (l.take k)) c) := hide (by rw [List.take_add_one, hc]; exact crc_snoc _ _ _)
      clear hcell hc
      generalize crc ones (l.take k) = q at HS ⊢
      go_wp2_with fail
      go_loop [3, 5] (fun x i => ∃ j : Nat, j ≤ 8 ∧ i = .int .i64 j ∧ x = .int .u32 ((bits8 q c j).toNat : Int)) (fun _ i => 8 - (intOf i).toNat)
      case atStart => exact ⟨0, Nat.zero_le _, rfl, rfl⟩
      case round =>
        obtain ⟨j, hj, rfl, rfl⟩ := hrel
        by_cases hlt2 : j < 8
        · have c8 := c.toNat_lt
          have hb8 : bits8 q c (j + 1) = bitS (bits8 q c j) (c.toNat.testBit j) := rfl
          have HB8 := hide hb8
          clear hb8
          generalize bits8 q c j = S at HB8 ⊢
          have hA1 := and_one S.toNat S.isLt
          have hcj : c.toNat / 2 ^ j < 256 := Nat.lt_of_le_of_lt (Nat.div_le_self _ _) (by omega)
          have hA2 := and_one (c.toNat / 2 ^ j) (by omega)
          have hdj : ((c.toNat / 2 ^ j : Nat) : Int) = (c.toNat : Int) / 2 ^ j := by simp [Int.natCast_ediv]
          rw [hdj] at hA2
          obtain ⟨y, hy⟩ : ∃ y : Int, (c.toNat : Int) / 2 ^ j = y := ⟨_, rfl⟩
          rw [hy] at hA2
          have hyy : y = ((c.toNat / 2 ^ j : Nat) : Int) := by rw [hdj]; exact hy.symm
          have y0 : 0 ≤ y := by rw [hyy]; exact Int.natCast_nonneg _
          have y1 : y < 256 := by rw [hyy]; exact Int.ofNat_lt.2 hcj
          have hym : y % 4294967296 = y := Int.emod_eq_of_lt y0 (by omega)
          clear hyy
          clear hdj
          by_cases hne : S.toNat % 2 = c.toNat / 2 ^ j % 2
          · have h9 := bitS_eq2 hne
            have hp : ((S.toNat % 2 : Nat) : Int) = ((c.toNat / 2 ^ j % 2 : Nat) : Int) := by rw [hne]
            rw [hp] at hA1
            obtain ⟨p, hpp⟩ : ∃ p : Int, Hid (((c.toNat / 2 ^ j % 2 : Nat) : Int) = p) := ⟨_, hide rfl⟩
            rw [hpp.out] at hA1 hA2
            have hq : (p != p) = false := by simp
            clear hne hp hcj
            go_wp2_with fail
            go_round
            case rel => exact ⟨j + 1, by omega, by go_num, by rw [HB8.out, ← h9]⟩
            case measure => simp [intOf]; omega
          · have h9 := bitS_ne hne
            have hq : ((((S.toNat % 2 : Nat) : Int)) != ((c.toNat / 2 ^ j % 2 : Nat) : Int)) = true := by rw [bne_iff_ne]; intro e; exact hne (Int.ofNat_inj.1 e)
            obtain ⟨p, hpp⟩ : ∃ p : Int, Hid (((c.toNat / 2 ^ j % 2 : Nat) : Int) = p) := ⟨_, hide rfl⟩
            obtain ⟨o, hoo⟩ : ∃ o : Int, Hid (((S.toNat % 2 : Nat) : Int) = o) := ⟨_, hide rfl⟩
            rw [hpp.out] at hA2 hq
            rw [hoo.out] at hA1 hq
            clear hne hcj
            go_wp2_with fail
            go_round
            case rel => exact ⟨j + 1, by omega, by go_num, by rw [HB8.out]⟩
            case measure => simp [intOf]; omega
        · have hj8 : j = 8 := by omega
          subst hj8
          rw [byte_bits, ← HS.out]
          go_wp2_with fail
          go_round
          case rel => exact ⟨k + 1, by omega, by go_num, rfl⟩
          case measure => simp [intOf]; omega
    · have hk' : k = l.length := by omega
      subst hk'
      rw [List.take_length]
      have hn : bits .xor .u32 ((crc ones l).toNat : Int) 4294967295 = ((sumB l).toNat : Int) := by
        have := xor_bv (crc ones l) ones
        rw [ones_nat] at this; exact this
      clear hr
      go_wp2_with fail
      go_ret
      exact ⟨rfl, rfl⟩
end Go.Proofs.YthalmfbcdkihgaaDoor
