/-
  My own text: the law PartialFair.
-/
import Derived.Test.YtmojckejjjlkjabY3
namespace Go.Proofs.Ytmojckejjjlkjab
open Go.RowKit

theorem ediv_two {u v Q : Int} (Q0 : 0 < Q) : (u + v) / Q - u / Q = v / Q ∨ (u + v) / Q - u / Q = v / Q + 1 := by
  have e1 := Int.emod_add_mul_ediv u Q
  have e2 := Int.emod_add_mul_ediv v Q
  have r0 := Int.emod_nonneg u (show Q ≠ 0 by omega)
  have r1 := Int.emod_lt_of_pos u Q0
  have t0 := Int.emod_nonneg v (show Q ≠ 0 by omega)
  have t1 := Int.emod_lt_of_pos v Q0
  have e3 : u + v = (u % Q + v % Q) + Q * (u / Q + v / Q) := by rw [Int.mul_add]; omega
  rw [e3, Int.add_mul_ediv_left _ _ (show Q ≠ 0 by omega)]
  by_cases h : u % Q + v % Q < Q
  · rw [Int.ediv_eq_zero_of_lt (by omega) h]; omega
  · have e4 : u % Q + v % Q = (u % Q + v % Q - Q) + Q * 1 := by omega
    rw [e4, Int.add_mul_ediv_left _ _ (show Q ≠ 0 by omega), Int.ediv_eq_zero_of_lt (by omega) (by omega)]; omega
theorem mon_fair {Q A D p : Int} (Q0 : 0 < Q) : mon Q A D p = mon Q A 0 p ∨ mon Q A D p = mon Q A 0 p + 1 := by
  have h := ediv_two (u := A * D) (v := A * p) Q0
  have e : mon Q A 0 p = A * p / Q := by unfold mon; rw [sh_zero, Int.zero_add]; unfold sh; omega
  have e2 : mon Q A D p = (A * D + A * p) / Q - A * D / Q := by unfold mon sh; rw [Int.mul_add]
  rw [e, e2]; exact h
theorem mon_two (Q A D p b : Int) : mon Q A D (p + b) = mon Q A D p + mon Q A (D + p) b := by unfold mon; rw [Int.add_assoc]; omega
theorem mon_bnd {Q A D p : Int} (Q0 : 0 < Q) (A0 : 0 ≤ A) (D0 : 0 ≤ D) (p0 : 0 ≤ p) (h : D + p ≤ Q) : 0 ≤ mon Q A D p ∧ mon Q A D p ≤ A := by
  have h1 := mon_mono (D := D) Q0 A0 p0
  rw [mon_zero] at h1
  have b1 := sh_bnd A0 (show 0 ≤ D + p by omega) h Q0
  have b2 := sh_bnd A0 D0 (show D ≤ Q by omega) Q0
  unfold mon at *; omega
theorem ifNeqNil (W : World) : (binOp .neq 24 .nilIface .nilIface).run Try.prog W = .ok (.bool false) W := by kernel_rfl
theorem ifNeqErr (k : Int) (W : World) : (binOp .neq 24 (.iface 43 (.int .i64 k)) .nilIface).run Try.prog W = .ok (.bool true) W := by kernel_rfl
theorem ifEqlNil (W : World) : (binOp .eql 24 .nilIface .nilIface).run Try.prog W = .ok (.bool true) W := by kernel_rfl
theorem money_good (Q A D p : Int) (w : World) (Q0 : 0 < Q) (Q1 : Q ≤ 9223372036854775807) (A0 : 0 ≤ A) (A1 : A ≤ 9223372036854775807) (D0 : 0 ≤ D) (p0 : 0 ≤ p) (h : D + p ≤ Q) :
    Calls Try.prog 6 #[.int .i64 Q, .int .i64 A, .int .i64 D, .int .i64 p] w fun e w' => e = .returned (.tuple #[.int .i64 (mon Q A D p), .nilIface]) ∧ Below w.heap.size w w' := by
  have C := money_any Q A D p w Q1 A1 (by omega)
  have b : ¬ (Q < 1 ∨ A < 0 ∨ D < 0 ∨ p < 0 ∨ Q - D < p) := by omega
  rw [(mnV_ok b).1, (mnV_ok b).2, errV_zero] at C
  exact C
set_option maxRecDepth 100000 in
set_option maxHeartbeats 4000000 in
theorem fair_law (Q A D p b : Int) (w : World) (Q1 : Q ≤ 9223372036854775807) (A1 : A ≤ 9223372036854775807) (D1 : D ≤ 9223372036854775807) :
    Calls Try.prog 3 #[.agg #[.int .i64 Q, .int .i64 A, .int .i64 D, .int .i64 p], .int .i64 b] w fun e w' => e = .returned (.bool true) ∧ Below w.heap.size w w' := by
  obtain ⟨W1, hW1⟩ : ∃ W1, w.alloc (.cells #[.int .i64 Q, .int .i64 A, .int .i64 D, .int .i64 p] 22) = W1 := ⟨_, rfl⟩
  have hn := alloc_new w (.cells #[.int .i64 Q, .int .i64 A, .int .i64 D, .int .i64 p] 22)
  rw [hW1] at hn
  have HN := hide hn
  have HB1 : Hid (Below w.heap.size w W1) := hide (by rw [← hW1]; exact (Below.refl _ _).alloc (Nat.le_refl _) _)
  obtain ⟨y0, y1, y2, y3⟩ := four_cells hn rfl
  clear hn
  by_cases bad : Q < 1 ∨ A < 0 ∨ D < 0 ∨ p < 0 ∨ Q - D < p
  · have C := money_any Q A D p W1 Q1 A1 D1
    rw [(mnV_bad bad).1, (mnV_bad bad).2, errV_pos (by decide)] at C
    have HC := hide C
    have ne := ifNeqErr 1
    clear C bad
    go_enter Try.func3, Try.ntmps3
    go_wp2_with fail
    refine HC.out.mono ?_
    rintro e w2 ⟨rfl, hb2⟩
    have HB2 := hide (HB1.out.trans (hb2.mono HB1.out.size))
    clear hb2 hW1
    go_wp2_with fail
    refine (works_any _).mono ?_
    rintro e w3 ⟨rfl, hb3⟩
    go_wp2_with fail
    go_ret
    exact ⟨rfl, HB2.out.trans (hb3.mono HB2.out.size)⟩
  · have Q0 : 0 < Q := by omega
    have A0 : 0 ≤ A := by omega
    have D0 : 0 ≤ D := by omega
    have p0 : 0 ≤ p := by omega
    have hp : D + p ≤ Q := by omega
    obtain ⟨l, hl⟩ : ∃ l, Q - D - p = l := ⟨_, rfl⟩
    obtain ⟨qd, hqd⟩ : ∃ x, Q - D = x := ⟨_, rfl⟩
    have wr1 : wrap64 (Q - D) = qd := by unfold wrap64; omega
    have wr2 : wrap64 (qd - p) = l := by unfold wrap64; omega
    obtain ⟨bc, hbc⟩ : ∃ x, (if b < 0 ∨ l < b then l else b) = x := ⟨_, rfl⟩
    have hb0 : 0 ≤ bc ∧ bc ≤ l := by rw [← hbc]; split <;> omega
    obtain ⟨dp, hdp⟩ : ∃ x, D + p = x := ⟨_, rfl⟩
    obtain ⟨pb, hpb⟩ : ∃ x, p + bc = x := ⟨_, rfl⟩
    have wr3 : wrap64 (D + p) = dp := by unfold wrap64; omega
    have wr4 : wrap64 (p + bc) = pb := by unfold wrap64; omega
    have C1 := hide (fun W => money_good Q A D p W Q0 Q1 A0 A1 D0 p0 hp)
    have C2 := hide (fun W => money_good Q A 0 p W Q0 Q1 A0 A1 (Int.le_refl _) p0 (by omega))
    have C3 := hide (fun W => money_good Q A dp bc W Q0 Q1 A0 A1 (by omega) hb0.1 (by omega))
    have C4 := hide (fun W => money_good Q A D pb W Q0 Q1 A0 A1 D0 (by omega) (by omega))
    have F1 := mon_fair (Q := Q) (A := A) (D := D) (p := p) Q0
    have F2 := mon_two Q A D p bc
    have F3 := mon_bnd (Q := Q) (A := A) (D := dp) (p := bc) Q0 A0 (by omega) hb0.1 (by omega)
    have F4 := mon_bnd (Q := Q) (A := A) (D := D) (p := pb) Q0 A0 D0 (by omega) (by omega)
    have F5 := mon_bnd (Q := Q) (A := A) (D := D) (p := p) Q0 A0 D0 p0 hp
    have F6 := mon_bnd (Q := Q) (A := A) (D := 0) (p := p) Q0 A0 (Int.le_refl _) p0 (by omega)
    rw [hpb, hdp] at F2
    obtain ⟨m1, hm1⟩ : ∃ x, mon Q A D p = x := ⟨_, rfl⟩
    obtain ⟨m2, hm2⟩ : ∃ x, mon Q A 0 p = x := ⟨_, rfl⟩
    obtain ⟨m3, hm3⟩ : ∃ x, mon Q A dp bc = x := ⟨_, rfl⟩
    obtain ⟨m4, hm4⟩ : ∃ x, mon Q A D pb = x := ⟨_, rfl⟩
    rw [hm1] at C1 F1 F2 F5
    rw [hm2] at C2 F1 F6
    rw [hm3] at C3 F2 F3
    rw [hm4] at C4 F2 F4
    have wr5 : wrap64 (m1 + m3) = m4 := by unfold wrap64; omega
    have wr6 : ¬ m1 = m2 → wrap64 (m2 + 1) = m1 := fun e => by unfold wrap64; omega
    have d4 : decide (m1 ≤ m4) = true := decide_eq_true (by omega)
    have n4 : (m4 == m4) = true := by simp
    have ne := ifNeqNil
    have eq := ifEqlNil
    have HBC := hide hbc
    have HF1 := hide F1
    have HW6 := hide wr6
    clear bad Q0 A0 D0 p0 hp hl hqd hb0 hdp hpb F1 F2 F3 F4 F5 F6 hm1 hm2 hm3 hm4 wr6 hbc Q1 A1 D1
    go_enter Try.func3, Try.ntmps3
    go_wp2_with fail
    refine (C1.out W1).mono ?_
    rintro e w2 ⟨rfl, hb2⟩
    have HB2 := hide (HB1.out.trans (hb2.mono HB1.out.size))
    have HN2 := hide (blk_later HN.out hb2)
    clear hb2 hW1 y0 y1 y2 y3 HB1 HN
    go_wp2_with fail
    refine (works_any _).mono ?_
    rintro e w3 ⟨rfl, hb3⟩
    have HB3 := hide (HB2.out.trans (hb3.mono HB2.out.size))
    have HN3 := hide (blk_later HN2.out hb3)
    obtain ⟨y0, y1, y2, y3⟩ := four_cells HN3.out rfl
    clear hb3 HB2 HN2
    go_wp2_with fail
    refine (C2.out w3).mono ?_
    rintro e w4 ⟨rfl, hb4⟩
    have HB4 := hide (HB3.out.trans (hb4.mono HB3.out.size))
    have HN4 := hide (blk_later HN3.out hb4)
    obtain ⟨z0, z1, z2, z3⟩ := four_cells HN4.out rfl
    clear hb4 HB3 HN3 y0 y1 y2 y3
    by_cases em : m1 = m2
    · have n1 : (m1 != m2) = false := by rw [em]; simp
      clear em
      by_cases b1 : b < 0
      · have e1 : decide (b < 0) = true := decide_eq_true b1
        have eb : l = bc := by rw [← HBC.out, if_pos (.inl b1)]
        subst eb
        clear b1 HBC
        go_wp2_with fail
        refine (C3.out w4).mono ?_
        rintro e w5 ⟨rfl, hb5⟩
        have HB5 := hide (HB4.out.trans (hb5.mono HB4.out.size))
        have HN5 := hide (blk_later HN4.out hb5)
        obtain ⟨y0, y1, y2, y3⟩ := four_cells HN5.out rfl
        clear hb5 HB4 HN4 z0 z1 z2 z3
        go_wp2_with fail
        refine (C4.out w5).mono ?_
        rintro e w6 ⟨rfl, hb6⟩
        have HB6 := hide (HB5.out.trans (hb6.mono HB5.out.size))
        clear hb6
        go_wp2_with fail
        go_ret
        exact ⟨rfl, HB6.out⟩
      · have e1 : decide (b < 0) = false := decide_eq_false b1
        by_cases b2 : l < b
        · have e2 : decide (l < b) = true := decide_eq_true b2
          have eb : l = bc := by rw [← HBC.out, if_pos (.inr b2)]
          subst eb
          clear b1 b2 HBC
          go_wp2_with fail
          refine (C3.out w4).mono ?_
          rintro e w5 ⟨rfl, hb5⟩
          have HB5 := hide (HB4.out.trans (hb5.mono HB4.out.size))
          have HN5 := hide (blk_later HN4.out hb5)
          obtain ⟨y0, y1, y2, y3⟩ := four_cells HN5.out rfl
          clear hb5 HB4 HN4 z0 z1 z2 z3
          go_wp2_with fail
          refine (C4.out w5).mono ?_
          rintro e w6 ⟨rfl, hb6⟩
          have HB6 := hide (HB5.out.trans (hb6.mono HB5.out.size))
          clear hb6
          go_wp2_with fail
          go_ret
          exact ⟨rfl, HB6.out⟩
        · have e2 : decide (l < b) = false := decide_eq_false b2
          have eb : b = bc := by rw [← HBC.out, if_neg (by omega)]
          subst eb
          clear b1 b2 HBC
          go_wp2_with fail
          refine (C3.out w4).mono ?_
          rintro e w5 ⟨rfl, hb5⟩
          have HB5 := hide (HB4.out.trans (hb5.mono HB4.out.size))
          have HN5 := hide (blk_later HN4.out hb5)
          obtain ⟨y0, y1, y2, y3⟩ := four_cells HN5.out rfl
          clear hb5 HB4 HN4 z0 z1 z2 z3
          go_wp2_with fail
          refine (C4.out w5).mono ?_
          rintro e w6 ⟨rfl, hb6⟩
          have HB6 := hide (HB5.out.trans (hb6.mono HB5.out.size))
          clear hb6
          go_wp2_with fail
          go_ret
          exact ⟨rfl, HB6.out⟩
    · have n1 : (m1 != m2) = true := by simpa using em
      have n2 : (m1 != m1) = false := by simp
      have wr7 := HW6.out em
      clear em
      by_cases b1 : b < 0
      · have e1 : decide (b < 0) = true := decide_eq_true b1
        have eb : l = bc := by rw [← HBC.out, if_pos (.inl b1)]
        subst eb
        clear b1 HBC
        go_wp2_with fail
        refine (C3.out w4).mono ?_
        rintro e w5 ⟨rfl, hb5⟩
        have HB5 := hide (HB4.out.trans (hb5.mono HB4.out.size))
        have HN5 := hide (blk_later HN4.out hb5)
        obtain ⟨y0, y1, y2, y3⟩ := four_cells HN5.out rfl
        clear hb5 HB4 HN4 z0 z1 z2 z3
        go_wp2_with fail
        refine (C4.out w5).mono ?_
        rintro e w6 ⟨rfl, hb6⟩
        have HB6 := hide (HB5.out.trans (hb6.mono HB5.out.size))
        clear hb6
        go_wp2_with fail
        go_ret
        exact ⟨rfl, HB6.out⟩
      · have e1 : decide (b < 0) = false := decide_eq_false b1
        by_cases b2 : l < b
        · have e2 : decide (l < b) = true := decide_eq_true b2
          have eb : l = bc := by rw [← HBC.out, if_pos (.inr b2)]
          subst eb
          clear b1 b2 HBC
          go_wp2_with fail
          refine (C3.out w4).mono ?_
          rintro e w5 ⟨rfl, hb5⟩
          have HB5 := hide (HB4.out.trans (hb5.mono HB4.out.size))
          have HN5 := hide (blk_later HN4.out hb5)
          obtain ⟨y0, y1, y2, y3⟩ := four_cells HN5.out rfl
          clear hb5 HB4 HN4 z0 z1 z2 z3
          go_wp2_with fail
          refine (C4.out w5).mono ?_
          rintro e w6 ⟨rfl, hb6⟩
          have HB6 := hide (HB5.out.trans (hb6.mono HB5.out.size))
          clear hb6
          go_wp2_with fail
          go_ret
          exact ⟨rfl, HB6.out⟩
        · have e2 : decide (l < b) = false := decide_eq_false b2
          have eb : b = bc := by rw [← HBC.out, if_neg (by omega)]
          subst eb
          clear b1 b2 HBC
          go_wp2_with fail
          refine (C3.out w4).mono ?_
          rintro e w5 ⟨rfl, hb5⟩
          have HB5 := hide (HB4.out.trans (hb5.mono HB4.out.size))
          have HN5 := hide (blk_later HN4.out hb5)
          obtain ⟨y0, y1, y2, y3⟩ := four_cells HN5.out rfl
          clear hb5 HB4 HN4 z0 z1 z2 z3
          go_wp2_with fail
          refine (C4.out w5).mono ?_
          rintro e w6 ⟨rfl, hb6⟩
          have HB6 := hide (HB5.out.trans (hb6.mono HB5.out.size))
          clear hb6
          go_wp2_with fail
          go_ret
          exact ⟨rfl, HB6.out⟩
end Go.Proofs.Ytmojckejjjlkjab
