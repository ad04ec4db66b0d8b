/-
  My own text: shares, parts and moneys, by the program and by the document.
-/
import Derived.Test.YtmojckejjjlkjabY1
namespace Go.Proofs.Ytmojckejjjlkjab
open Go.RowKit

/-! the program -/
set_option maxHeartbeats 1000000 in
theorem share_any (a n q way : Int) (w : World) (a1 : a ≤ 9223372036854775807) (n1 : n ≤ 9223372036854775807) (q1 : q ≤ 9223372036854775807) :
    Calls Try.prog 18 #[.int .i64 a, .int .i64 n, .int .i64 q, .int .i64 way] w fun e w' => e = .returned (.int .i64 (mdV a n q way)) ∧ Below w.heap.size w w' := by
  go_enter Try.func18, Try.ntmps18
  go_wp2_with fail
  refine (mulDiv_any a n q way _ a1 n1 q1).mono ?_
  rintro e w1 ⟨rfl, hb1⟩
  go_wp2_with fail
  go_ret
  exact ⟨rfl, hb1⟩

set_option maxHeartbeats 1000000 in
theorem between_any (Q A D E : Int) (w : World) (A0 : 0 ≤ A) (A1 : A ≤ 9223372036854775807) (Q0 : 0 < Q) (Q1 : Q ≤ 9223372036854775807) (D0 : 0 ≤ D) (DE : D ≤ E) (EQ : E ≤ Q) :
    Calls Try.prog 15 #[.int .i64 Q, .int .i64 A, .int .i64 D, .int .i64 E] w fun e w' => e = .returned (.int .i64 (mon Q A D (E - D))) ∧ Below w.heap.size w w' := by
  have e1 : mdV A E Q 0 = sh A E Q := md_down A0 A1 (by omega) EQ Q0
  have e2 : mdV A D Q 0 = sh A D Q := md_down A0 A1 D0 (by omega) Q0
  have b1 := sh_bnd A0 (show 0 ≤ E by omega) EQ Q0
  have b2 := sh_bnd A0 D0 (show D ≤ Q by omega) Q0
  obtain ⟨r, hr⟩ : ∃ r, mon Q A D (E - D) = r := ⟨_, rfl⟩
  have wr : wrap64 (sh A E Q - sh A D Q) = r := by
    have : r = sh A E Q - sh A D Q := by rw [← hr]; unfold mon; rw [show D + (E - D) = E by omega]
    unfold wrap64; omega
  rw [hr]
  have C1 := fun w => share_any A E Q 0 w A1 (by omega) Q1
  have C2 := fun w => share_any A D Q 0 w A1 (by omega) Q1
  rw [e1] at C1
  rw [e2] at C2
  clear hr b1 b2 e1 e2 A0 A1 Q0 Q1 D0 DE EQ
  go_enter Try.func15, Try.ntmps15
  go_wp2_with fail
  refine (C1 _).mono ?_
  rintro e w1 ⟨rfl, hb1⟩
  go_wp2_with fail
  refine (C2 _).mono ?_
  rintro e w2 ⟨rfl, hb2⟩
  go_wp2_with fail
  go_ret
  exact ⟨by rw [← wr]; rfl, hb1.trans (hb2.mono hb1.size)⟩

/-- What Part answers, and the number of its error. -/
def ptV (l t k h : Int) : Int := if l < 0 ∨ k < 0 ∨ h < 0 ∨ t < 1 then 0 else gr l t k h
def ptE (l t k h : Int) : Int := if l < 0 ∨ k < 0 ∨ h < 0 ∨ t < 1 then 1 else 0
set_option maxHeartbeats 1000000 in
theorem greatest_any (l t k h : Int) (w : World) (h0 : 0 ≤ h) (h1 : h ≤ 9223372036854775807) (t0 : 0 < t) (t1 : t ≤ 9223372036854775807) :
    Calls Try.prog 16 #[.int .i64 l, .int .i64 t, .int .i64 k, .int .i64 h] w fun e w' => e = .returned (.int .i64 (gr l t k h)) ∧ Below w.heap.size w w' := by
  have r0 := Int.emod_nonneg h (show t ≠ 0 by omega)
  have r1 := Int.emod_lt_of_pos h t0
  have r2 : h % t ≤ h := by
    have e := Int.emod_add_mul_ediv h t
    have := Int.mul_nonneg (Int.le_of_lt t0) (Int.ediv_nonneg h0 (Int.le_of_lt t0))
    omega
  have e1 : h.tmod t = h % t := Int.tmod_eq_emod_of_nonneg h0
  have tz : (t == 0) = false := by simp; omega
  have wr : wrap64 (h - h % t) = h - h % t := by unfold wrap64; omega
  obtain ⟨r, hr⟩ : ∃ r, gr l t k h = r := ⟨_, rfl⟩
  have HR := hide hr
  rw [hr]
  clear hr
  go_enter Try.func16, Try.ntmps16
  by_cases c1 : l ≤ h
  · have e : r = l := by rw [← HR.out]; unfold gr; rw [if_pos c1]
    rw [e]
    have d1 : decide (l ≤ h) = true := decide_eq_true c1
    clear HR e
    go_wp2_with fail
    go_ret
    exact ⟨rfl, Below.refl _ _⟩
  · have d1 : decide (l ≤ h) = false := decide_eq_false c1
    by_cases c2 : h - h % t < k
    · have e : r = 0 := by rw [← HR.out]; unfold gr; rw [if_neg c1, if_pos c2]
      rw [e]
      clear HR e
      obtain ⟨z, hz⟩ : ∃ z, h % t = z := ⟨_, rfl⟩
      rw [hz] at e1 wr c2
      obtain ⟨y, hy⟩ : ∃ y, h - z = y := ⟨_, rfl⟩
      rw [hy] at wr c2
      have d2 : decide (y < k) = true := decide_eq_true c2
      clear hz r0 r1 r2
      go_wp2_with fail
      go_ret
      exact ⟨rfl, Below.refl _ _⟩
    · have e : r = h - h % t := by rw [← HR.out]; unfold gr; rw [if_neg c1, if_neg c2]
      rw [e]
      clear HR e
      obtain ⟨z, hz⟩ : ∃ z, h % t = z := ⟨_, rfl⟩
      rw [hz] at e1 wr c2
      rw [hz]
      obtain ⟨y, hy⟩ : ∃ y, h - z = y := ⟨_, rfl⟩
      rw [hy] at wr c2
      rw [hy]
      have d2 : decide (y < k) = false := decide_eq_false c2
      clear hz r0 r1 r2
      go_wp2_with fail
      go_ret
      exact ⟨rfl, Below.refl _ _⟩

theorem ptV_bad {l t k h : Int} (b : l < 0 ∨ k < 0 ∨ h < 0 ∨ t < 1) : ptV l t k h = 0 ∧ ptE l t k h = 1 := by unfold ptV ptE; rw [if_pos b, if_pos b]; exact ⟨rfl, rfl⟩
theorem ptV_ok {l t k h : Int} (b : ¬ (l < 0 ∨ k < 0 ∨ h < 0 ∨ t < 1)) : ptV l t k h = gr l t k h ∧ ptE l t k h = 0 := by unfold ptV ptE; rw [if_neg b, if_neg b]; exact ⟨rfl, rfl⟩
set_option maxHeartbeats 1000000 in
theorem part_any (l t k h : Int) (w : World) (h1 : h ≤ 9223372036854775807) (t1 : t ≤ 9223372036854775807) :
    Calls Try.prog 10 #[.int .i64 l, .int .i64 t, .int .i64 k, .int .i64 h] w fun e w' => e = .returned (.tuple #[.int .i64 (ptV l t k h), errV (ptE l t k h)]) ∧ Below w.heap.size w w' := by
  by_cases b : l < 0 ∨ k < 0 ∨ h < 0 ∨ t < 1
  · rw [(ptV_bad b).1, (ptV_bad b).2]
    by_cases b1 : l < 0
    · have d1 : decide (l < 0) = true := decide_eq_true b1
      clear b
      go_enter Try.func10, Try.ntmps10
      go_wp2_with fail
      go_ret2
      exact ⟨rfl, Below.refl _ _⟩
    have d1 : decide (l < 0) = false := decide_eq_false b1
    by_cases b2 : t < 1
    · have d2 : decide (t < 1) = true := decide_eq_true b2
      clear b
      go_enter Try.func10, Try.ntmps10
      go_wp2_with fail
      go_ret2
      exact ⟨rfl, Below.refl _ _⟩
    have d2 : decide (t < 1) = false := decide_eq_false b2
    by_cases b3 : k < 0
    · have d3 : decide (k < 0) = true := decide_eq_true b3
      clear b
      go_enter Try.func10, Try.ntmps10
      go_wp2_with fail
      go_ret2
      exact ⟨rfl, Below.refl _ _⟩
    have d3 : decide (k < 0) = false := decide_eq_false b3
    have d4 : decide (h < 0) = true := decide_eq_true (by omega)
    clear b
    go_enter Try.func10, Try.ntmps10
    go_wp2_with fail
    go_ret2
    exact ⟨rfl, Below.refl _ _⟩
  · rw [(ptV_ok b).1, (ptV_ok b).2]
    have d1 : decide (l < 0) = false := decide_eq_false (by omega)
    have d2 : decide (t < 1) = false := decide_eq_false (by omega)
    have d3 : decide (k < 0) = false := decide_eq_false (by omega)
    have d4 : decide (h < 0) = false := decide_eq_false (by omega)
    have C := fun w => greatest_any l t k h w (by omega) h1 (by omega) t1
    clear b
    go_enter Try.func10, Try.ntmps10
    go_wp2_with fail
    refine (C _).mono ?_
    rintro e w1 ⟨rfl, hb1⟩
    go_wp2_with fail
    go_ret2
    exact ⟨rfl, hb1⟩
/-- What Money answers, and the number of its error. -/
def mnV (Q A D p : Int) : Int := if Q < 1 ∨ A < 0 ∨ D < 0 ∨ p < 0 ∨ Q - D < p then 0 else mon Q A D p
def mnE (Q A D p : Int) : Int := if Q < 1 ∨ A < 0 ∨ D < 0 ∨ p < 0 ∨ Q - D < p then 1 else 0
theorem mnV_bad {Q A D p : Int} (b : Q < 1 ∨ A < 0 ∨ D < 0 ∨ p < 0 ∨ Q - D < p) : mnV Q A D p = 0 ∧ mnE Q A D p = 1 := by unfold mnV mnE; rw [if_pos b, if_pos b]; exact ⟨rfl, rfl⟩
theorem mnV_ok {Q A D p : Int} (b : ¬ (Q < 1 ∨ A < 0 ∨ D < 0 ∨ p < 0 ∨ Q - D < p)) : mnV Q A D p = mon Q A D p ∧ mnE Q A D p = 0 := by unfold mnV mnE; rw [if_neg b, if_neg b]; exact ⟨rfl, rfl⟩
set_option maxHeartbeats 1000000 in
theorem money_any (Q A D p : Int) (w : World) (Q1 : Q ≤ 9223372036854775807) (A1 : A ≤ 9223372036854775807) (D1 : D ≤ 9223372036854775807) :
    Calls Try.prog 6 #[.int .i64 Q, .int .i64 A, .int .i64 D, .int .i64 p] w fun e w' => e = .returned (.tuple #[.int .i64 (mnV Q A D p), errV (mnE Q A D p)]) ∧ Below w.heap.size w w' := by
  by_cases b : Q < 1 ∨ A < 0 ∨ D < 0 ∨ p < 0 ∨ Q - D < p
  · rw [(mnV_bad b).1, (mnV_bad b).2]
    by_cases b1 : Q < 1
    · have d1 : decide (Q < 1) = true := decide_eq_true b1
      clear b
      go_enter Try.func6, Try.ntmps6
      go_wp2_with fail
      go_ret2
      exact ⟨rfl, Below.refl _ _⟩
    have d1 : decide (Q < 1) = false := decide_eq_false b1
    by_cases b2 : A < 0
    · have d2 : decide (A < 0) = true := decide_eq_true b2
      clear b
      go_enter Try.func6, Try.ntmps6
      go_wp2_with fail
      go_ret2
      exact ⟨rfl, Below.refl _ _⟩
    have d2 : decide (A < 0) = false := decide_eq_false b2
    by_cases b3 : D < 0
    · have d3 : decide (D < 0) = true := decide_eq_true b3
      clear b
      go_enter Try.func6, Try.ntmps6
      go_wp2_with fail
      go_ret2
      exact ⟨rfl, Below.refl _ _⟩
    have d3 : decide (D < 0) = false := decide_eq_false b3
    by_cases b4 : p < 0
    · have d4 : decide (p < 0) = true := decide_eq_true b4
      clear b
      go_enter Try.func6, Try.ntmps6
      go_wp2_with fail
      go_ret2
      exact ⟨rfl, Below.refl _ _⟩
    have d4 : decide (p < 0) = false := decide_eq_false b4
    have wd : wrap64 (Q - D) = Q - D := by unfold wrap64; omega
    have d5 : decide (Q - D < p) = true := decide_eq_true (by omega)
    clear b
    go_enter Try.func6, Try.ntmps6
    go_wp2_with fail
    go_ret2
    exact ⟨rfl, Below.refl _ _⟩
  · rw [(mnV_ok b).1, (mnV_ok b).2]
    have d1 : decide (Q < 1) = false := decide_eq_false (by omega)
    have d2 : decide (A < 0) = false := decide_eq_false (by omega)
    have d3 : decide (D < 0) = false := decide_eq_false (by omega)
    have d4 : decide (p < 0) = false := decide_eq_false (by omega)
    obtain ⟨y, hy⟩ : ∃ y, Q - D = y := ⟨_, rfl⟩
    have wd : wrap64 (Q - D) = y := by rw [← hy]; unfold wrap64; omega
    have d5 : decide (y < p) = false := decide_eq_false (by omega)
    obtain ⟨z, hz⟩ : ∃ z, D + p = z := ⟨_, rfl⟩
    have wz : wrap64 (D + p) = z := by rw [← hz]; unfold wrap64; omega
    have C := fun w => between_any Q A D z w (by omega) A1 (by omega) Q1 (by omega) (by omega) (by omega)
    rw [show z - D = p by omega] at C
    clear b hy hz
    go_enter Try.func6, Try.ntmps6
    go_wp2_with fail
    refine (C _).mono ?_
    rintro e w1 ⟨rfl, hb1⟩
    go_wp2_with fail
    go_ret2
    exact ⟨rfl, hb1⟩
end Go.Proofs.Ytmojckejjjlkjab
