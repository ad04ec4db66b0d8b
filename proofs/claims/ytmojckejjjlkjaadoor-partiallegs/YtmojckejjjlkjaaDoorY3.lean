/-
  My own text: parts and moneys by the document; the laws on them.
-/
import Derived.Test.YtmojckejjjlkjaaDoorY2
import Derived.Test.YtmojckejjjlkjaaDoorG0
namespace Go.Proofs.YtmojckejjjlkjaaDoor
open Go.RowKit

theorem four_cells {w : World} {o : Obj} {a b c d : Value} {t : TypeId} {g : Nat} (h : w.heap[g]? = some o) (ho : o = .cells #[a, b, c, d] t (0, 0)) : w.cell? ⟨g, 0, none⟩ = some a ∧ w.cell? ⟨g, 1, none⟩ = some b ∧ w.cell? ⟨g, 2, none⟩ = some c ∧ w.cell? ⟨g, 3, none⟩ = some d := by
  subst ho
  exact ⟨by rw [cell_of_row _ _ 0 _ _ _ h]; rfl, by rw [cell_of_row _ _ 1 _ _ _ h]; rfl, by rw [cell_of_row _ _ 2 _ _ _ h]; rfl, by rw [cell_of_row _ _ 3 _ _ _ h]; rfl⟩
/-- A box of four behind a call. -/
theorem four_kept {w w1 : World} {a b c d : Value} {t : TypeId} (hb : Below (w.alloc (.cells #[a, b, c, d] t)).heap.size (w.alloc (.cells #[a, b, c, d] t)) w1) :
    Below w.heap.size w w1 ∧ w.heap.size < w1.heap.size ∧ w1.heap[w.heap.size]? = some (.cells #[a, b, c, d] t (0, 0)) ∧ w1.cell? ⟨w.heap.size, 0, none⟩ = some a ∧ w1.cell? ⟨w.heap.size, 1, none⟩ = some b ∧ w1.cell? ⟨w.heap.size, 2, none⟩ = some c ∧ w1.cell? ⟨w.heap.size, 3, none⟩ = some d := by
  have h0 := alloc_new w (.cells #[a, b, c, d] t)
  have hl := (Array.getElem?_eq_some_iff.1 h0).1
  have h1 := (hb.block w.heap.size hl).trans h0
  exact ⟨((Below.refl w.heap.size w).alloc (Nat.le_refl _) _).trans (hb.mono ((Below.refl w.heap.size w).alloc (Nat.le_refl _) _).size), Nat.lt_of_lt_of_le hl hb.size, h1, four_cells h1 rfl⟩
/-! the document -/
set_option maxHeartbeats 1000000 in
theorem rpart_any (l t k h : Int) (w : World) (h1 : h ≤ 9223372036854775807) (t1 : t ≤ 9223372036854775807) :
    Calls Tryd.prog 9 #[.int .i64 l, .int .i64 t, .int .i64 k, .int .i64 h] w fun e w' => e = .returned (.tuple #[.int .i64 (ptV l t k h), .int .i64 (ptE l t k h)]) ∧ Below w.heap.size w w' := by
  by_cases b : l < 0 ∨ k < 0 ∨ h < 0 ∨ t < 1
  · rw [(ptV_bad b).1, (ptV_bad b).2]
    by_cases b1 : l < 0
    · have d1 : decide (l < 0) = true := decide_eq_true b1
      clear b
      go_enter Tryd.func9, Tryd.ntmps9
      go_wp2_with fail
      go_ret2
      exact ⟨rfl, Below.refl _ _⟩
    have d1 : decide (l < 0) = false := decide_eq_false b1
    by_cases b3 : k < 0
    · have d3 : decide (k < 0) = true := decide_eq_true b3
      clear b
      go_enter Tryd.func9, Tryd.ntmps9
      go_wp2_with fail
      go_ret2
      exact ⟨rfl, Below.refl _ _⟩
    have d3 : decide (k < 0) = false := decide_eq_false b3
    by_cases b4 : h < 0
    · have d4 : decide (h < 0) = true := decide_eq_true b4
      clear b
      go_enter Tryd.func9, Tryd.ntmps9
      go_wp2_with fail
      go_ret2
      exact ⟨rfl, Below.refl _ _⟩
    have d4 : decide (h < 0) = false := decide_eq_false b4
    have d2 : decide (t < 1) = true := decide_eq_true (by omega)
    clear b
    go_enter Tryd.func9, Tryd.ntmps9
    go_wp2_with fail
    go_ret2
    exact ⟨rfl, Below.refl _ _⟩
  · rw [(ptV_ok b).1, (ptV_ok b).2]
    have d1 : decide (l < 0) = false := decide_eq_false (by omega)
    have d2 : decide (t < 1) = false := decide_eq_false (by omega)
    have d3 : decide (k < 0) = false := decide_eq_false (by omega)
    have d4 : decide (h < 0) = false := decide_eq_false (by omega)
    have e1 : h.tdiv t = h / t := Int.tdiv_eq_ediv_of_nonneg (by omega)
    have tz : (t == 0) = false := by simp; omega
    have tz2 : (t == -1) = false := by simp; omega
    have tn : ¬ t = 0 := by omega
    have em := Int.emod_add_mul_ediv h t
    have r0 := Int.emod_nonneg h (show t ≠ 0 by omega)
    have e2 : h / t * t = h - h % t := by rw [Int.mul_comm]; omega
    have r2 := Int.mul_nonneg (show 0 ≤ t by omega) (Int.ediv_nonneg (show 0 ≤ h by omega) (show 0 ≤ t by omega))
    obtain ⟨y, hy⟩ : ∃ y, h - h % t = y := ⟨_, rfl⟩
    rw [hy] at e2
    have wd : wrap64 (h / t * t) = y := by rw [e2, ← hy]; unfold wrap64; omega
    obtain ⟨r, hr⟩ : ∃ r, gr l t k h = r := ⟨_, rfl⟩
    have HR := hide hr
    have HY := hide hy
    rw [hr]
    have wz : wrap64 (h / t) = h / t := by
      have := Int.ediv_nonneg (show 0 ≤ h by omega) (show 0 ≤ t by omega)
      have := Int.ediv_le_self t (show 0 ≤ h by omega)
      unfold wrap64; omega
    clear hr em r0 r2 e2 b hy
    obtain ⟨z, hz⟩ : ∃ z, h / t = z := ⟨_, rfl⟩
    rw [hz] at e1 wd
    rw [hz] at wz
    clear hz
    go_enter Tryd.func9, Tryd.ntmps9
    by_cases c1 : l ≤ h
    · have e : r = l := by rw [← HR.out]; unfold gr; rw [if_pos c1]
      rw [e]
      have d5 : decide (l ≤ h) = true := decide_eq_true c1
      clear HR e
      go_wp2_with fail
      go_ret2
      exact ⟨rfl, Below.refl _ _⟩
    · have d5 : decide (l ≤ h) = false := decide_eq_false c1
      by_cases c2 : y < k
      · have e : r = 0 := by rw [← HR.out]; unfold gr; rw [HY.out, if_neg c1, if_pos c2]
        rw [e]
        have d6 : decide (y < k) = true := decide_eq_true c2
        clear HR e
        go_wp2_with fail
        go_ret2
        exact ⟨rfl, Below.refl _ _⟩
      · have e : r = y := by rw [← HR.out]; unfold gr; rw [HY.out, if_neg c1, if_neg c2]
        rw [e]
        have d6 : decide (y < k) = false := decide_eq_false c2
        clear HR e
        go_wp2_with fail
        go_ret2
        exact ⟨rfl, Below.refl _ _⟩
set_option maxHeartbeats 1000000 in
theorem rshare_any (Q A n : Int) (w : World) (A0 : 0 ≤ A) (A1 : A ≤ 9223372036854775807) (Q0 : 0 < Q) (Q1 : Q ≤ 9223372036854775807) (n0 : 0 ≤ n) (nQ : n ≤ Q) :
    Calls Tryd.prog 32 #[.int .i64 Q, .int .i64 A, .int .i64 n] w fun e w' => e = .returned (.int .i64 (sh A n Q)) ∧ Below w.heap.size w w' := by
  have C := fun w => refMulDiv_any A n Q 0 w A1 (by omega) Q1
  rw [md_down A0 A1 n0 nQ Q0] at C
  go_enter Tryd.func32, Tryd.ntmps32
  go_wp2_with fail
  refine (C _).mono ?_
  rintro e w1 ⟨rfl, hb1⟩
  go_wp2_with fail
  go_ret
  exact ⟨rfl, hb1⟩
set_option maxHeartbeats 1000000 in
theorem rmoney_any (Q A D p : Int) (w : World) (Q1 : Q ≤ 9223372036854775807) (A1 : A ≤ 9223372036854775807) (D1 : D ≤ 9223372036854775807) (p1 : p ≤ 9223372036854775807) :
    Calls Tryd.prog 13 #[.int .i64 Q, .int .i64 A, .int .i64 D, .int .i64 p] w fun e w' => e = .returned (.tuple #[.int .i64 (mnV Q A D p), .int .i64 (mnE Q A D p)]) ∧ Below w.heap.size w w' := by
  by_cases b : Q < 1 ∨ A < 0 ∨ D < 0 ∨ p < 0 ∨ Q - D < p
  · rw [(mnV_bad b).1, (mnV_bad b).2]
    by_cases b1 : Q < 1
    · have d1 : decide (Q < 1) = true := decide_eq_true b1
      clear b
      go_enter Tryd.func13, Tryd.ntmps13
      go_wp2_with fail
      go_ret2
      exact ⟨rfl, Below.refl _ _⟩
    have d1 : decide (Q < 1) = false := decide_eq_false b1
    by_cases b2 : A < 0
    · have d2 : decide (A < 0) = true := decide_eq_true b2
      clear b
      go_enter Tryd.func13, Tryd.ntmps13
      go_wp2_with fail
      go_ret2
      exact ⟨rfl, Below.refl _ _⟩
    have d2 : decide (A < 0) = false := decide_eq_false b2
    by_cases b3 : D < 0
    · have d3 : decide (D < 0) = true := decide_eq_true b3
      clear b
      go_enter Tryd.func13, Tryd.ntmps13
      go_wp2_with fail
      go_ret2
      exact ⟨rfl, Below.refl _ _⟩
    have d3 : decide (D < 0) = false := decide_eq_false b3
    by_cases b4 : p < 0
    · have d4 : decide (p < 0) = true := decide_eq_true b4
      clear b
      go_enter Tryd.func13, Tryd.ntmps13
      go_wp2_with fail
      go_ret2
      exact ⟨rfl, Below.refl _ _⟩
    have d4 : decide (p < 0) = false := decide_eq_false b4
    by_cases b5 : Q < D
    · have d5 : decide (Q < D) = true := decide_eq_true b5
      clear b
      go_enter Tryd.func13, Tryd.ntmps13
      go_wp2_with fail
      go_ret2
      exact ⟨rfl, Below.refl _ _⟩
    have d5 : decide (Q < D) = false := decide_eq_false b5
    have wd : wrap64 (Q - D) = Q - D := by unfold wrap64; omega
    have d6 : decide (Q - D < p) = true := decide_eq_true (by omega)
    clear b
    go_enter Tryd.func13, Tryd.ntmps13
    go_wp2_with fail
    go_ret2
    exact ⟨rfl, Below.refl _ _⟩
  · rw [(mnV_ok b).1, (mnV_ok b).2]
    have d1 : decide (Q < 1) = false := decide_eq_false (by omega)
    have d2 : decide (A < 0) = false := decide_eq_false (by omega)
    have d3 : decide (D < 0) = false := decide_eq_false (by omega)
    have d4 : decide (p < 0) = false := decide_eq_false (by omega)
    have d7 : decide (Q < D) = false := decide_eq_false (by omega)
    obtain ⟨y, hy⟩ : ∃ y, Q - D = y := ⟨_, rfl⟩
    have wd : wrap64 (Q - D) = y := by rw [← hy]; unfold wrap64; omega
    have d5 : decide (y < p) = false := decide_eq_false (by omega)
    obtain ⟨z, hz⟩ : ∃ z, D + p = z := ⟨_, rfl⟩
    have wz : wrap64 (D + p) = z := by rw [← hz]; unfold wrap64; omega
    have C1 := fun w => rshare_any Q A z w (by omega) A1 (by omega) Q1 (by omega) (by omega)
    have C2 := fun w => rshare_any Q A D w (by omega) A1 (by omega) Q1 (by omega) (by omega)
    have b1 := sh_bnd (show 0 ≤ A by omega) (show 0 ≤ z by omega) (show z ≤ Q by omega) (by omega)
    have b2 := sh_bnd (show 0 ≤ A by omega) (show 0 ≤ D by omega) (show D ≤ Q by omega) (by omega)
    have we : wrap64 (sh A z Q - sh A D Q) = mon Q A D p := by
      have : mon Q A D p = sh A z Q - sh A D Q := by unfold mon; rw [hz]
      rw [this]; unfold wrap64; omega
    clear b hy hz b1 b2
    go_enter Tryd.func13, Tryd.ntmps13
    go_wp2_with fail
    refine (C1 _).mono ?_
    rintro e w1 ⟨rfl, hb1⟩
    go_wp2_with fail
    refine (C2 _).mono ?_
    rintro e w2 ⟨rfl, hb2⟩
    go_wp2_with fail
    go_ret2
    exact ⟨by rw [← we]; rfl, hb1.trans (hb2.mono hb1.size)⟩
theorem ptE_lo (l t k h : Int) : 0 ≤ ptE l t k h ∧ ptE l t k h ≤ 24 := by unfold ptE; split <;> omega
theorem mnE_lo (l t k h : Int) : 0 ≤ mnE l t k h ∧ mnE l t k h ≤ 24 := by unfold mnE; split <;> omega
theorem part_90 (w : World) : Calls Tryd.prog 10 #[.int .i64 100, .int .i64 30, .int .i64 0, .int .i64 99] w fun e w' => e = .returned (.tuple #[.int .i64 90, .nilIface]) ∧ Below w.heap.size w w' := part_any 100 30 0 99 w (by decide) (by decide)
theorem money_4 (w : World) : Calls Tryd.prog 14 #[.int .i64 3, .int .i64 10, .int .i64 2, .int .i64 1] w fun e w' => e = .returned (.tuple #[.int .i64 4, .nilIface]) ∧ Below w.heap.size w w' := money_any 3 10 2 1 w (by decide) (by decide) (by decide)
set_option maxHeartbeats 1000000 in
theorem works_any (w : World) : Calls Tryd.prog 12 #[] w fun e w' => e = .returned (.bool true) ∧ Below w.heap.size w w' := by
  go_enter Tryd.func12, Tryd.ntmps12
  go_wp2_with fail
  refine (part_90 _).mono ?_
  rintro e w1 ⟨rfl, hb1⟩
  go_wp2_with fail
  refine (money_4 _).mono ?_
  rintro e w2 ⟨rfl, hb2⟩
  go_wp2_with fail
  go_ret
  exact ⟨rfl, hb1.trans (hb2.mono hb1.size)⟩
set_option maxHeartbeats 1000000 in
theorem partialPart_law (l t k h : Int) (w : World) (hE : ErrType w) (h1 : h ≤ 9223372036854775807) (t1 : t ≤ 9223372036854775807) :
    Calls Tryd.prog 3 #[.agg #[.int .i64 l, .int .i64 t, .int .i64 k, .int .i64 h]] w fun e w' => e = .returned (.bool true) ∧ Below w.heap.size w w' := by
  have e1 := ptE_lo l t k h
  go_enter Tryd.func3, Tryd.ntmps3
  go_wp2_with fail
  refine (rpart_any l t k h _ h1 t1).mono ?_
  rintro e w1 ⟨rfl, hb0⟩
  obtain ⟨hb1, _, _, c0, c1, c2, c3⟩ := four_kept hb0
  clear hb0
  go_wp2_with fail
  refine (part_any l t k h _ h1 t1).mono ?_
  rintro e w2 ⟨rfl, hb2⟩
  have hB2 := hb1.trans (hb2.mono hb1.size)
  go_wp2_with fail
  refine (plain_errV _ _ _ e1.1 e1.2 (hE.below hB2)).mono ?_
  rintro e w3 ⟨rfl, hb3⟩
  have hB3 := hB2.trans (hb3.mono hB2.size)
  go_wp2_with fail
  refine (works_any _).mono ?_
  rintro e w4 ⟨rfl, hb4⟩
  go_wp2_with fail
  go_ret
  exact ⟨rfl, hB3.trans (hb4.mono hB3.size)⟩
set_option maxHeartbeats 1000000 in
theorem partialMoney_law (l t k h : Int) (w : World) (hE : ErrType w) (l1 : l ≤ 9223372036854775807) (t1 : t ≤ 9223372036854775807) (k1 : k ≤ 9223372036854775807) (h1 : h ≤ 9223372036854775807) :
    Calls Tryd.prog 4 #[.agg #[.int .i64 l, .int .i64 t, .int .i64 k, .int .i64 h]] w fun e w' => e = .returned (.bool true) ∧ Below w.heap.size w w' := by
  have e1 := mnE_lo l t k h
  go_enter Tryd.func4, Tryd.ntmps4
  go_wp2_with fail
  refine (rmoney_any l t k h _ l1 t1 k1 h1).mono ?_
  rintro e w1 ⟨rfl, hb0⟩
  obtain ⟨hb1, _, _, c0, c1, c2, c3⟩ := four_kept hb0
  clear hb0
  go_wp2_with fail
  refine (money_any l t k h _ l1 t1 k1).mono ?_
  rintro e w2 ⟨rfl, hb2⟩
  have hB2 := hb1.trans (hb2.mono hb1.size)
  go_wp2_with fail
  refine (plain_errV _ _ _ e1.1 e1.2 (hE.below hB2)).mono ?_
  rintro e w3 ⟨rfl, hb3⟩
  have hB3 := hB2.trans (hb3.mono hB2.size)
  go_wp2_with fail
  refine (works_any _).mono ?_
  rintro e w4 ⟨rfl, hb4⟩
  go_wp2_with fail
  go_ret
  exact ⟨rfl, hB3.trans (hb4.mono hB3.size)⟩
end Go.Proofs.YtmojckejjjlkjaaDoor
