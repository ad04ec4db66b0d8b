/-
  My own text: the document's answer's rounding and product over a divisor.
-/
import Derived.Test.YtmojckejjjlkjaaDoorMulDiv
import Derived.Laws.StructEq
namespace Go.Proofs.YtmojckejjjlkjaaDoor
open Go.RowKit

theorem lo_odd (Q : Int) : loW Q % 2 = Q % 2 := by unfold loW; omega

theorem Tryd.wideGuard : Tryd.prog.eqGuardType Tryd.prog.depth 122 = false := by kernel_rfl
theorem Tryd.wideHeld : Tryd.prog.stoodInHeld 122 = false := by kernel_rfl
/-- two of them, held against each other -/
theorem wide_eql (a b c d : Int) (w : World) : (binOp .eql 122 (.agg #[.int .u64 a, .int .u64 b]) (.agg #[.int .u64 c, .int .u64 d])).run Tryd.prog w = .ok (.bool (a == c && b == d)) w := by
  have hu : Tryd.prog.underlying 122 = some (.struct (Tryd.prog.fieldsOf 122)) := by simp [Program.fieldsOf, Tryd.underlying122]
  rw [run_eql_struct, run_equalIn_struct w 9999 _ _ _ hu Tryd.wideHeld]
  cases h1 : (a == c) <;> cases h2 : (b == d) <;> simp [Program.fieldsOf, Tryd.underlying122, Op.eqFields, go_sem, h1, h2]

set_option maxHeartbeats 2000000 in
theorem refRounds_any (Q r c mode : Int) (w : World) (r0 : 0 ≤ r) (r1 : r < c) (c1 : c < 9223372036854775808) :
    Calls Tryd.prog 61 #[.agg #[.int .u64 (hiW Q), .int .u64 (loW Q)], .int .u64 r, .int .u64 c, .int .i64 mode] w fun e w' => e = .returned (.bool (upB Q r c mode)) ∧ Below w.heap.size w w' := by
  have hW := hl Q
  have HQ := hide hW.1
  obtain ⟨-, l0, l1⟩ := hW
  have ws := word_small (x := 2 * r) (by omega) (by omega)
  have hB0 : Below w.heap.size w (w.alloc (.cells #[.int .u64 (hiW Q), .int .u64 (loW Q)] 122)) := (Below.refl _ _).alloc (Nat.le_refl _) _
  by_cases m3 : mode = 3
  · subst m3
    by_cases a : c < 2 * r
    · have H := hide (show upB Q r c 3 = true by rw [up3]; simp; omega)
      go_enter Tryd.func61, Tryd.ntmps61
      go_wp2_with fail
      refine (plus_any 0 r 0 r (2 * r) _ (by omega) (by omega) r0 (by omega) r0 (by omega) (show _ = _ by omega) (show _ < _ by omega)).mono ?_
      rintro e w1 ⟨rfl, hb1⟩
      rw [ws.1, ws.2]
      have hB1 := hB0.trans (hb1.mono (by simp))
      have hz1 : w.heap.size < w1.heap.size := by have := hb1.size; simp at this; omega
      have hB2 := (hB1.alloc (Nat.le_of_lt hz1) (.cells #[.int .u64 0, .int .u64 (2 * r)] 122)).alloc (by simp; omega) (.cells #[.int .u64 0, .int .u64 c] 122)
      go_wp2_with fail
      refine (less_any 0 c 0 (2 * r) true _ (by omega) (by omega) (by omega) (by omega) (show _ = _ by simp; omega)).mono ?_
      rintro e w2 ⟨rfl, hb2⟩
      have hB3 := hB2.trans (hb2.mono (by simp; omega))
      go_wp2_with fail
      go_ret
      exact ⟨ret_bool H.out.symm, hB3⟩
    · by_cases b : 2 * r = c
      · have H := hide (show upB Q r c 3 = (loW Q % 2 == 1) by
          rw [up3, lo_odd]
          have e1 : decide (c < 2 * r) = false := by simp; omega
          have e2 : decide (2 * r = c) = true := by simp; omega
          rw [e1, e2]; simp)
        have hb : ((2 * r : Int) == c) = true := by simpa using b
        clear b
        go_enter Tryd.func61, Tryd.ntmps61
        go_wp2_with fail
        refine (plus_any 0 r 0 r (2 * r) _ (by omega) (by omega) r0 (by omega) r0 (by omega) (show _ = _ by omega) (show _ < _ by omega)).mono ?_
        rintro e w1 ⟨rfl, hb1⟩
        rw [ws.1, ws.2]
        have hB1 := hB0.trans (hb1.mono (by simp))
        have hz1 : w.heap.size < w1.heap.size := by have := hb1.size; simp at this; omega
        have hB2 := (hB1.alloc (Nat.le_of_lt hz1) (.cells #[.int .u64 0, .int .u64 (2 * r)] 122)).alloc (by simp; omega) (.cells #[.int .u64 0, .int .u64 c] 122)
        go_wp2_with fail
        refine (less_any 0 c 0 (2 * r) false _ (by omega) (by omega) (by omega) (by omega) (show _ = _ by simp; omega)).mono ?_
        rintro e w2 ⟨rfl, hb2⟩
        have hB3 := hB2.trans (hb2.mono (by simp; omega))
        have t0 : w2.cell? ⟨w1.heap.size, 0, none⟩ = some (.int .u64 0) := by rw [hb2.cell (p := ⟨w1.heap.size, 0, none⟩) (by simp; omega)]; simp
        have t1 : w2.cell? ⟨w1.heap.size, 1, none⟩ = some (.int .u64 (2 * r)) := by rw [hb2.cell (p := ⟨w1.heap.size, 1, none⟩) (by simp; omega)]; simp
        have u0 : w2.cell? ⟨w1.heap.size + 1, 0, none⟩ = some (.int .u64 0) := by rw [hb2.cell (p := ⟨w1.heap.size + 1, 0, none⟩) (by simp)]; simp
        have u1 : w2.cell? ⟨w1.heap.size + 1, 1, none⟩ = some (.int .u64 c) := by rw [hb2.cell (p := ⟨w1.heap.size + 1, 1, none⟩) (by simp)]; simp
        have v1 : w2.cell? ⟨w.heap.size, 1, none⟩ = some (.int .u64 (loW Q)) := by
          rw [hb2.cell (p := ⟨w.heap.size, 1, none⟩) (by simp; omega), World.cell?_alloc_lt _ _ ⟨w.heap.size, 1, none⟩ (by simp; omega), World.cell?_alloc_lt _ _ ⟨w.heap.size, 1, none⟩ hz1, hb1.cell (p := ⟨w.heap.size, 1, none⟩) (by simp)]; simp
        have we := wide_eql 0 (2 * r) 0 c
        have wg := Tryd.wideGuard
        go_wp2_with fail
        go_ret
        exact ⟨ret_bool H.out.symm, hB3⟩
      · have H := hide (show upB Q r c 3 = false by
          rw [up3]
          have e1 : decide (c < 2 * r) = false := by simp; omega
          have e2 : decide (2 * r = c) = false := by simp; omega
          rw [e1, e2]; simp)
        have hb : ((2 * r : Int) == c) = false := by simpa using b
        clear b
        go_enter Tryd.func61, Tryd.ntmps61
        go_wp2_with fail
        refine (plus_any 0 r 0 r (2 * r) _ (by omega) (by omega) r0 (by omega) r0 (by omega) (show _ = _ by omega) (show _ < _ by omega)).mono ?_
        rintro e w1 ⟨rfl, hb1⟩
        rw [ws.1, ws.2]
        have hB1 := hB0.trans (hb1.mono (by simp))
        have hz1 : w.heap.size < w1.heap.size := by have := hb1.size; simp at this; omega
        have hB2 := (hB1.alloc (Nat.le_of_lt hz1) (.cells #[.int .u64 0, .int .u64 (2 * r)] 122)).alloc (by simp; omega) (.cells #[.int .u64 0, .int .u64 c] 122)
        go_wp2_with fail
        refine (less_any 0 c 0 (2 * r) false _ (by omega) (by omega) (by omega) (by omega) (show _ = _ by simp; omega)).mono ?_
        rintro e w2 ⟨rfl, hb2⟩
        have hB3 := hB2.trans (hb2.mono (by simp; omega))
        have t0 : w2.cell? ⟨w1.heap.size, 0, none⟩ = some (.int .u64 0) := by rw [hb2.cell (p := ⟨w1.heap.size, 0, none⟩) (by simp; omega)]; simp
        have t1 : w2.cell? ⟨w1.heap.size, 1, none⟩ = some (.int .u64 (2 * r)) := by rw [hb2.cell (p := ⟨w1.heap.size, 1, none⟩) (by simp; omega)]; simp
        have u0 : w2.cell? ⟨w1.heap.size + 1, 0, none⟩ = some (.int .u64 0) := by rw [hb2.cell (p := ⟨w1.heap.size + 1, 0, none⟩) (by simp)]; simp
        have u1 : w2.cell? ⟨w1.heap.size + 1, 1, none⟩ = some (.int .u64 c) := by rw [hb2.cell (p := ⟨w1.heap.size + 1, 1, none⟩) (by simp)]; simp
        have v1 : w2.cell? ⟨w.heap.size, 1, none⟩ = some (.int .u64 (loW Q)) := by
          rw [hb2.cell (p := ⟨w.heap.size, 1, none⟩) (by simp; omega), World.cell?_alloc_lt _ _ ⟨w.heap.size, 1, none⟩ (by simp; omega), World.cell?_alloc_lt _ _ ⟨w.heap.size, 1, none⟩ hz1, hb1.cell (p := ⟨w.heap.size, 1, none⟩) (by simp)]; simp
        have we := wide_eql 0 (2 * r) 0 c
        have wg := Tryd.wideGuard
        go_wp2_with fail
        go_ret
        exact ⟨ret_bool H.out.symm, hB3⟩
  by_cases m2 : mode = 2
  · subst m2
    by_cases a : 2 * r < c
    · have H := hide (show upB Q r c 2 = false by rw [up2]; simp; omega)
      go_enter Tryd.func61, Tryd.ntmps61
      go_wp2_with fail
      refine (plus_any 0 r 0 r (2 * r) _ (by omega) (by omega) r0 (by omega) r0 (by omega) (show _ = _ by omega) (show _ < _ by omega)).mono ?_
      rintro e w1 ⟨rfl, hb1⟩
      rw [ws.1, ws.2]
      have hB1 := hB0.trans (hb1.mono (by simp))
      have hz1 : w.heap.size < w1.heap.size := by have := hb1.size; simp at this; omega
      have hB2 := (hB1.alloc (Nat.le_of_lt hz1) (.cells #[.int .u64 0, .int .u64 (2 * r)] 122)).alloc (by simp; omega) (.cells #[.int .u64 0, .int .u64 c] 122)
      go_wp2_with fail
      refine (less_any 0 (2 * r) 0 c true _ (by omega) (by omega) (by omega) (by omega) (show _ = _ by simp; omega)).mono ?_
      rintro e w2 ⟨rfl, hb2⟩
      have hB3 := hB2.trans (hb2.mono (by simp; omega))
      go_wp2_with fail
      go_ret
      exact ⟨ret_bool H.out.symm, hB3⟩
    · have H := hide (show upB Q r c 2 = true by rw [up2]; simp; omega)
      go_enter Tryd.func61, Tryd.ntmps61
      go_wp2_with fail
      refine (plus_any 0 r 0 r (2 * r) _ (by omega) (by omega) r0 (by omega) r0 (by omega) (show _ = _ by omega) (show _ < _ by omega)).mono ?_
      rintro e w1 ⟨rfl, hb1⟩
      rw [ws.1, ws.2]
      have hB1 := hB0.trans (hb1.mono (by simp))
      have hz1 : w.heap.size < w1.heap.size := by have := hb1.size; simp at this; omega
      have hB2 := (hB1.alloc (Nat.le_of_lt hz1) (.cells #[.int .u64 0, .int .u64 (2 * r)] 122)).alloc (by simp; omega) (.cells #[.int .u64 0, .int .u64 c] 122)
      go_wp2_with fail
      refine (less_any 0 (2 * r) 0 c false _ (by omega) (by omega) (by omega) (by omega) (show _ = _ by simp; omega)).mono ?_
      rintro e w2 ⟨rfl, hb2⟩
      have hB3 := hB2.trans (hb2.mono (by simp; omega))
      go_wp2_with fail
      go_ret
      exact ⟨ret_bool H.out.symm, hB3⟩
  by_cases m1 : mode = 1
  · subst m1
    have H := hide (up1 Q r c)
    go_enter Tryd.func61, Tryd.ntmps61
    go_wp2_with fail
    refine (plus_any 0 r 0 r (2 * r) _ (by omega) (by omega) r0 (by omega) r0 (by omega) (show _ = _ by omega) (show _ < _ by omega)).mono ?_
    rintro e w1 ⟨rfl, hb1⟩
    rw [ws.1, ws.2]
    have hB1 := hB0.trans (hb1.mono (by simp))
    have hz1 : w.heap.size < w1.heap.size := by have := hb1.size; simp at this; omega
    have hB2 := (hB1.alloc (Nat.le_of_lt hz1) (.cells #[.int .u64 0, .int .u64 (2 * r)] 122)).alloc (by simp; omega) (.cells #[.int .u64 0, .int .u64 c] 122)
    go_wp2_with fail
    go_ret
    exact ⟨ret_bool H.out.symm, hB2⟩
  have hm1 : (mode == 1) = false := by simpa using m1
  have hm2 : (mode == 2) = false := by simpa using m2
  have hm3 : (mode == 3) = false := by simpa using m3
  have H := hide (up_ne (q := Q) (r := r) (c := c) m1 m2 m3)
  go_enter Tryd.func61, Tryd.ntmps61
  go_wp2_with fail
  refine (plus_any 0 r 0 r (2 * r) _ (by omega) (by omega) r0 (by omega) r0 (by omega) (show _ = _ by omega) (show _ < _ by omega)).mono ?_
  rintro e w1 ⟨rfl, hb1⟩
  rw [ws.1, ws.2]
  have hB1 := hB0.trans (hb1.mono (by simp))
  have hz1 : w.heap.size < w1.heap.size := by have := hb1.size; simp at this; omega
  have hB2 := (hB1.alloc (Nat.le_of_lt hz1) (.cells #[.int .u64 0, .int .u64 (2 * r)] 122)).alloc (by simp; omega) (.cells #[.int .u64 0, .int .u64 c] 122)
  go_wp2_with fail
  go_ret
  exact ⟨ret_bool H.out.symm, hB2⟩

set_option maxHeartbeats 1000000 in
theorem refMulDiv_arg (a b c mode : Int) (w : World) (h : a < 0 ∨ b < 0 ∨ c ≤ 0 ∨ mode < 0 ∨ 3 < mode) :
    Calls Tryd.prog 53 #[.int .i64 a, .int .i64 b, .int .i64 c, .int .i64 mode] w fun e w' => e = .returned (.tuple #[.int .i64 (mdV a b c mode), .int .i64 (mdE a b c mode)]) ∧ Below w.heap.size w w' := by
  have H := hide (md_arg h)
  by_cases h1 : a < 0
  · go_enter Tryd.func53, Tryd.ntmps53
    go_wp2
    go_ret2
    exact ⟨ret_ii' H.out.1.symm H.out.2.symm, Below.refl _ _⟩
  by_cases h2 : b < 0
  · go_enter Tryd.func53, Tryd.ntmps53
    go_wp2
    go_ret2
    exact ⟨ret_ii' H.out.1.symm H.out.2.symm, Below.refl _ _⟩
  by_cases h3 : c ≤ 0
  · go_enter Tryd.func53, Tryd.ntmps53
    go_wp2
    go_ret2
    exact ⟨ret_ii' H.out.1.symm H.out.2.symm, Below.refl _ _⟩
  by_cases h4 : mode < 0
  · go_enter Tryd.func53, Tryd.ntmps53
    go_wp2
    go_ret2
    exact ⟨ret_ii' H.out.1.symm H.out.2.symm, Below.refl _ _⟩
  have h5 : 3 < mode := by omega
  clear h
  go_enter Tryd.func53, Tryd.ntmps53
  go_wp2
  go_ret2
  exact ⟨ret_ii' H.out.1.symm H.out.2.symm, Below.refl _ _⟩

set_option maxHeartbeats 1000000 in
theorem refMulDiv_fit (a b c mode : Int) (w : World) (a0 : 0 ≤ a) (a1 : a ≤ 9223372036854775807) (b0 : 0 ≤ b) (b1 : b ≤ 9223372036854775807) (c0 : 0 < c) (c1 : c ≤ 9223372036854775807) (m0 : 0 ≤ mode) (m1 : mode ≤ 3) :
    Calls Tryd.prog 53 #[.int .i64 a, .int .i64 b, .int .i64 c, .int .i64 mode] w fun e w' => e = .returned (.tuple #[.int .i64 (mdV a b c mode), .int .i64 (mdE a b c mode)]) ∧ Below w.heap.size w w' := by
  have hn : ¬ (a < 0 ∨ b < 0 ∨ c ≤ 0 ∨ mode < 0 ∨ 3 < mode) := by omega
  have N0 : 0 ≤ a * b := Int.mul_nonneg a0 b0
  have N1 : a * b < 170141183460469231731687303715884105728 := by
    have h1 : a * b ≤ 9223372036854775807 * b := Int.mul_le_mul_of_nonneg_right a1 b0
    omega
  have hN := hl (a * b)
  have hh := hi_nn N0
  have r0 := Int.emod_nonneg (a * b) (show c ≠ 0 by omega)
  have r1 := Int.emod_lt_of_pos (a * b) c0
  have q0 : 0 ≤ a * b / c := Int.ediv_nonneg N0 (by omega)
  have q1 : a * b / c ≤ a * b := Int.ediv_le_self _ N0
  have Hup := hide (fun h => mdQ_up (a := a) (b := b) (c := c) (mode := mode) h)
  have Hdn := hide (fun h => mdQ_down (a := a) (b := b) (c := c) (mode := mode) h)
  have Hov := hide (fun h => md_over (a := a) (b := b) (c := c) (mode := mode) hn h)
  have Hok := hide (fun h => md_ok (a := a) (b := b) (c := c) (mode := mode) hn h)
  have HN := hide hN.1
  obtain ⟨-, l0, l1⟩ := hN
  have hQ := hl (a * b / c)
  clear hn
  go_enter Tryd.func53, Tryd.ntmps53
  go_wp2_with fail
  refine (times_any a b _ (by omega) (by omega) (by omega) (by omega)).mono ?_
  rintro e w1 ⟨rfl, hb1⟩
  go_wp2_with fail
  refine (over_any _ _ c (a * b) _ hh (by have := HN.out; omega) l0 l1 c0 (by omega) (show _ = _ from HN.out.symm)).mono ?_
  rintro e w2 ⟨rfl, hb2⟩
  have hB2 := hb1.trans (hb2.mono hb1.size)
  have hz2 := hB2.size
  go_wp2_with fail
  refine (refRounds_any (a * b / c) (a * b % c) c mode _ r0 r1 (by omega)).mono ?_
  rintro e w3 ⟨rfl, hb3⟩
  have hB3 := (hB2.alloc hz2 (.cells #[.int .u64 (hiW (a * b / c)), .int .u64 (loW (a * b / c))] 122)).trans (hb3.mono (by simp; omega))
  have hz3 : w2.heap.size < w3.heap.size := by have := hb3.size; simp at this; omega
  have x0 : w3.cell? ⟨w2.heap.size, 0, none⟩ = some (.int .u64 (hiW (a * b / c))) := by rw [hb3.cell (p := ⟨w2.heap.size, 0, none⟩) (by simp)]; simp
  have x1 : w3.cell? ⟨w2.heap.size, 1, none⟩ = some (.int .u64 (loW (a * b / c))) := by rw [hb3.cell (p := ⟨w2.heap.size, 1, none⟩) (by simp)]; simp
  cases hu : upB (a * b / c) (a * b % c) c mode
  · have Hq := hide (Hdn.out hu)
    clear Hup Hdn hu
    by_cases hm : 9223372036854775807 < a * b / c
    · have H := hide (Hov.out (by have := Hq.out; omega))
      clear Hov Hok
      by_cases hp : 0 < hiW (a * b / c)
      · go_wp2_with fail
        go_ret2
        exact ⟨ret_ii' H.out.1.symm H.out.2.symm, hB3⟩
      · have hp2 : 9223372036854775807 < loW (a * b / c) := by omega
        go_wp2_with fail
        go_ret2
        exact ⟨ret_ii' H.out.1.symm H.out.2.symm, hB3⟩
    · have H := hide (Hok.out (by have := Hq.out; omega))
      have ws := word_small (x := a * b / c) q0 (by omega)
      rw [ws.1] at x0
      rw [ws.2] at x1
      clear Hov Hok
      generalize a * b / c = q at *
      go_wp2_with fail
      go_ret2
      exact ⟨ret_ii' (Hq.out.symm.trans H.out.1.symm) H.out.2.symm, hB3⟩
  · have Hq := hide (Hup.out hu)
    clear Hup Hdn hu
    have f0 : w3.frozen? ⟨w2.heap.size, 0, none⟩ = false := by rw [hb3.frozen (p := ⟨w2.heap.size, 0, none⟩) (by simp)]; simp
    have f1 : w3.frozen? ⟨w2.heap.size, 1, none⟩ = false := by rw [hb3.frozen (p := ⟨w2.heap.size, 1, none⟩) (by simp)]; simp
    go_wp2_with fail
    refine (plus_any (hiW (a * b / c)) (loW (a * b / c)) 0 1 (a * b / c + 1) _ (hi_nn q0) (by omega) hQ.2.1 hQ.2.2 (by omega) (by omega) (show _ = _ by omega) (show _ < _ by omega)).mono ?_
    rintro e w4 ⟨rfl, hb4⟩
    have hB4 := hB3.trans (hb4.mono hB3.size)
    have y0 : w4.cell? ⟨w2.heap.size, 0, none⟩ = some (.int .u64 (hiW (a * b / c))) := by rw [hb4.cell (p := ⟨w2.heap.size, 0, none⟩) hz3]; exact x0
    have y1 : w4.cell? ⟨w2.heap.size, 1, none⟩ = some (.int .u64 (loW (a * b / c))) := by rw [hb4.cell (p := ⟨w2.heap.size, 1, none⟩) hz3]; exact x1
    have g0 : w4.frozen? ⟨w2.heap.size, 0, none⟩ = false := by rw [hb4.frozen (p := ⟨w2.heap.size, 0, none⟩) hz3]; exact f0
    have g1 : w4.frozen? ⟨w2.heap.size, 1, none⟩ = false := by rw [hb4.frozen (p := ⟨w2.heap.size, 1, none⟩) hz3]; exact f1
    have hB5 := (hB4.setCell (p := ⟨w2.heap.size, 0, none⟩) (by simpa using hz2) (.int .u64 (hiW (a * b / c + 1)))).setCell (p := ⟨w2.heap.size, 1, none⟩) (by simpa using hz2) (.int .u64 (loW (a * b / c + 1)))
    have hQ1 := hl (a * b / c + 1)
    clear x0 x1 f0 f1 hQ
    by_cases hm : 9223372036854775807 < a * b / c + 1
    · have H := hide (Hov.out (by have := Hq.out; omega))
      clear Hov Hok
      by_cases hp : 0 < hiW (a * b / c + 1)
      · go_wp2_with fail
        go_ret2
        exact ⟨ret_ii' H.out.1.symm H.out.2.symm, hB5⟩
      · have hp2 : 9223372036854775807 < loW (a * b / c + 1) := by have := hi_nn (n := a * b / c + 1) (by omega); omega
        go_wp2_with fail
        go_ret2
        exact ⟨ret_ii' H.out.1.symm H.out.2.symm, hB5⟩
    · have H := hide (Hok.out (by have := Hq.out; omega))
      have ws := word_small (x := a * b / c + 1) (by omega) (by omega)
      clear Hov Hok
      rw [ws.1, ws.2] at hB5
      rw [ws.1, ws.2]
      clear hQ1
      go_wp2_with fail
      go_ret2
      exact ⟨ret_ii' (Hq.out.symm.trans H.out.1.symm) H.out.2.symm, hB5⟩

theorem mulDiv_any (a b c mode : Int) (w : World) (a1 : a ≤ 9223372036854775807) (b1 : b ≤ 9223372036854775807) (c1 : c ≤ 9223372036854775807) :
    Calls Tryd.prog 54 #[.int .i64 a, .int .i64 b, .int .i64 c, .int .i64 mode] w fun e w' => e = .returned (.tuple #[.int .i64 (mdV a b c mode), errV (mdE a b c mode)]) ∧ Below w.heap.size w w' := by
  by_cases h : a < 0 ∨ b < 0 ∨ c ≤ 0 ∨ mode < 0 ∨ 3 < mode
  · exact mulDiv_arg a b c mode w h
  · exact mulDiv_fit a b c mode w (by omega) a1 (by omega) b1 (by omega) c1 (by omega) (by omega)
theorem refMulDiv_any (a b c mode : Int) (w : World) (a1 : a ≤ 9223372036854775807) (b1 : b ≤ 9223372036854775807) (c1 : c ≤ 9223372036854775807) :
    Calls Tryd.prog 53 #[.int .i64 a, .int .i64 b, .int .i64 c, .int .i64 mode] w fun e w' => e = .returned (.tuple #[.int .i64 (mdV a b c mode), .int .i64 (mdE a b c mode)]) ∧ Below w.heap.size w w' := by
  by_cases h : a < 0 ∨ b < 0 ∨ c ≤ 0 ∨ mode < 0 ∨ 3 < mode
  · exact refMulDiv_arg a b c mode w h
  · exact refMulDiv_fit a b c mode w (by omega) a1 (by omega) b1 (by omega) c1 (by omega) (by omega)
end Go.Proofs.YtmojckejjjlkjaaDoor
