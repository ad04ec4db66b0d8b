/-
  My own text: the law on rounding, held against the product itself.
-/
import Derived.Test.YtialddjadkkkkaaDoorRefMulDiv
import Derived.Carry
namespace Go.Proofs.YtialddjadkkkkaaDoor
open Go.RowKit

/-- A variable of two words, in whatever later world. -/
structure Two (w : World) (b : Nat) (x y : Int) : Prop where
  lt : b < w.heap.size
  c0 : w.cell? ⟨b, 0, none⟩ = some (.int .u64 x)
  c1 : w.cell? ⟨b, 1, none⟩ = some (.int .u64 y)
  f0 : w.frozen? ⟨b, 0, none⟩ = false
  f1 : w.frozen? ⟨b, 1, none⟩ = false
theorem Two.later {w w1 : World} {b : Nat} {x y : Int} (h : Two w b x y) (hb : Below w.heap.size w w1) : Two w1 b x y := by
  obtain ⟨hc, hf⟩ := bcell hb
  exact ⟨Nat.lt_of_lt_of_le h.lt hb.size, (hc _ _ h.lt).trans h.c0, (hc _ _ h.lt).trans h.c1, (hf _ _ h.lt).trans h.f0, (hf _ _ h.lt).trans h.f1⟩
theorem Two.new (w : World) (x y : Int) (t : TypeId) : Two (w.alloc (.cells #[.int .u64 x, .int .u64 y] t)) w.heap.size x y := by
  refine ⟨by simp, ?_, ?_, ?_, ?_⟩ <;> simp
theorem Two.set {w : World} {b b' : Nat} {x y : Int} (h : Two w b x y) (u v : Int) (hne : b' ≠ b) : Two ((w.setCell ⟨b', 0, none⟩ (.int .u64 u)).setCell ⟨b', 1, none⟩ (.int .u64 v)) b x y := by
  refine ⟨by simpa using h.lt, cell_other (cell_other h.c0 (Or.inl hne)) (Or.inl hne), cell_other (cell_other h.c1 (Or.inl hne)) (Or.inl hne), ?_, ?_⟩
  · rw [World.frozen?_setCell, World.frozen?_setCell]; exact h.f0
  · rw [World.frozen?_setCell, World.frozen?_setCell]; exact h.f1
theorem Two.put {w : World} {b : Nat} {x y : Int} (h : Two w b x y) (u v : Int) : Two ((w.setCell ⟨b, 0, none⟩ (.int .u64 u)).setCell ⟨b, 1, none⟩ (.int .u64 v)) b u v := by
  refine ⟨by simpa using h.lt, cell_other (World.cell?_setCell_same _ _ _ h.c0) (by omega), World.cell?_setCell_same _ _ _ (cell_other h.c1 (by omega)), ?_, ?_⟩
  · rw [World.frozen?_setCell, World.frozen?_setCell]; exact h.f0
  · rw [World.frozen?_setCell, World.frozen?_setCell]; exact h.f1
theorem Two.alloc {w : World} {b : Nat} {x y : Int} (h : Two w b x y) (o : Obj) : Two (w.alloc o) b x y := h.later ((Below.refl _ _).alloc (Nat.le_refl _) _)

set_option maxHeartbeats 1000000 in
theorem lifted_any (a b c mode q : Int) (u : Bool) (w : World) (hE : ErrType w) (a0 : 0 ≤ a) (a1 : a ≤ 9223372036854775807) (b0 : 0 ≤ b) (b1 : b ≤ 9223372036854775807) (c0 : 0 < c) (c1 : c ≤ 9223372036854775807) (m0 : 0 ≤ mode) (m1 : mode ≤ 3)
    (q0 : 0 ≤ q) (q1 : q ≤ 9223372036854775807) (hq : Hid (q = a * b / c)) (hu : Hid (u = upB (a * b / c) (a * b % c) c mode)) :
    Calls Tryd.prog 40 #[.int .i64 a, .int .i64 b, .int .i64 c, .int .i64 mode, .int .i64 q, .bool u] w fun e w' => e = .returned (.bool true) ∧ Below w.heap.size w w' := by
  have hn : ¬ (a < 0 ∨ b < 0 ∨ c ≤ 0 ∨ mode < 0 ∨ 3 < mode) := by omega
  cases u
  · have H := hide (md_ok hn (by rw [mdQ_down hu.out.symm, ← hq.out]; omega))
    have H2 := hide ((mdQ_down hu.out.symm).trans hq.out.symm)
    clear hn
    go_enter Tryd.func40, Tryd.ntmps40
    go_wp2_with fail
    refine (mulDiv_any a b c mode _ a1 b1 c1).mono ?_
    rintro e w1 ⟨rfl, hb1⟩
    rw [H.out.1, H.out.2, H2.out, errV_zero]
    go_wp2_with fail
    go_ret
    exact ⟨rfl, hb1⟩
  · by_cases hm : q = 9223372036854775807
    · have H := hide (md_over hn (by rw [mdQ_up hu.out.symm, ← hq.out]; omega))
      clear hn
      go_enter Tryd.func40, Tryd.ntmps40
      go_wp2_with fail
      refine (mulDiv_any a b c mode _ a1 b1 c1).mono ?_
      rintro e w1 ⟨rfl, hb1⟩
      rw [H.out.1, H.out.2]
      have hqb : (q == 9223372036854775807) = true := by simpa using hm
      clear hm
      go_wp2_with fail
      refine (plain_errV 9 9 _ (by omega) (by omega) (hE.below hb1)).mono ?_
      rintro e w2 ⟨rfl, hb2⟩
      go_wp2_with fail
      go_ret
      exact ⟨rfl, hb1.trans (hb2.mono hb1.size)⟩
    · have H := hide (md_ok hn (by rw [mdQ_up hu.out.symm, ← hq.out]; omega))
      have H2 := hide ((mdQ_up hu.out.symm).trans (congrArg (· + 1) hq.out.symm))
      clear hn
      go_enter Tryd.func40, Tryd.ntmps40
      go_wp2_with fail
      refine (mulDiv_any a b c mode _ a1 b1 c1).mono ?_
      rintro e w1 ⟨rfl, hb1⟩
      rw [H.out.1, H.out.2, H2.out, errV_zero]
      have hqb : (q == 9223372036854775807) = false := by simpa using hm
      go_wp2_with fail
      go_ret
      exact ⟨rfl, hb1⟩

set_option maxHeartbeats 1000000 in
theorem rounds_arg (a b c : Int) (w : World) (hE : ErrType w) (a1 : a ≤ 9223372036854775807) (b1 : b ≤ 9223372036854775807) (c1 : c ≤ 9223372036854775807) (h : a < 0 ∨ b < 0 ∨ c ≤ 0) :
    Calls Tryd.prog 8 #[.int .i64 a, .int .i64 b, .int .i64 c] w fun e w' => e = .returned (.bool true) ∧ Below w.heap.size w w' := by
  have H := hide (md_arg (a := a) (b := b) (c := c) (mode := 0) (by omega))
  by_cases h1 : a < 0
  · go_enter Tryd.func8, Tryd.ntmps8
    go_wp2_with fail
    refine (mulDiv_any a b c 0 _ a1 b1 c1).mono ?_
    rintro e w1 ⟨rfl, hb1⟩
    rw [H.out.1, H.out.2]
    go_wp2_with fail
    refine (plain_errV 1 1 _ (by omega) (by omega) (hE.below hb1)).mono ?_
    rintro e w2 ⟨rfl, hb2⟩
    go_wp2_with fail
    go_ret
    exact ⟨rfl, hb1.trans (hb2.mono hb1.size)⟩
  by_cases h2 : b < 0
  · go_enter Tryd.func8, Tryd.ntmps8
    go_wp2_with fail
    refine (mulDiv_any a b c 0 _ a1 b1 c1).mono ?_
    rintro e w1 ⟨rfl, hb1⟩
    rw [H.out.1, H.out.2]
    go_wp2_with fail
    refine (plain_errV 1 1 _ (by omega) (by omega) (hE.below hb1)).mono ?_
    rintro e w2 ⟨rfl, hb2⟩
    go_wp2_with fail
    go_ret
    exact ⟨rfl, hb1.trans (hb2.mono hb1.size)⟩
  have h3 : c ≤ 0 := by omega
  clear h
  go_enter Tryd.func8, Tryd.ntmps8
  go_wp2_with fail
  refine (mulDiv_any a b c 0 _ a1 b1 c1).mono ?_
  rintro e w1 ⟨rfl, hb1⟩
  rw [H.out.1, H.out.2]
  go_wp2_with fail
  refine (plain_errV 1 1 _ (by omega) (by omega) (hE.below hb1)).mono ?_
  rintro e w2 ⟨rfl, hb2⟩
  go_wp2_with fail
  go_ret
  exact ⟨rfl, hb1.trans (hb2.mono hb1.size)⟩

set_option maxRecDepth 100000 in
set_option maxHeartbeats 2000000 in
theorem rounds_fit (a b c : Int) (w : World) (hE : ErrType w) (a0 : 0 ≤ a) (a1 : a ≤ 9223372036854775807) (b0 : 0 ≤ b) (b1 : b ≤ 9223372036854775807) (c0 : 0 < c) (c1 : c ≤ 9223372036854775807) :
    Calls Tryd.prog 8 #[.int .i64 a, .int .i64 b, .int .i64 c] w fun e w' => e = .returned (.bool true) ∧ Below w.heap.size w w' := by
  have hn : ¬ (a < 0 ∨ b < 0 ∨ c ≤ 0 ∨ (0 : Int) < 0 ∨ (3 : Int) < 0) := by omega
  have N0 : 0 ≤ a * b := Int.mul_nonneg a0 b0
  have N1 : a * b < 170141183460469231731687303715884105728 := by
    have h1 : a * b ≤ 9223372036854775807 * b := Int.mul_le_mul_of_nonneg_right a1 b0
    omega
  have hN := hl (a * b)
  have hh := hi_nn N0
  have hT := hl (9223372036854775807 * c)
  have hh2 := hi_nn (n := 9223372036854775807 * c) (by omega)
  have hT2 := hl (9223372036854775808 * c)
  have hh3 := hi_nn (n := 9223372036854775808 * c) (by omega)
  have r0 := Int.emod_nonneg (a * b) (show c ≠ 0 by omega)
  have r1 := Int.emod_lt_of_pos (a * b) c0
  have q0 : 0 ≤ a * b / c := Int.ediv_nonneg N0 (by omega)
  have HD := hide (Int.ediv_mul_add_emod (a * b) c)
  have hQ : mdQ a b c 0 = a * b / c := mdQ_down rfl
  have HN := hide hN.1
  have HT := hide hT.1
  have HT2 := hide hT2.1
  obtain ⟨-, l0, l1⟩ := hN
  obtain ⟨-, l2, l3⟩ := hT
  obtain ⟨-, l4, l5⟩ := hT2
  have HQ := hide hQ
  have Hov := hide (fun h => md_over (a := a) (b := b) (c := c) (mode := 0) hn h)
  have Hok := hide (fun h => md_ok (a := a) (b := b) (c := c) (mode := 0) hn h)
  clear hQ hn
  go_enter Tryd.func8, Tryd.ntmps8
  go_wp2_with fail
  refine (times_any a b _ (by omega) (by omega) (by omega) (by omega)).mono ?_
  rintro e w1 ⟨rfl, hb1⟩
  go_wp2_with fail
  have A1 := Two.new w1 (hiW (a * b)) (loW (a * b)) 72
  have hB1 := hb1.alloc hb1.size (.cells #[.int .u64 (hiW (a * b)), .int .u64 (loW (a * b))] 72)
  refine (mulDiv_any a b c 0 _ a1 b1 c1).mono ?_
  rintro e w2 ⟨rfl, hb2⟩
  have A2 := A1.later hb2
  have hB2 := hB1.trans (hb2.mono hB1.size)
  clear A1
  go_wp2_with fail
  refine (times_any 9223372036854775807 c _ (by omega) (by omega) (by omega) (by omega)).mono ?_
  rintro e w3 ⟨rfl, hb3⟩
  have A3 := (A2.later hb3).alloc (.cells #[.int .u64 (hiW (9223372036854775807 * c)), .int .u64 (loW (9223372036854775807 * c))] 72)
  have T3 := Two.new w3 (hiW (9223372036854775807 * c)) (loW (9223372036854775807 * c)) 72
  have hB3 := hB2.trans (hb3.mono hB2.size)
  have hne : w3.heap.size ≠ w1.heap.size := by have := (A2.later hb3).lt; omega
  have hB3' := hB3.alloc hB3.size (.cells #[.int .u64 (hiW (9223372036854775807 * c)), .int .u64 (loW (9223372036854775807 * c))] 72)
  clear A2
  go_wp2_with fail
  refine (plus_any _ _ 0 c (9223372036854775808 * c) _ hh2 (by omega) l2 l3 (by omega) (by omega) (show _ = _ by have := HT.out; omega) (show _ < _ by omega)).mono ?_
  rintro e w4 ⟨rfl, hb4⟩
  have A4 := A3.later hb4
  have T4 := T3.later hb4
  have hB4 := hB3'.trans (hb4.mono hB3'.size)
  have x0 := T4.c0
  have x1 := T4.c1
  have y0 := T4.f0
  have y1 := T4.f1
  have z0 := A4.c0
  have z1 := A4.c1
  have A5 := A4.set (hiW (9223372036854775808 * c)) (loW (9223372036854775808 * c)) hne
  have hB5 := (hB4.setCell (p := ⟨w3.heap.size, 0, none⟩) (by simpa using hB3.size) (.int .u64 (hiW (9223372036854775808 * c)))).setCell (p := ⟨w3.heap.size, 1, none⟩) (by simpa using hB3.size) (.int .u64 (loW (9223372036854775808 * c)))
  clear A3 A4 T3 T4
  have hne2 : ¬ w3.heap.size = w1.heap.size := hne
  go_wp2_with fail
  by_cases hov : 9223372036854775807 < a * b / c
  · have hge : 9223372036854775808 * c ≤ a * b := by
      have h1 : 9223372036854775808 * c ≤ a * b / c * c := Int.mul_le_mul_of_nonneg_right (by omega) (by omega)
      have := HD.out; omega
    have H := hide (Hov.out (by rw [HQ.out]; exact hov))
    rw [H.out.1, H.out.2]
    refine (less_any _ _ _ _ false _ l0 l1 l4 l5 (show _ = _ by have := HN.out; have := HT2.out; simp; omega)).mono ?_
    rintro e w5 ⟨rfl, hb5⟩
    have hB6 := hB5.trans (hb5.mono hB5.size)
    go_wp2_with fail
    refine (plain_errV 9 9 _ (by omega) (by omega) (hE.below hB6)).mono ?_
    rintro e w6 ⟨rfl, hb6⟩
    go_wp2_with fail
    go_ret
    exact ⟨rfl, hB6.trans (hb6.mono hB6.size)⟩
  · have hlt : a * b < 9223372036854775808 * c := by
      have h1 : (a * b / c + 1) * c ≤ 9223372036854775808 * c := Int.mul_le_mul_of_nonneg_right (by omega) (by omega)
      rw [Int.add_mul, Int.one_mul] at h1
      have := HD.out; omega
    have H := hide (Hok.out (by rw [HQ.out]; omega))
    rw [H.out.1, H.out.2, HQ.out, errV_zero]
    refine (less_any _ _ _ _ true _ l0 l1 l4 l5 (show _ = _ by have := HN.out; have := HT2.out; simp; omega)).mono ?_
    rintro e w5 ⟨rfl, hb5⟩
    have hB6 := hB5.trans (hb5.mono hB5.size)
    have A6 := A5.later hb5
    clear x0 x1 y0 y1 z0 z1 A5 H Hok Hov HQ
    generalize hq : a * b / c = q at *
    generalize hr : a * b % c = r at *
    have Hq := hide hq.symm
    have Hr := hide hr.symm
    clear hq hr
    have p0 : 0 ≤ q * c := Int.mul_nonneg q0 (by omega)
    have hL := hl (q * c)
    have hhL := hi_nn p0
    have HL := hide hL.1
    obtain ⟨-, l6, l7⟩ := hL
    go_wp2_with fail
    refine (times_any q c _ q0 (by omega) (by omega) (by omega)).mono ?_
    rintro e w7 ⟨rfl, hb7⟩
    have hB7 := hB6.trans (hb7.mono hB6.size)
    have A7 := (A6.later hb7).alloc (.cells #[.int .u64 (hiW (q * c)), .int .u64 (loW (q * c))] 72)
    have L7 := Two.new w7 (hiW (q * c)) (loW (q * c)) 72
    have hB7' := hB7.alloc hB7.size (.cells #[.int .u64 (hiW (q * c)), .int .u64 (loW (q * c))] 72)
    have z0 := A7.c0
    have z1 := A7.c1
    go_wp2_with fail
    refine (less_any _ _ _ _ false _ l0 l1 l6 l7 (show _ = _ by have := HN.out; have := HL.out; have := HD.out; simp; omega)).mono ?_
    rintro e w8 ⟨rfl, hb8⟩
    have hB8 := hB7'.trans (hb8.mono hB7'.size)
    have A8 := A7.later hb8
    have L8 := L7.later hb8
    clear z0 z1
    have z0 := A8.c0
    have z1 := A8.c1
    have x0 := L8.c0
    have x1 := L8.c1
    go_wp2_with fail
    refine (minus_any _ _ _ _ r _ (by have := HN.out; omega) hhL l0 l1 l6 l7 (show _ = _ by have := HN.out; have := HL.out; have := HD.out; omega) (show _ ≤ _ from r0)).mono ?_
    rintro e w9 ⟨rfl, hb9⟩
    have ws := word_small (x := r) r0 (by omega)
    rw [ws.1, ws.2]
    have hB9' := hB8.trans (hb9.mono hB8.size)
    have hB9 := hB9'.alloc hB9'.size (.cells #[.int .u64 0, .int .u64 r] 72)
    have R9 := Two.new w9 0 r 72
    have hE9 := hE.below hB9
    clear z0 z1 x0 x1 A7 L7 A8 L8 ws
    by_cases g1 : c - r < r
    · go_wp2_with fail
      refine (lifted_any a b c 1 q _ _ hE9 a0 a1 b0 b1 c0 c1 (by omega) (by omega) q0 (by omega) (show _ = _ from Hq.out) (show _ = _ from by rw [← Hq.out, ← Hr.out]; exact (up1 q r c).symm)).mono ?_
      rintro e w10 ⟨rfl, hb10⟩
      have hB10 := hB9.trans (hb10.mono hB9.size)
      go_wp2_with fail
      refine (lifted_any a b c 2 q _ _ (hE.below hB10) a0 a1 b0 b1 c0 c1 (by omega) (by omega) q0 (by omega) (show _ = _ from Hq.out) (show _ = _ from by rw [← Hq.out, ← Hr.out, up2]; simp; omega)).mono ?_
      rintro e w11 ⟨rfl, hb11⟩
      have hB11 := hB10.trans (hb11.mono hB10.size)
      go_wp2_with fail
      refine (lifted_any a b c 3 q _ _ (hE.below hB11) a0 a1 b0 b1 c0 c1 (by omega) (by omega) q0 (by omega) (show _ = _ from Hq.out) (show _ = _ from by rw [← Hq.out, ← Hr.out, up3]; simp; omega)).mono ?_
      rintro e w12 ⟨rfl, hb12⟩
      have hB12 := hB11.trans (hb12.mono hB11.size)
      go_wp2_with fail
      refine (lifted_any b a c 0 q _ _ (hE.below hB12) b0 b1 a0 a1 c0 c1 (by omega) (by omega) q0 (by omega) (show _ = _ from by rw [Int.mul_comm b a]; exact Hq.out) (show _ = _ from rfl)).mono ?_
      rintro e w13 ⟨rfl, hb13⟩
      go_wp2_with fail
      go_ret
      exact ⟨rfl, hB12.trans (hb13.mono hB12.size)⟩
    · by_cases g2 : r < c - r
      · go_wp2_with fail
        refine (lifted_any a b c 1 q _ _ hE9 a0 a1 b0 b1 c0 c1 (by omega) (by omega) q0 (by omega) (show _ = _ from Hq.out) (show _ = _ from by rw [← Hq.out, ← Hr.out]; exact (up1 q r c).symm)).mono ?_
        rintro e w10 ⟨rfl, hb10⟩
        have hB10 := hB9.trans (hb10.mono hB9.size)
        go_wp2_with fail
        refine (lifted_any a b c 2 q _ _ (hE.below hB10) a0 a1 b0 b1 c0 c1 (by omega) (by omega) q0 (by omega) (show _ = _ from Hq.out) (show _ = _ from by rw [← Hq.out, ← Hr.out, up2]; simp; omega)).mono ?_
        rintro e w11 ⟨rfl, hb11⟩
        have hB11 := hB10.trans (hb11.mono hB10.size)
        go_wp2_with fail
        refine (lifted_any a b c 3 q _ _ (hE.below hB11) a0 a1 b0 b1 c0 c1 (by omega) (by omega) q0 (by omega) (show _ = _ from Hq.out) (show _ = _ from by rw [← Hq.out, ← Hr.out, up3]; simp; omega)).mono ?_
        rintro e w12 ⟨rfl, hb12⟩
        have hB12 := hB11.trans (hb12.mono hB11.size)
        go_wp2_with fail
        refine (lifted_any b a c 0 q _ _ (hE.below hB12) b0 b1 a0 a1 c0 c1 (by omega) (by omega) q0 (by omega) (show _ = _ from by rw [Int.mul_comm b a]; exact Hq.out) (show _ = _ from rfl)).mono ?_
        rintro e w13 ⟨rfl, hb13⟩
        go_wp2_with fail
        go_ret
        exact ⟨rfl, hB12.trans (hb13.mono hB12.size)⟩
      · go_wp2_with fail
        refine (lifted_any a b c 1 q _ _ hE9 a0 a1 b0 b1 c0 c1 (by omega) (by omega) q0 (by omega) (show _ = _ from Hq.out) (show _ = _ from by rw [← Hq.out, ← Hr.out]; exact (up1 q r c).symm)).mono ?_
        rintro e w10 ⟨rfl, hb10⟩
        have hB10 := hB9.trans (hb10.mono hB9.size)
        go_wp2_with fail
        refine (lifted_any a b c 2 q _ _ (hE.below hB10) a0 a1 b0 b1 c0 c1 (by omega) (by omega) q0 (by omega) (show _ = _ from Hq.out) (show _ = _ from by rw [← Hq.out, ← Hr.out, up2]; simp; omega)).mono ?_
        rintro e w11 ⟨rfl, hb11⟩
        have hB11 := hB10.trans (hb11.mono hB10.size)
        go_wp2_with fail
        refine (lifted_any a b c 3 q _ _ (hE.below hB11) a0 a1 b0 b1 c0 c1 (by omega) (by omega) q0 (by omega) (show _ = _ from Hq.out) (show _ = _ by rw [← Hq.out, ← Hr.out, up3, show decide (c < 2 * r) = false by simp; omega, show decide (2 * r = c) = true by simp; omega]; simp)).mono ?_
        rintro e w12 ⟨rfl, hb12⟩
        have hB12 := hB11.trans (hb12.mono hB11.size)
        go_wp2_with fail
        refine (lifted_any b a c 0 q _ _ (hE.below hB12) b0 b1 a0 a1 c0 c1 (by omega) (by omega) q0 (by omega) (show _ = _ from by rw [Int.mul_comm b a]; exact Hq.out) (show _ = _ from rfl)).mono ?_
        rintro e w13 ⟨rfl, hb13⟩
        go_wp2_with fail
        go_ret
        exact ⟨rfl, hB12.trans (hb13.mono hB12.size)⟩

theorem rounds_law (a b c : Int) (w : World) (hE : ErrType w) (a1 : a ≤ 9223372036854775807) (b1 : b ≤ 9223372036854775807) (c1 : c ≤ 9223372036854775807) :
    Calls Tryd.prog 8 #[.int .i64 a, .int .i64 b, .int .i64 c] w fun e w' => e = .returned (.bool true) ∧ Below w.heap.size w w' := by
  by_cases h : a < 0 ∨ b < 0 ∨ c ≤ 0
  · exact rounds_arg a b c w hE a1 b1 c1 h
  · exact rounds_fit a b c w hE (by omega) a1 (by omega) b1 (by omega) c1
end Go.Proofs.YtialddjadkkkkaaDoor
