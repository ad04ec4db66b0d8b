/-
  My own text: the document's answer's quotient, bit by bit.
-/
import Derived.Test.YtmojckejjjlkjaaDoorWide
import Derived.RegionTactic
import Derived.WalkSmall
namespace Go.Proofs.YtmojckejjjlkjaaDoor
open Go.RowKit

/-- The four variables of the call, in whatever later world. -/
structure Ov (S : Nat) (w0 w : World) (nh nl ah al qh ql rh rl : Int) : Prop where
  below : Below S w0 w
  size : S + 1 + 1 + 1 < w.heap.size
  n0 : w.cell? ⟨S, 0, none⟩ = some (.int .u64 nh)
  n1 : w.cell? ⟨S, 1, none⟩ = some (.int .u64 nl)
  a0 : w.cell? ⟨S + 1, 0, none⟩ = some (.int .u64 ah)
  a1 : w.cell? ⟨S + 1, 1, none⟩ = some (.int .u64 al)
  q0 : w.cell? ⟨S + 1 + 1, 0, none⟩ = some (.int .u64 qh)
  q1 : w.cell? ⟨S + 1 + 1, 1, none⟩ = some (.int .u64 ql)
  r0 : w.cell? ⟨S + 1 + 1 + 1, 0, none⟩ = some (.int .u64 rh)
  r1 : w.cell? ⟨S + 1 + 1 + 1, 1, none⟩ = some (.int .u64 rl)
  fa0 : w.frozen? ⟨S + 1, 0, none⟩ = false
  fa1 : w.frozen? ⟨S + 1, 1, none⟩ = false
  fq0 : w.frozen? ⟨S + 1 + 1, 0, none⟩ = false
  fq1 : w.frozen? ⟨S + 1 + 1, 1, none⟩ = false
  fr0 : w.frozen? ⟨S + 1 + 1 + 1, 0, none⟩ = false
  fr1 : w.frozen? ⟨S + 1 + 1 + 1, 1, none⟩ = false
theorem Ov.later {S : Nat} {w0 w w1 : World} {nh nl ah al qh ql rh rl : Int} (h : Ov S w0 w nh nl ah al qh ql rh rl) (hb : Below w.heap.size w w1) : Ov S w0 w1 nh nl ah al qh ql rh rl := by
  have hs := h.size
  have hz := hb.size
  obtain ⟨hc, hf⟩ := bcell hb
  exact ⟨h.below.trans (hb.mono (by omega)), by omega, (hc _ _ (by omega)).trans h.n0, (hc _ _ (by omega)).trans h.n1, (hc _ _ (by omega)).trans h.a0, (hc _ _ (by omega)).trans h.a1,
    (hc _ _ (by omega)).trans h.q0, (hc _ _ (by omega)).trans h.q1, (hc _ _ (by omega)).trans h.r0, (hc _ _ (by omega)).trans h.r1,
    (hf _ _ (by omega)).trans h.fa0, (hf _ _ (by omega)).trans h.fa1, (hf _ _ (by omega)).trans h.fq0, (hf _ _ (by omega)).trans h.fq1, (hf _ _ (by omega)).trans h.fr0, (hf _ _ (by omega)).trans h.fr1⟩
theorem cell_other {w : World} {b o b' o' : Nat} {v x : Value} (h : w.cell? ⟨b', o', none⟩ = some x) (hne : b ≠ b' ∨ o ≠ o') : (w.setCell ⟨b, o, none⟩ v).cell? ⟨b', o', none⟩ = some x := by
  rw [World.cell?_setCell_other _ _ _ _ (by intro e; simp at e; omega)]; exact h
theorem Ov.setR {S : Nat} {w0 w : World} {nh nl ah al qh ql rh rl : Int} (h : Ov S w0 w nh nl ah al qh ql rh rl) (x y : Int) :
    Ov S w0 ((w.setCell ⟨S + 1 + 1 + 1, 0, none⟩ (.int .u64 x)).setCell ⟨S + 1 + 1 + 1, 1, none⟩ (.int .u64 y)) nh nl ah al qh ql x y := by
  refine ⟨(h.below.setCell (by simp; omega) _).setCell (by simp; omega) _, by simpa using h.size, cell_other (cell_other h.n0 (by omega)) (by omega), cell_other (cell_other h.n1 (by omega)) (by omega),
    cell_other (cell_other h.a0 (by omega)) (by omega), cell_other (cell_other h.a1 (by omega)) (by omega), cell_other (cell_other h.q0 (by omega)) (by omega), cell_other (cell_other h.q1 (by omega)) (by omega),
    cell_other (World.cell?_setCell_same _ _ _ h.r0) (by omega), World.cell?_setCell_same _ _ _ (cell_other h.r1 (by omega)), ?_, ?_, ?_, ?_, ?_, ?_⟩
  all_goals (rw [World.frozen?_setCell, World.frozen?_setCell]; first | exact h.fa0 | exact h.fa1 | exact h.fq0 | exact h.fq1 | exact h.fr0 | exact h.fr1)
theorem Ov.setR1 {S : Nat} {w0 w : World} {nh nl ah al qh ql rh rl : Int} (h : Ov S w0 w nh nl ah al qh ql rh rl) (y : Int) :
    Ov S w0 (w.setCell ⟨S + 1 + 1 + 1, 1, none⟩ (.int .u64 y)) nh nl ah al qh ql rh y := by
  refine ⟨h.below.setCell (by simp; omega) _, by simpa using h.size, cell_other h.n0 (by omega), cell_other h.n1 (by omega),
    cell_other h.a0 (by omega), cell_other h.a1 (by omega), cell_other h.q0 (by omega), cell_other h.q1 (by omega), cell_other h.r0 (by omega), World.cell?_setCell_same _ _ _ h.r1, ?_, ?_, ?_, ?_, ?_, ?_⟩
  all_goals (rw [World.frozen?_setCell]; first | exact h.fa0 | exact h.fa1 | exact h.fq0 | exact h.fq1 | exact h.fr0 | exact h.fr1)
theorem Ov.setQ {S : Nat} {w0 w : World} {nh nl ah al qh ql rh rl : Int} (h : Ov S w0 w nh nl ah al qh ql rh rl) (x y : Int) :
    Ov S w0 ((w.setCell ⟨S + 1 + 1, 0, none⟩ (.int .u64 x)).setCell ⟨S + 1 + 1, 1, none⟩ (.int .u64 y)) nh nl ah al x y rh rl := by
  refine ⟨(h.below.setCell (by simp; omega) _).setCell (by simp; omega) _, by simpa using h.size, cell_other (cell_other h.n0 (by omega)) (by omega), cell_other (cell_other h.n1 (by omega)) (by omega),
    cell_other (cell_other h.a0 (by omega)) (by omega), cell_other (cell_other h.a1 (by omega)) (by omega), cell_other (World.cell?_setCell_same _ _ _ h.q0) (by omega), World.cell?_setCell_same _ _ _ (cell_other h.q1 (by omega)),
    cell_other (cell_other h.r0 (by omega)) (by omega), cell_other (cell_other h.r1 (by omega)) (by omega), ?_, ?_, ?_, ?_, ?_, ?_⟩
  all_goals (rw [World.frozen?_setCell, World.frozen?_setCell]; first | exact h.fa0 | exact h.fa1 | exact h.fq0 | exact h.fq1 | exact h.fr0 | exact h.fr1)
theorem Ov.setQ1 {S : Nat} {w0 w : World} {nh nl ah al qh ql rh rl : Int} (h : Ov S w0 w nh nl ah al qh ql rh rl) (y : Int) :
    Ov S w0 (w.setCell ⟨S + 1 + 1, 1, none⟩ (.int .u64 y)) nh nl ah al qh y rh rl := by
  refine ⟨h.below.setCell (by simp; omega) _, by simpa using h.size, cell_other h.n0 (by omega), cell_other h.n1 (by omega),
    cell_other h.a0 (by omega), cell_other h.a1 (by omega), cell_other h.q0 (by omega), World.cell?_setCell_same _ _ _ h.q1, cell_other h.r0 (by omega), cell_other h.r1 (by omega), ?_, ?_, ?_, ?_, ?_, ?_⟩
  all_goals (rw [World.frozen?_setCell]; first | exact h.fa0 | exact h.fa1 | exact h.fq0 | exact h.fq1 | exact h.fr0 | exact h.fr1)

/-! ### the bits of a number, from above -/
theorem two_pow_pos (n : Nat) : (0 : Int) < 2 ^ n := Int.pow_pos (by omega)
theorem bit_hi {nh nl : Int} (l0 : 0 ≤ nl) (l1 : nl < 18446744073709551616) {k : Int} (hk : 64 ≤ k) : (nh * 18446744073709551616 + nl) / 2 ^ k.toNat = nh / 2 ^ (k - 64).toNat := by
  have e : (2 : Int) ^ k.toNat = 18446744073709551616 * 2 ^ (k - 64).toNat := by rw [show k.toNat = 64 + (k - 64).toNat from by omega, Int.pow_add]; rfl
  rw [e, ← Int.ediv_ediv_of_nonneg (by omega)]
  congr 1
  omega
theorem bit_lo {nh nl : Int} {k : Int} (h0 : 0 ≤ k) (hk : k < 64) : (nh * 18446744073709551616 + nl) / 2 ^ k.toNat % 2 = nl / 2 ^ k.toNat % 2 := by
  have e : (18446744073709551616 : Int) = 2 * 2 ^ (63 - k).toNat * 2 ^ k.toNat := by rw [Int.mul_assoc, ← Int.pow_add, show (63 - k).toNat + k.toNat = 63 from by omega]; rfl
  have e2 : (nh * 18446744073709551616 + nl) = nl + nh * (2 * 2 ^ (63 - k).toNat) * 2 ^ k.toNat := by rw [Int.mul_assoc nh, ← e]; omega
  rw [e2, Int.add_mul_ediv_right _ _ (by have := two_pow_pos k.toNat; omega), ← Int.mul_assoc nh 2, Int.mul_comm nh 2, Int.mul_assoc 2 nh]
  omega
theorem half_step {N : Int} {k : Int} (h0 : 0 ≤ k) : N / 2 ^ k.toNat = 2 * (N / 2 ^ (k + 1).toNat) + N / 2 ^ k.toNat % 2 := by
  have e : N / 2 ^ (k + 1).toNat = N / 2 ^ k.toNat / 2 := by
    rw [show (k + 1).toNat = k.toNat + 1 from by omega, Int.pow_succ, Int.ediv_ediv_of_nonneg (by have := two_pow_pos k.toNat; omega)]
  rw [e]; omega
/-- One bit more: the quotient and the rest. -/
theorem bit_step {M M' c b : Int} (hc : 0 < c) (hM : M' = 2 * M + b) (_b0 : 0 ≤ b) (_b1 : b ≤ 1) :
    (2 * (M % c) + b < c → M' / c = 2 * (M / c) ∧ M' % c = 2 * (M % c) + b) ∧ (¬ 2 * (M % c) + b < c → M' / c = 2 * (M / c) + 1 ∧ M' % c = 2 * (M % c) + b - c) := by
  have r0 := Int.emod_nonneg M (show c ≠ 0 by omega)
  have r1 := Int.emod_lt_of_pos M hc
  have e := Int.mul_ediv_add_emod M c
  have e3 : c * (2 * (M / c)) = 2 * (c * (M / c)) := Int.mul_left_comm _ _ _
  have e4 : c * (2 * (M / c) + 1) = 2 * (c * (M / c)) + c := by rw [Int.mul_add, e3, Int.mul_one]
  refine ⟨fun h => ?_, fun h => ?_⟩
  · exact (Int.ediv_emod_unique hc).2 ⟨by rw [e3]; omega, by omega, h⟩
  · exact (Int.ediv_emod_unique hc).2 ⟨by rw [e4]; omega, by omega, by omega⟩
theorem word_small {x : Int} (h0 : 0 ≤ x) (h1 : x < 18446744073709551616) : hiW x = 0 ∧ loW x = x := ⟨hi_of (h := 0) (l := x) (by omega) h0 h1, lo_of (h := 0) (l := x) (by omega) h0 h1⟩
theorem word_even (q : Int) : loW (2 * q) + 1 < 18446744073709551616 ∧ hiW (2 * q + 1) = hiW (2 * q) ∧ loW (2 * q + 1) = loW (2 * q) + 1 := by unfold hiW loW; omega

set_option maxHeartbeats 2000000 in
theorem over_any (nh nl c N : Int) (w : World) (h0 : 0 ≤ nh) (h1 : nh < 18446744073709551616) (l0 : 0 ≤ nl) (l1 : nl < 18446744073709551616) (c0 : 0 < c) (c1 : c < 9223372036854775808) (hN : Hid (N = nh * 18446744073709551616 + nl)) :
    Calls Tryd.prog 59 #[.agg #[.int .u64 nh, .int .u64 nl], .int .u64 c] w fun e w' => e = .returned (.tuple #[.agg #[.int .u64 (hiW (N / c)), .int .u64 (loW (N / c))], .int .u64 (N % c)]) ∧ Below w.heap.size w w' := by
  have N0 : 0 ≤ N := by have := hN.out; omega
  have N1 : N < 340282366920938463463374607431768211456 := by have := hN.out; omega
  have O0 : Ov w.heap.size w ((((w.alloc (.cells #[.int .u64 nh, .int .u64 nl] 122)).alloc (.cells #[.int .u64 0, .int .u64 0] 122)).alloc (.cells #[.int .u64 0, .int .u64 0] 122)).alloc (.cells #[.int .u64 0, .int .u64 0] 122)) nh nl 0 0 0 0 0 0 := by
    refine ⟨((((Below.refl _ _).alloc (Nat.le_refl _) _).alloc (by simp) _).alloc (by simp; omega) _).alloc (by simp; omega) _, by simp, ?_, ?_, ?_, ?_, ?_, ?_, ?_, ?_, ?_, ?_, ?_, ?_, ?_, ?_⟩
    all_goals go_simp
  go_enter Tryd.func59, Tryd.ntmps59
  go_wp2
  go_loopw [8] (fun i wr => ∃ k M : Int, -1 ≤ k ∧ k ≤ 127 ∧ i = .int .i64 k ∧ Hid (M = N / 2 ^ (k + 1).toNat) ∧ Ov w.heap.size w wr nh nl 0 0 (hiW (M / c)) (loW (M / c)) 0 (M % c)) (fun i _ => (intOf i + 1).toNat)
  case atStart =>
    refine ⟨127, 0, by omega, by omega, rfl, ?_, ?_⟩
    · show (0 : Int) = N / 2 ^ 128
      exact (Int.ediv_eq_zero_of_lt N0 N1).symm
    · have e1 : hiW (0 / c) = 0 := by simp [hiW]
      have e2 : loW (0 / c) = 0 := by simp [loW]
      rw [e1, e2, Int.zero_emod]; exact O0
  case round =>
    clear O0
    obtain ⟨k, M, hk1, hk2, rfl, HM, O⟩ := hrel
    have M0 : 0 ≤ M := by rw [HM.out]; exact Int.ediv_nonneg N0 (by have := two_pow_pos (k + 1).toNat; omega)
    have r0 := Int.emod_nonneg M (show c ≠ 0 by omega)
    have r1 := Int.emod_lt_of_pos M c0
    have q0 : 0 ≤ M / c := Int.ediv_nonneg M0 (by omega)
    by_cases hk : 0 ≤ k
    · have HS := hide (half_step (N := N) (k := k) hk)
      have q1 : M / c < 170141183460469231731687303715884105728 := by
        have a1 := Int.ediv_le_self c M0
        have a2 : N / 2 ^ k.toNat ≤ N := Int.ediv_le_self _ N0
        have := HS.out; have := HM.out; omega
      obtain ⟨b, Hb⟩ : ∃ b, Hid (b = N / 2 ^ k.toNat % 2) := ⟨_, hide rfl⟩
      have b0 : 0 ≤ b := by have := Hb.out; omega
      have b1 : b ≤ 1 := by have := Hb.out; omega
      have ST := hide (bit_step (M := M) (M' := N / 2 ^ k.toNat) (c := c) (b := b) c0 (by have := HS.out; have := HM.out; have := Hb.out; omega) b0 b1)
      generalize M / c = Q at *
      generalize M % c = r at *
      have n0 := O.n0
      have n1 := O.n1
      have x0 := O.r0
      have x1 := O.r1
      by_cases h64 : 64 ≤ k
      · have eb : (nh / 2 ^ (k - 64).toNat).tmod 2 = b := by rw [Int.tmod_eq_emod_of_nonneg (Int.ediv_nonneg h0 (by have := two_pow_pos (k - 64).toNat; omega)), Hb.out, hN.out, bit_hi l0 l1 h64]
        go_wp2_with fail
        refine (plus_any 0 r 0 r (2 * r) _ (by omega) (by omega) r0 (by omega) r0 (by omega) (show _ = _ by omega) (show _ < _ by omega)).mono ?_
        rintro e w1 ⟨rfl, hb1⟩
        have O1 := O.later hb1
        have ws := word_small (x := 2 * r) (by omega) (by omega)
        rw [ws.1, ws.2]
        clear ws n0 n1 x0 x1
        have x0 := O1.r0
        have x1 := O1.r1
        have f0 := O1.fr0
        have f1 := O1.fr1
        have y0 := O1.q0
        have y1 := O1.q1
        go_wp2_with fail
        clear x0 x1 f0 f1 y0 y1
        have O2 := (O1.setR 0 (2 * r)).setR1 (2 * r + b)
        have hQ := hl Q
        have hQ0 := hi_nn q0
        refine (plus_any (hiW Q) (loW Q) (hiW Q) (loW Q) (2 * Q) _ hQ0 hQ0 hQ.2.1 hQ.2.2 hQ.2.1 hQ.2.2 (show _ = _ by omega) (show _ < _ by omega)).mono ?_
        rintro e w2 ⟨rfl, hb2⟩
        have O3 := O2.later hb2
        clear hQ hQ0 O1 O2 hb1
        have x0 := O3.r0
        have x1 := O3.r1
        have f0 := O3.fq0
        have f1 := O3.fq1
        have y0 := O3.q0
        have y1 := O3.q1
        go_wp2_with fail
        clear x0 x1 f0 f1 y0 y1
        have O4 := O3.setQ (hiW (2 * Q)) (loW (2 * Q))
        by_cases hlt : 2 * r + b < c
        · refine (less_any 0 (2 * r + b) 0 c true _ (by omega) (by omega) (by omega) (by omega) (show _ = _ by simp; omega)).mono ?_
          rintro e w3 ⟨rfl, hb3⟩
          have O5 := O4.later hb3
          have S1 := hide (ST.out.1 hlt)
          clear ST
          go_wp2
          go_roundw
          case rel => exact ⟨k - 1, N / 2 ^ k.toNat, by omega, by omega, rfl, (show _ = _ by rw [show k - 1 + 1 = k from by omega]), by rw [S1.out.1, S1.out.2]; exact O5⟩
          case measure => simp [intOf]; omega
        · refine (less_any 0 (2 * r + b) 0 c false _ (by omega) (by omega) (by omega) (by omega) (show _ = _ by simp; omega)).mono ?_
          rintro e w3 ⟨rfl, hb3⟩
          have O5 := O4.later hb3
          have S1 := hide (ST.out.2 (by omega))
          clear ST
          have x0 := O5.r0
          have x1 := O5.r1
          go_wp2_with fail
          refine (minus_any 0 (2 * r + b) 0 c (2 * r + b - c) _ (by omega) (by omega) (by omega) (by omega) (by omega) (by omega) (show _ = _ by omega) (show _ ≤ _ by omega)).mono ?_
          rintro e w4 ⟨rfl, hb4⟩
          have O6 := O5.later hb4
          have ws := word_small (x := 2 * r + b - c) (by omega) (by omega)
          rw [ws.1, ws.2]
          have we := word_even Q
          have wb := (hl (2 * Q)).2.1
          have we1 := we.1
          clear ws x0 x1
          have x0 := O6.r0
          have x1 := O6.r1
          have f0 := O6.fr0
          have f1 := O6.fr1
          have y0 := O6.q0
          have y1 := O6.q1
          have g0 := O6.fq0
          have g1 := O6.fq1
          have WE := hide we.2
          clear we
          go_wp2
          go_roundw
          case rel => exact ⟨k - 1, N / 2 ^ k.toNat, by omega, by omega, rfl, (show _ = _ by rw [show k - 1 + 1 = k from by omega]), by rw [S1.out.1, S1.out.2, WE.out.1, WE.out.2]; exact (O6.setR 0 (2 * r + b - c)).setQ1 (loW (2 * Q) + 1)⟩
          case measure => simp [intOf]; omega
      · have eb : (nl / 2 ^ k.toNat).tmod 2 = b := by rw [Int.tmod_eq_emod_of_nonneg (Int.ediv_nonneg l0 (by have := two_pow_pos k.toNat; omega)), Hb.out, hN.out, bit_lo hk (by omega)]
        go_wp2_with fail
        refine (plus_any 0 r 0 r (2 * r) _ (by omega) (by omega) r0 (by omega) r0 (by omega) (show _ = _ by omega) (show _ < _ by omega)).mono ?_
        rintro e w1 ⟨rfl, hb1⟩
        have O1 := O.later hb1
        have ws := word_small (x := 2 * r) (by omega) (by omega)
        rw [ws.1, ws.2]
        clear ws n0 n1 x0 x1
        have x0 := O1.r0
        have x1 := O1.r1
        have f0 := O1.fr0
        have f1 := O1.fr1
        have y0 := O1.q0
        have y1 := O1.q1
        go_wp2_with fail
        clear x0 x1 f0 f1 y0 y1
        have O2 := (O1.setR 0 (2 * r)).setR1 (2 * r + b)
        have hQ := hl Q
        have hQ0 := hi_nn q0
        refine (plus_any (hiW Q) (loW Q) (hiW Q) (loW Q) (2 * Q) _ hQ0 hQ0 hQ.2.1 hQ.2.2 hQ.2.1 hQ.2.2 (show _ = _ by omega) (show _ < _ by omega)).mono ?_
        rintro e w2 ⟨rfl, hb2⟩
        have O3 := O2.later hb2
        clear hQ hQ0 O1 O2 hb1
        have x0 := O3.r0
        have x1 := O3.r1
        have f0 := O3.fq0
        have f1 := O3.fq1
        have y0 := O3.q0
        have y1 := O3.q1
        go_wp2_with fail
        clear x0 x1 f0 f1 y0 y1
        have O4 := O3.setQ (hiW (2 * Q)) (loW (2 * Q))
        by_cases hlt : 2 * r + b < c
        · refine (less_any 0 (2 * r + b) 0 c true _ (by omega) (by omega) (by omega) (by omega) (show _ = _ by simp; omega)).mono ?_
          rintro e w3 ⟨rfl, hb3⟩
          have O5 := O4.later hb3
          have S1 := hide (ST.out.1 hlt)
          clear ST
          go_wp2
          go_roundw
          case rel => exact ⟨k - 1, N / 2 ^ k.toNat, by omega, by omega, rfl, (show _ = _ by rw [show k - 1 + 1 = k from by omega]), by rw [S1.out.1, S1.out.2]; exact O5⟩
          case measure => simp [intOf]; omega
        · refine (less_any 0 (2 * r + b) 0 c false _ (by omega) (by omega) (by omega) (by omega) (show _ = _ by simp; omega)).mono ?_
          rintro e w3 ⟨rfl, hb3⟩
          have O5 := O4.later hb3
          have S1 := hide (ST.out.2 (by omega))
          clear ST
          have x0 := O5.r0
          have x1 := O5.r1
          go_wp2_with fail
          refine (minus_any 0 (2 * r + b) 0 c (2 * r + b - c) _ (by omega) (by omega) (by omega) (by omega) (by omega) (by omega) (show _ = _ by omega) (show _ ≤ _ by omega)).mono ?_
          rintro e w4 ⟨rfl, hb4⟩
          have O6 := O5.later hb4
          have ws := word_small (x := 2 * r + b - c) (by omega) (by omega)
          rw [ws.1, ws.2]
          have we := word_even Q
          have wb := (hl (2 * Q)).2.1
          have we1 := we.1
          clear ws x0 x1
          have x0 := O6.r0
          have x1 := O6.r1
          have f0 := O6.fr0
          have f1 := O6.fr1
          have y0 := O6.q0
          have y1 := O6.q1
          have g0 := O6.fq0
          have g1 := O6.fq1
          have WE := hide we.2
          clear we
          go_wp2
          go_roundw
          case rel => exact ⟨k - 1, N / 2 ^ k.toNat, by omega, by omega, rfl, (show _ = _ by rw [show k - 1 + 1 = k from by omega]), by rw [S1.out.1, S1.out.2, WE.out.1, WE.out.2]; exact (O6.setR 0 (2 * r + b - c)).setQ1 (loW (2 * Q) + 1)⟩
          case measure => simp [intOf]; omega
    · have hM : M = N := by rw [HM.out, show k = -1 from by omega]; simp
      subst hM
      have x0 := O.r0
      have x1 := O.r1
      have y0 := O.q0
      have y1 := O.q1
      have z0 := O.a0
      have z1 := O.a1
      have f0 := O.fa0
      have f1 := O.fa1
      go_wp2
      go_region
      all_goals
        go_wp2
        refine bodyPost_ret (v := .tuple #[.agg #[.int .u64 (hiW (M / c)), .int .u64 (loW (M / c))], .int .u64 (M % c)]) (by simp [results, Tryd.results59, go_sem, z0, z1]) rfl ⟨rfl, ?_⟩
        exact ((O.below.setCell (p := ⟨w.heap.size + 1, 0, none⟩) (by simp) _).setCell (p := ⟨w.heap.size + 1, 1, none⟩) (by simp) _).drew
end Go.Proofs.YtmojckejjjlkjaaDoor
