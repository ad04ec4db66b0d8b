/-
  My own text: the document's answer's quotient, bit by bit.
-/
import Derived.Test.YtmojckejjjlkjabWide
import Derived.RegionTactic
import Derived.WalkSmall
namespace Go.Proofs.Ytmojckejjjlkjab
open Go.RowKit

/-- The four variables of the call, in whatever later world. -/
structure Ov (S : Nat) (w0 w : World) (nh nl ah al qh ql rh rl : Int) : Prop where
  below : Below S w0 w
  size : S + 1 + 1 + 1 < w.heap.size
  n0 : w.cell? ⟨S, 0, none⟩ = some (.int .u64 nh)
  n1 : w.cell? ⟨S, 1, none⟩ = some (.int .u64 nl)
  a0 : w.cell? ⟨S + 1, 0, none⟩ = some (.int .u64 ah)
  a1 : w.cell? ⟨S + 1, 1, none⟩ = some (.int .u64 al)
  q0 : w.cell? ⟨S + 1 + 1, 0, none⟩ = some (.int .u64 qh)
  q1 : w.cell? ⟨S + 1 + 1, 1, none⟩ = some (.int .u64 ql)
  r0 : w.cell? ⟨S + 1 + 1 + 1, 0, none⟩ = some (.int .u64 rh)
  r1 : w.cell? ⟨S + 1 + 1 + 1, 1, none⟩ = some (.int .u64 rl)
  fa0 : w.frozen? ⟨S + 1, 0, none⟩ = false
  fa1 : w.frozen? ⟨S + 1, 1, none⟩ = false
  fq0 : w.frozen? ⟨S + 1 + 1, 0, none⟩ = false
  fq1 : w.frozen? ⟨S + 1 + 1, 1, none⟩ = false
  fr0 : w.frozen? ⟨S + 1 + 1 + 1, 0, none⟩ = false
  fr1 : w.frozen? ⟨S + 1 + 1 + 1, 1, none⟩ = false
theorem Ov.later {S : Nat} {w0 w w1 : World} {nh nl ah al qh ql rh rl : Int} (h : Ov S w0 w nh nl ah al qh ql rh rl) (hb : Below w.heap.size w w1) : Ov S w0 w1 nh nl ah al qh ql rh rl := by
  have hs := h.size
  have hz := hb.size
  obtain ⟨hc, hf⟩ := bcell hb
  exact ⟨h.below.trans (hb.mono (by omega)), by omega, (hc _ _ (by omega)).trans h.n0, (hc _ _ (by omega)).trans h.n1, (hc _ _ (by omega)).trans h.a0, (hc _ _ (by omega)).trans h.a1,
    (hc _ _ (by omega)).trans h.q0, (hc _ _ (by omega)).trans h.q1, (hc _ _ (by omega)).trans h.r0, (hc _ _ (by omega)).trans h.r1,
    (hf _ _ (by omega)).trans h.fa0, (hf _ _ (by omega)).trans h.fa1, (hf _ _ (by omega)).trans h.fq0, (hf _ _ (by omega)).trans h.fq1, (hf _ _ (by omega)).trans h.fr0, (hf _ _ (by omega)).trans h.fr1⟩
theorem cell_other {w : World} {b o b' o' : Nat} {v x : Value} (h : w.cell? ⟨b', o', none⟩ = some x) (hne : b ≠ b' ∨ o ≠ o') : (w.setCell ⟨b, o, none⟩ v).cell? ⟨b', o', none⟩ = some x := by
  rw [World.cell?_setCell_other _ _ _ _ (by intro e; simp at e; omega)]; exact h
theorem Ov.setR {S : Nat} {w0 w : World} {nh nl ah al qh ql rh rl : Int} (h : Ov S w0 w nh nl ah al qh ql rh rl) (x y : Int) :
    Ov S w0 ((w.setCell ⟨S + 1 + 1 + 1, 0, none⟩ (.int .u64 x)).setCell ⟨S + 1 + 1 + 1, 1, none⟩ (.int .u64 y)) nh nl ah al qh ql x y := by
  refine ⟨(h.below.setCell (by simp; omega) _).setCell (by simp; omega) _, by simpa using h.size, cell_other (cell_other h.n0 (by omega)) (by omega), cell_other (cell_other h.n1 (by omega)) (by omega),
    cell_other (cell_other h.a0 (by omega)) (by omega), cell_other (cell_other h.a1 (by omega)) (by omega), cell_other (cell_other h.q0 (by omega)) (by omega), cell_other (cell_other h.q1 (by omega)) (by omega),
    cell_other (World.cell?_setCell_same _ _ _ h.r0) (by omega), World.cell?_setCell_same _ _ _ (cell_other h.r1 (by omega)), ?_, ?_, ?_, ?_, ?_, ?_⟩
  all_goals (rw [World.frozen?_setCell, World.frozen?_setCell]; first | exact h.fa0 | exact h.fa1 | exact h.fq0 | exact h.fq1 | exact h.fr0 | exact h.fr1)
theorem Ov.setR1 {S : Nat} {w0 w : World} {nh nl ah al qh ql rh rl : Int} (h : Ov S w0 w nh nl ah al qh ql rh rl) (y : Int) :
    Ov S w0 (w.setCell ⟨S + 1 + 1 + 1, 1, none⟩ (.int .u64 y)) nh nl ah al qh ql rh y := by
  refine ⟨h.below.setCell (by simp; omega) _, by simpa using h.size, cell_other h.n0 (by omega), cell_other h.n1 (by omega),
    cell_other h.a0 (by omega), cell_other h.a1 (by omega), cell_other h.q0 (by omega), cell_other h.q1 (by omega), cell_other h.r0 (by omega), World.cell?_setCell_same _ _ _ h.r1, ?_, ?_, ?_, ?_, ?_, ?_⟩
  all_goals (rw [World.frozen?_setCell]; first | exact h.fa0 | exact h.fa1 | exact h.fq0 | exact h.fq1 | exact h.fr0 | exact h.fr1)
theorem Ov.setQ {S : Nat} {w0 w : World} {nh nl ah al qh ql rh rl : Int} (h : Ov S w0 w nh nl ah al qh ql rh rl) (x y : Int) :
    Ov S w0 ((w.setCell ⟨S + 1 + 1, 0, none⟩ (.int .u64 x)).setCell ⟨S + 1 + 1, 1, none⟩ (.int .u64 y)) nh nl ah al x y rh rl := by
  refine ⟨(h.below.setCell (by simp; omega) _).setCell (by simp; omega) _, by simpa using h.size, cell_other (cell_other h.n0 (by omega)) (by omega), cell_other (cell_other h.n1 (by omega)) (by omega),
    cell_other (cell_other h.a0 (by omega)) (by omega), cell_other (cell_other h.a1 (by omega)) (by omega), cell_other (World.cell?_setCell_same _ _ _ h.q0) (by omega), World.cell?_setCell_same _ _ _ (cell_other h.q1 (by omega)),
    cell_other (cell_other h.r0 (by omega)) (by omega), cell_other (cell_other h.r1 (by omega)) (by omega), ?_, ?_, ?_, ?_, ?_, ?_⟩
  all_goals (rw [World.frozen?_setCell, World.frozen?_setCell]; first | exact h.fa0 | exact h.fa1 | exact h.fq0 | exact h.fq1 | exact h.fr0 | exact h.fr1)
theorem Ov.setQ1 {S : Nat} {w0 w : World} {nh nl ah al qh ql rh rl : Int} (h : Ov S w0 w nh nl ah al qh ql rh rl) (y : Int) :
    Ov S w0 (w.setCell ⟨S + 1 + 1, 1, none⟩ (.int .u64 y)) nh nl ah al qh y rh rl := by
  refine ⟨h.below.setCell (by simp; omega) _, by simpa using h.size, cell_other h.n0 (by omega), cell_other h.n1 (by omega),
    cell_other h.a0 (by omega), cell_other h.a1 (by omega), cell_other h.q0 (by omega), World.cell?_setCell_same _ _ _ h.q1, cell_other h.r0 (by omega), cell_other h.r1 (by omega), ?_, ?_, ?_, ?_, ?_, ?_⟩
  all_goals (rw [World.frozen?_setCell]; first | exact h.fa0 | exact h.fa1 | exact h.fq0 | exact h.fq1 | exact h.fr0 | exact h.fr1)

/-! ### the bits of a number, from above -/
theorem two_pow_pos (n : Nat) : (0 : Int) < 2 ^ n := Int.pow_pos (by omega)
theorem bit_hi {nh nl : Int} (l0 : 0 ≤ nl) (l1 : nl < 18446744073709551616) {k : Int} (hk : 64 ≤ k) : (nh * 18446744073709551616 + nl) / 2 ^ k.toNat = nh / 2 ^ (k - 64).toNat := by
  have e : (2 : Int) ^ k.toNat = 18446744073709551616 * 2 ^ (k - 64).toNat := by rw [show k.toNat = 64 + (k - 64).toNat from by omega, Int.pow_add]; rfl
  rw [e, ← Int.ediv_ediv_of_nonneg (by omega)]
  congr 1
  omega
theorem bit_lo {nh nl : Int} {k : Int} (h0 : 0 ≤ k) (hk : k < 64) : (nh * 18446744073709551616 + nl) / 2 ^ k.toNat % 2 = nl / 2 ^ k.toNat % 2 := by
  have e : (18446744073709551616 : Int) = 2 * 2 ^ (63 - k).toNat * 2 ^ k.toNat := by rw [Int.mul_assoc, ← Int.pow_add, show (63 - k).toNat + k.toNat = 63 from by omega]; rfl
  have e2 : (nh * 18446744073709551616 + nl) = nl + nh * (2 * 2 ^ (63 - k).toNat) * 2 ^ k.toNat := by rw [Int.mul_assoc nh, ← e]; omega
  rw [e2, Int.add_mul_ediv_right _ _ (by have := two_pow_pos k.toNat; omega), ← Int.mul_assoc nh 2, Int.mul_comm nh 2, Int.mul_assoc 2 nh]
  omega
theorem half_step {N : Int} {k : Int} (h0 : 0 ≤ k) : N / 2 ^ k.toNat = 2 * (N / 2 ^ (k + 1).toNat) + N / 2 ^ k.toNat % 2 := by
  have e : N / 2 ^ (k + 1).toNat = N / 2 ^ k.toNat / 2 := by
    rw [show (k + 1).toNat = k.toNat + 1 from by omega, Int.pow_succ, Int.ediv_ediv_of_nonneg (by have := two_pow_pos k.toNat; omega)]
  rw [e]; omega
/-- One bit more: the quotient and the rest. -/
theorem bit_step {M M' c b : Int} (hc : 0 < c) (hM : M' = 2 * M + b) (_b0 : 0 ≤ b) (_b1 : b ≤ 1) :
    (2 * (M % c) + b < c → M' / c = 2 * (M / c) ∧ M' % c = 2 * (M % c) + b) ∧ (¬ 2 * (M % c) + b < c → M' / c = 2 * (M / c) + 1 ∧ M' % c = 2 * (M % c) + b - c) := by
  have r0 := Int.emod_nonneg M (show c ≠ 0 by omega)
  have r1 := Int.emod_lt_of_pos M hc
  have e := Int.mul_ediv_add_emod M c
  have e3 : c * (2 * (M / c)) = 2 * (c * (M / c)) := Int.mul_left_comm _ _ _
  have e4 : c * (2 * (M / c) + 1) = 2 * (c * (M / c)) + c := by rw [Int.mul_add, e3, Int.mul_one]
  refine ⟨fun h => ?_, fun h => ?_⟩
  · exact (Int.ediv_emod_unique hc).2 ⟨by rw [e3]; omega, by omega, h⟩
  · exact (Int.ediv_emod_unique hc).2 ⟨by rw [e4]; omega, by omega, by omega⟩
theorem word_small {x : Int} (h0 : 0 ≤ x) (h1 : x < 18446744073709551616) : hiW x = 0 ∧ loW x = x := ⟨hi_of (h := 0) (l := x) (by omega) h0 h1, lo_of (h := 0) (l := x) (by omega) h0 h1⟩
theorem word_even (q : Int) : loW (2 * q) + 1 < 18446744073709551616 ∧ hiW (2 * q + 1) = hiW (2 * q) ∧ loW (2 * q + 1) = loW (2 * q) + 1 := by unfold hiW loW; omega

end Go.Proofs.Ytmojckejjjlkjab
