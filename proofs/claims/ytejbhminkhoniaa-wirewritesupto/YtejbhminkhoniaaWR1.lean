/-
  My own text: the document's own answers: how many bytes a number needs, what bytes begin with.
-/
import Derived.Test.YtejbhminkhoniaaW10
namespace Go.Proofs.Ytejbhminkhoniaa
open Go.RowKit Go.Extern

def sz (x : Int) : Nat := if x < 248 then 1 else nb x
theorem sz_rng (x : Int) : 1 ≤ sz x ∧ sz x ≤ 8 := by
  unfold sz
  split
  · omega
  · exact ⟨nb_pos (by omega), nb_le x⟩
theorem sz_test {x : Int} (h0 : 0 ≤ x) (h1 : x < 18446744073709551616) {k : Nat} (k1 : 1 ≤ k) (k7 : k < 8) : (x / 2 ^ (8 * k) != 0) = decide (k < sz x) := by
  have : k = 1 ∨ k = 2 ∨ k = 3 ∨ k = 4 ∨ k = 5 ∨ k = 6 ∨ k = 7 := by omega
  rw [Bool.eq_iff_iff]
  unfold sz nb
  rcases this with rfl | rfl | rfl | rfl | rfl | rfl | rfl <;> simp only [Nat.reduceMul, Int.reducePow, bne_iff_ne, ne_eq, decide_eq_true_eq] <;> (repeat' split) <;> omega
theorem ret_int {a b : Int} (h : a = b) : Ending.returned (.int .i64 a) = .returned (.int .i64 b) := by rw [h]
set_option maxRecDepth 100000 in
set_option maxHeartbeats 1000000 in
theorem size_any (x : Int) (w : World) (h0 : 0 ≤ x) (h1 : x < 18446744073709551616) :
    Calls Try.prog 28 #[.int .u64 x] w fun e w' => e = .returned (.int .i64 (sz x : Int)) ∧ w' = w := by
  have HT : Hid (∀ k : Nat, 1 ≤ k → k < 8 → (x / 2 ^ (8 * k) != 0) = decide (k < sz x)) := hide fun k => sz_test h0 h1
  obtain ⟨s1, s8⟩ := sz_rng x
  obtain ⟨S, hS⟩ : ∃ S, Hid (sz x = S) := ⟨_, hide rfl⟩
  rw [hS.out] at HT s1 s8 ⊢
  go_enter Try.func28, Try.ntmps28
  go_wp2_with fail
  go_loop [3] (fun i => ∃ k : Nat, 1 ≤ k ∧ k ≤ S ∧ i = .int .i64 k) (fun i => S - (intOf i).toNat)
  case atStart => exact ⟨1, Nat.le_refl _, s1, rfl⟩
  case round =>
    obtain ⟨k, hk1, hk, rfl⟩ := hrel
    by_cases h8 : k < 8
    · have HK := HT.out k hk1 h8
      have d8 : decide ((k : Int) < 8) = true := by rw [decide_eq_true_eq]; omega
      obtain ⟨s, hs⟩ : ∃ s : Int, 8 * (k : Int) = s := ⟨_, rfl⟩
      have s0 : 0 ≤ s := by omega
      have s64 : s ≤ 64 := by omega
      have HS : Hid (s.toNat = 8 * k) := hide (by omega)
      rw [← HS.out] at HK
      obtain ⟨y, hy⟩ : ∃ y : Int, x / 2 ^ s.toNat = y := ⟨_, rfl⟩
      rw [hy] at HK
      clear HT
      by_cases hlt : k < S
      · rw [decide_eq_true hlt] at HK
        go_wp2_with fail
        go_round
        case rel => exact ⟨k + 1, by omega, by omega, by go_num⟩
        case measure => simp [intOf]; omega
      · rw [decide_eq_false hlt] at HK
        have hkS : k = S := by omega
        have HKS := hide hkS
        clear hkS hlt
        go_wp2_with fail
        go_ret
        exact ⟨ret_int (by have := HKS.out; omega), rfl⟩
    · have HKS : Hid (k = S) := hide (by omega)
      have d8 : decide ((k : Int) < 8) = false := by rw [decide_eq_false_iff_not]; omega
      go_wp2_with fail
      go_ret
      exact ⟨ret_int (by have := HKS.out; omega), rfl⟩
theorem ret_ub {a b c d e f : Int} (h : a = b) (h2 : c = d) (h3 : e = f) : Ending.returned (.tuple #[.int .u64 a, .int .i64 c, .int .i64 e]) = .returned (.tuple #[.int .u64 b, .int .i64 d, .int .i64 f]) := by rw [h, h2, h3]
end Go.Proofs.Ytejbhminkhoniaa
