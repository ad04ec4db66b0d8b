/-
  My own text: layer 19: Pick (out of WPick).
-/
import Derived.Test.YtmojckejjjlkjabG0
namespace Go.Proofs.Ytmojckejjjlkjab
open Go.RowKit

theorem pick_eq (k : Int) {n : Int} (h : 0 < n) : -n < k.tmod n ∧ k.tmod n < n ∧ k % n = if k.tmod n < 0 then k.tmod n + n else k.tmod n := by
  have h1 := Int.lt_tmod_of_pos k h
  have h2 := Int.tmod_lt_of_pos k h
  refine ⟨h1, h2, ?_⟩
  have e : (k.tmod n) % n = k % n := by rw [Int.tmod_def, Int.sub_mul_emod_self_left]
  rw [← e]
  split
  · rw [← Int.add_emod_right, Int.emod_eq_of_lt (by omega) (by omega)]
  · rw [Int.emod_eq_of_lt (by omega) (by omega)]
theorem pick_any (k n : Int) (w : World) (h1 : 0 < n) (h2 : n ≤ 4000000) :
    Calls Try.prog 14 #[.int .i64 k, .int .i64 n] w fun e w' => e = .returned (.int .i64 (k % n)) ∧ w' = w := by
  obtain ⟨t0, t1, t2⟩ := pick_eq k h1
  have H := hide t2
  clear t2
  have hn : ¬ n < 1 := by omega
  have hz : (n == 0) = false := by simp; omega
  have hz2 : ¬ n = 0 := by omega
  by_cases hneg : k.tmod n < 0
  · rw [if_pos hneg] at H
    go_enter Try.func14, Try.ntmps14
    go_wp2
    go_ret
    exact ⟨ret_i H.out.symm, rfl⟩
  · rw [if_neg hneg] at H
    go_enter Try.func14, Try.ntmps14
    go_wp2
    go_ret
    exact ⟨ret_i H.out.symm, rfl⟩
end Go.Proofs.Ytmojckejjjlkjab
