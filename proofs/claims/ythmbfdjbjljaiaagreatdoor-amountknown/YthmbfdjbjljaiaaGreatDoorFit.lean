/-
  My own text: may a number be dealt out by weights: the law's own walk.
-/
import Derived.Test.YthmbfdjbjljaiaaGreatDoorShareMath
import Derived.Test.YthmbfdjbjljaiaaGreatDoorSame
namespace Go.Proofs.YthmbfdjbjljaiaaGreatDoor
open Go.RowKit

theorem fit_neg {n : Int} {l : List Int} {k : Nat} {x : Int} (h : l[k]? = some x) (hx : x < 0) : decide (wE n l = 0) = false := by
  rw [(w_arg (n := n) (Or.inr (areW_bad (noNeg_bad h hx)))).2]; rfl
theorem take_le {l : List Int} (hn : ∀ x ∈ l, 0 ≤ x) (k : Nat) : (l.take k).sum ≤ l.sum := by
  have h : l.sum = (l.take k).sum + (l.drop k).sum := by rw [← List.sum_append, List.take_append_drop]
  have h2 : ∀ t : List Int, (∀ x ∈ t, 0 ≤ x) → 0 ≤ t.sum := by
    intro t
    induction t with
    | nil => intro _; simp
    | cons a t ih => intro ht; rw [List.sum_cons]; have := ih fun x hx => ht x (List.mem_cons_of_mem _ hx); have := ht a (List.mem_cons_self ..); omega
  have := h2 (l.drop k) fun x hx => hn x (List.mem_of_mem_drop hx)
  omega
theorem fit_over {n : Int} {l : List Int} {k : Nat} (h : 9223372036854775807 < (l.take k).sum) : decide (wE n l = 0) = false := by
  rw [decide_eq_false_iff_not]
  intro hz
  obtain ⟨_, hW, hS, _⟩ := wE_fit (n := n) (l := l) (by omega)
  have := take_le (areW_pos hW).1 k
  omega
theorem fit_end {n : Int} {l : List Int} {k : Nat} (hk : l.length ≤ k) (h0 : noNeg (l.take k) = true) (hs : (l.take k).sum ≤ 9223372036854775807) : decide (wE n l = 0) = (decide (0 ≤ n) && somePos (l.take k)) := by
  have hA := areW_end hk h0
  rw [List.take_of_length_le hk] at *
  by_cases hn : n < 0
  · rw [(w_arg (n := n) (l := l) (Or.inl hn)).2, decide_eq_false (show ¬ 0 ≤ n by omega)]; rfl
  rw [decide_eq_true (show 0 ≤ n by omega), Bool.true_and, ← hA]
  cases hw : areW l
  · rw [(w_arg (n := n) (l := l) (Or.inr hw)).2]; rfl
  · have hp := (areW_pos hw).2
    rw [(w_fit (n := n) hn hw).2, (sum_ok (s := l.sum) (by omega)).2]; rfl
theorem ret_fit {a b : Bool} (h : b = a) : Ending.returned (.bool a) = .returned (.bool b) := by rw [h]
set_option maxRecDepth 100000 in
set_option maxHeartbeats 1000000 in
theorem fit_any (n : Int) (v : Value) (l : List Int) (w : World) (hv : RI w .i64 v l) (hl : l.length ≤ 17592186044416) :
    Calls Tryz.prog 45 #[.int .i64 n, v] w fun e w' => e = .returned (.bool (decide (wE n l = 0))) ∧ w' = w := by
  obtain ⟨a, cap, rfl, hr⟩ := hv
  go_enter Tryz.func45, Tryz.ntmps45
  go_wp2
  go_loop [5, 6, 7] (fun f s i => ∃ (k : Nat) (B : Bool) (t : Int), k ≤ l.length ∧ i = .int .i64 k ∧ s = .bool B ∧ f = .int .i64 t ∧ Hid (t = 9223372036854775807 - (l.take k).sum) ∧ 0 ≤ t ∧ t ≤ 9223372036854775807 ∧ Hid (B = somePos (l.take k)) ∧ Hid (noNeg (l.take k) = true)) (fun _ _ i => l.length - (intOf i).toNat)
  case atStart => exact ⟨0, false, 9223372036854775807, Nat.zero_le _, rfl, rfl, rfl, hide (by simp), by omega, by omega, hide rfl, hide rfl⟩
  case round =>
    obtain ⟨k, B, t, hk, rfl, rfl, rfl, HT, t0, t1, HB, HN⟩ := hrel
    by_cases hlt : k < l.length
    · obtain ⟨x, hx⟩ := some_at hlt
      rcases hr with h0 | ⟨b, off, rfl, hbl, hc⟩
      · rw [h0] at hlt; simp at hlt
      have hcell := hc k x hx
      have HX := hide hx
      clear hc hx
      by_cases hneg : x < 0
      · have H := hide (fit_neg (n := n) HX.out hneg)
        go_wp2
        go_ret
        exact ⟨ret_fit H.out, rfl⟩
      by_cases hov : t < x
      · have H := hide (fit_over (n := n) (l := l) (k := k + 1) (by rw [sum_take_succ HX.out]; have := HT.out; omega))
        go_wp2
        go_ret
        exact ⟨ret_fit H.out, rfl⟩
      · have H1 := hide (noNeg_step HX.out hneg HN.out)
        have H2 := hide (somePos_step HX.out)
        have H3 := hide (sum_take_succ HX.out)
        have x0 : 0 ≤ x := by omega
        have x1 : x ≤ t := by omega
        cases B
        · go_wp2
          go_round
          case rel => exact ⟨k + 1, decide (0 < x), t - x, by omega, by go_num, rfl, by go_num, hide (by rw [H3.out, HT.out]; omega), by omega, by omega, hide (by rw [H2.out, ← HB.out]; rfl), H1⟩
          case measure => simp [intOf]; omega
        · go_wp2
          go_round
          case rel => exact ⟨k + 1, true, t - x, by omega, by go_num, rfl, by go_num, hide (by rw [H3.out, HT.out]; omega), by omega, by omega, hide (by rw [H2.out, ← HB.out]; rfl), H1⟩
          case measure => simp [intOf]; omega
    · have H := hide (fit_end (n := n) (l := l) (k := k) (by omega) HN.out (by have := HT.out; omega))
      by_cases hn : 0 ≤ n
      · cases B
        · go_wp2
          go_ret
          exact ⟨ret_fit (by rw [H.out, ← HB.out]; simp), rfl⟩
        · go_wp2
          go_ret
          exact ⟨ret_fit (by rw [H.out, ← HB.out]; simp [hn]), rfl⟩
      · go_wp2
        go_ret
        exact ⟨ret_fit (by rw [H.out, decide_eq_false (show ¬ 0 ≤ n by omega)]; rfl), rfl⟩
end Go.Proofs.YthmbfdjbjljaiaaGreatDoor
