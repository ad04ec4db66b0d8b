/-
  My own text: dealing out, where it can't be: both answers.
-/
import Derived.Test.YthmbfdjbjljaiaaGreatDoorRefSplit
namespace Go.Proofs.YthmbfdjbjljaiaaGreatDoor
open Go.RowKit

theorem ret_nil {v v' : Value} (h : v = v') : Ending.returned (.tuple #[.slice none 0 0, v]) = .returned (.tuple #[.slice none 0 0, v']) := by rw [h]
set_option maxHeartbeats 1000000 in
theorem split_bad (n : Int) (v : Value) (l : List Int) (w : World) (hv : RI w .i64 v l) (hl : l.length ≤ 17592186044416) (hb : ∀ x ∈ l, -9223372036854775808 ≤ x ∧ x ≤ 9223372036854775807) (hE : 1 ≤ wE n l) :
    Calls Tryz.prog 19 #[.int .i64 n, v] w fun e w' => e = .returned (.tuple #[.slice none 0 0, errV (wE n l)]) ∧ w' = w := by
  have HAW := hide (areWeights_any v l w hv hl)
  have HSU := hide (sum_int64 v l w hv hl hb)
  by_cases hn : n < 0
  · have H := hide (w_arg (n := n) (l := l) (Or.inl hn))
    clear hE hb
    go_enter Tryz.func19, Tryz.ntmps19
    go_wp2_with fail
    go_ret2
    exact ⟨ret_nil (by rw [H.out.2]; rfl), rfl⟩
  cases hw : areW l
  · have H := hide (w_arg (n := n) (l := l) (Or.inr hw))
    have HW := hide hw
    clear hE hb hw
    go_enter Tryz.func19, Tryz.ntmps19
    go_wp2_with fail
    refine HAW.out.mono ?_
    rw [HW.out]
    rintro e w1 ⟨rfl, rfl⟩
    go_wp2_with fail
    go_ret2
    exact ⟨ret_nil (by rw [H.out.2]; rfl), rfl⟩
  · have H := hide (w_fit (n := n) hn hw)
    have HW := hide hw
    rw [H.out.2] at hE
    have HE := hide (errV_pos hE)
    clear hb hw hE
    go_enter Tryz.func19, Tryz.ntmps19
    go_wp2_with fail
    refine HAW.out.mono ?_
    rw [HW.out]
    rintro e w1 ⟨rfl, rfl⟩
    go_wp2_with fail
    refine HSU.out.mono ?_
    rw [HE.out]
    rintro e w2 ⟨rfl, rfl⟩
    go_wp2_with fail
    go_ret2
    exact ⟨ret_nil (by rw [H.out.2, HE.out]; rfl), rfl⟩
set_option maxHeartbeats 1000000 in
theorem refSplit_bad (n : Int) (v : Value) (l : List Int) (w : World) (hv : RI w .i64 v l) (hl : l.length ≤ 17592186044416) (hb : ∀ x ∈ l, -9223372036854775808 ≤ x ∧ x ≤ 9223372036854775807) (hE : 1 ≤ wE n l) :
    Calls Tryz.prog 43 #[.int .i64 n, v] w fun e w' => e = .returned (.tuple #[.slice none 0 0, .int .i64 (wE n l)]) ∧ Below w.heap.size w w' := by
  have HRW := hide (refWeights_any n v l w hv hl hb)
  obtain ⟨k, Hk⟩ : ∃ k, Hid (wE n l = k) := ⟨_, hide rfl⟩
  rw [Hk.out] at hE HRW ⊢
  have hk : (k != 0) = true := by simp; omega
  clear hb
  go_enter Tryz.func43, Tryz.ntmps43
  go_wp2_with fail
  refine HRW.out.mono ?_
  rintro e w1 ⟨rfl, hb1⟩
  go_wp2_with fail
  go_ret2
  exact ⟨rfl, hb1⟩
end Go.Proofs.YthmbfdjbjljaiaaGreatDoor
