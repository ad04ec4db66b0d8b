/-
  My own text: the law on the days of a week, and the next one.
-/
import Derived.Test.YtdfeehimnfogmaaGreatDoorE10
namespace Go.Proofs.YtdfeehimnfogmaaGreatDoor
open Go.RowKit

theorem Tryz.nilEqlG (i : Nat) (w : World) : (eqGuard .eql 27 (.tmp i) (.const .nilIface) .nilIface .nilIface).run Tryz.prog w = .ok () w := by kernel_rfl
theorem Tryz.nilEql (w : World) : (binOp .eql 27 .nilIface .nilIface).run Tryz.prog w = .ok (.bool true) w := by kernel_rfl
theorem wk_of {n : Int} (h1 : 1 ≤ n) (h2 : n ≤ 3652059) : wyV n = yearI (midI n) ∧ wkV n = (midI n - aheadY (yearI (midI n)) - 1) / 7 + 1 ∧ ofE n = 0 := by
  have hd := dayB_yes h1 h2
  exact ⟨(wk_ok hd).1, (wk_ok hd).2, (of_ok hd).2⟩
theorem mid_same {n i : Int} (h1 : n - (n - 1) % 7 ≤ i) (h2 : i < n - (n - 1) % 7 + 7) : midI i = midI n := by unfold midI; omega
theorem wk_same {n i : Int} (n1 : 1 ≤ n) (n2 : n ≤ 3652052) (h1 : n - (n - 1) % 7 ≤ i) (h2 : i < n - (n - 1) % 7 + 7) : wyV i = wyV n ∧ wkV i = wkV n ∧ ofE i = 0 := by
  obtain ⟨a1, a2, a3⟩ := wk_of (n := i) (by omega) (by omega)
  obtain ⟨b1, b2, b3⟩ := wk_of (n := n) (by omega) (by omega)
  rw [a1, a2, a3, b1, b2, mid_same h1 h2]
  exact ⟨rfl, rfl, rfl⟩
theorem wk_range {n : Int} (n1 : 1 ≤ n) (n2 : n ≤ 3652059) : 1 ≤ wkV n ∧ wkV n ≤ 53 := by
  obtain ⟨_, b2, _⟩ := wk_of n1 n2
  have hm := mid_b n1 n2
  obtain ⟨c1, c2, c3⟩ := yearI_spec (n := midI n) (by omega)
  have c4 := aheadY_succ (yearI (midI n))
  have c5 := ydays_b (yearI (midI n))
  rw [b2]; omega
theorem wk_next {n : Int} (n1 : 1 ≤ n) (n2 : n ≤ 3652052) : (wyV (n + 7) = wyV n ∧ wkV (n + 7) = wkV n + 1) ∨ (wyV (n + 7) = wyV n + 1 ∧ wkV (n + 7) = 1 ∧ 52 ≤ wkV n) := by
  obtain ⟨a1, a2, _⟩ := wk_of (n := n + 7) (by omega) (by omega)
  obtain ⟨b1, b2, _⟩ := wk_of (n := n) (by omega) (by omega)
  have hm := mid_b (n := n) (by omega) (by omega)
  have hm7 : midI (n + 7) = midI n + 7 := by unfold midI; omega
  rw [hm7] at a1 a2
  obtain ⟨c1, c2, c3⟩ := yearI_spec (n := midI n) (by omega)
  have c4 := aheadY_succ (yearI (midI n))
  have c5 := ydays_b (yearI (midI n))
  have c6 := aheadY_succ (yearI (midI n) + 1)
  have c7 := ydays_b (yearI (midI n) + 1)
  by_cases h : midI n + 7 ≤ aheadY (yearI (midI n) + 1)
  · have e := yearI_of (n := midI n + 7) (y := yearI (midI n)) (by omega) (by omega) h
    rw [e] at a1 a2
    exact .inl ⟨by rw [a1, b1], by rw [a2, b2]; omega⟩
  · have e := yearI_of (n := midI n + 7) (y := yearI (midI n) + 1) (by omega) (by omega) (by omega)
    rw [e] at a1 a2
    exact .inr ⟨by rw [a1, b1], by rw [a2]; omega, by rw [b2]; omega⟩
end Go.Proofs.YtdfeehimnfogmaaGreatDoor
