/-
  My own text: the sums and differences of the program and of the document's answer, and the law over them.
-/
import Derived.Test.YtdjhbecbbmdimaaGreatDoorRow
namespace Go.Proofs.YtdjhbecbbmdimaaGreatDoor
open Go.ChangeShapes Go.WideShapes Go.RowKit

/-- a + b: the value, the error's number. -/
def addV (a b : Int) : Int := if a < 0 ∨ b < 0 then 0 else if 9223372036854775807 < a + b then 0 else a + b
def addE (a b : Int) : Int := if a < 0 ∨ b < 0 then 1 else if 9223372036854775807 < a + b then 9 else 0
def subV (a b : Int) : Int := if a < 0 ∨ b < 0 then 0 else if a < b then 0 else a - b
def subE (a b : Int) : Int := if a < 0 ∨ b < 0 then 1 else if a < b then 2 else 0
theorem addE_lo (a b : Int) : 0 ≤ addE a b ∧ addE a b ≤ 24 := by unfold addE; split; omega; split <;> omega
theorem subE_lo (a b : Int) : 0 ≤ subE a b ∧ subE a b ≤ 24 := by unfold subE; split; omega; split <;> omega
theorem add_arg {a b : Int} (h : a < 0 ∨ b < 0) : addV a b = 0 ∧ addE a b = 1 := by unfold addV addE; rw [if_pos h, if_pos h]; exact ⟨rfl, rfl⟩
theorem add_over {a b : Int} (h : ¬ (a < 0 ∨ b < 0)) (h2 : 9223372036854775807 < a + b) : addV a b = 0 ∧ addE a b = 9 := by unfold addV addE; rw [if_neg h, if_neg h, if_pos h2, if_pos h2]; exact ⟨rfl, rfl⟩
theorem add_ok {a b : Int} (h : ¬ (a < 0 ∨ b < 0)) (h2 : ¬ 9223372036854775807 < a + b) : addV a b = a + b ∧ addE a b = 0 := by unfold addV addE; rw [if_neg h, if_neg h, if_neg h2, if_neg h2]; exact ⟨rfl, rfl⟩
theorem sub_arg {a b : Int} (h : a < 0 ∨ b < 0) : subV a b = 0 ∧ subE a b = 1 := by unfold subV subE; rw [if_pos h, if_pos h]; exact ⟨rfl, rfl⟩
theorem sub_short {a b : Int} (h : ¬ (a < 0 ∨ b < 0)) (h2 : a < b) : subV a b = 0 ∧ subE a b = 2 := by unfold subV subE; rw [if_neg h, if_neg h, if_pos h2, if_pos h2]; exact ⟨rfl, rfl⟩
theorem sub_ok {a b : Int} (h : ¬ (a < 0 ∨ b < 0)) (h2 : ¬ a < b) : subV a b = a - b ∧ subE a b = 0 := by unfold subV subE; rw [if_neg h, if_neg h, if_neg h2, if_neg h2]; exact ⟨rfl, rfl⟩
theorem ret_ii {a b c d : Int} (h : a = c) (h' : b = d) : Ending.returned (.tuple #[.int .i64 a, .int .i64 b]) = .returned (.tuple #[.int .i64 c, .int .i64 d]) := by rw [h, h']
theorem ret_ie {a c : Int} {v v' : Value} (h : a = c) (h' : v = v') : Ending.returned (.tuple #[.int .i64 a, v]) = .returned (.tuple #[.int .i64 c, v']) := by rw [h, h']

theorem errV_of {k m : Int} (h : k = m) : errV m = errV k := by rw [h]

set_option maxHeartbeats 400000 in
theorem add_any (a b : Int) (w : World) (a1 : a ≤ 9223372036854775807) (b1 : b ≤ 9223372036854775807) :
    Calls Tryz.prog 115 #[.int .i64 a, .int .i64 b] w fun e w' => e = .returned (.tuple #[.int .i64 (addV a b), errV (addE a b)]) ∧ w' = w := by
  by_cases ha : a < 0
  · have H := hide (add_arg (a := a) (b := b) (Or.inl ha))
    go_enter Tryz.func115, Tryz.ntmps115
    go_wp2
    go_ret2
    exact ⟨ret_ie (unhide H).1.symm (errV_of (k := addE a b) (m := 1) (unhide H).2), rfl⟩
  by_cases hb : b < 0
  · have H := hide (add_arg (a := a) (b := b) (Or.inr hb))
    go_enter Tryz.func115, Tryz.ntmps115
    go_wp2
    go_ret2
    exact ⟨ret_ie (unhide H).1.symm (errV_of (k := addE a b) (m := 1) (unhide H).2), rfl⟩
  have hn : ¬ (a < 0 ∨ b < 0) := by omega
  by_cases hs : 9223372036854775807 < a + b
  · have H := hide (add_over hn hs)
    have h2 : 9223372036854775807 - b < a := by omega
    clear hn hs
    go_enter Tryz.func115, Tryz.ntmps115
    go_wp2
    go_ret2
    exact ⟨ret_ie (unhide H).1.symm (errV_of (k := addE a b) (m := 9) (unhide H).2), rfl⟩
  · have H := hide (add_ok hn hs)
    have h2 : ¬ 9223372036854775807 - b < a := by omega
    clear hn
    go_enter Tryz.func115, Tryz.ntmps115
    go_wp2
    go_ret2
    exact ⟨ret_ie (unhide H).1.symm (errV_of (k := addE a b) (m := 0) (unhide H).2), rfl⟩

set_option maxHeartbeats 400000 in
theorem sub_any (a b : Int) (w : World) (a1 : a ≤ 9223372036854775807) (b1 : b ≤ 9223372036854775807) :
    Calls Tryz.prog 119 #[.int .i64 a, .int .i64 b] w fun e w' => e = .returned (.tuple #[.int .i64 (subV a b), errV (subE a b)]) ∧ w' = w := by
  by_cases ha : a < 0
  · have H := hide (sub_arg (a := a) (b := b) (Or.inl ha))
    go_enter Tryz.func119, Tryz.ntmps119
    go_wp2
    go_ret2
    exact ⟨ret_ie (unhide H).1.symm (errV_of (k := subE a b) (m := 1) (unhide H).2), rfl⟩
  by_cases hb : b < 0
  · have H := hide (sub_arg (a := a) (b := b) (Or.inr hb))
    go_enter Tryz.func119, Tryz.ntmps119
    go_wp2
    go_ret2
    exact ⟨ret_ie (unhide H).1.symm (errV_of (k := subE a b) (m := 1) (unhide H).2), rfl⟩
  have hn : ¬ (a < 0 ∨ b < 0) := by omega
  by_cases hs : a < b
  · have H := hide (sub_short hn hs)
    clear hn
    go_enter Tryz.func119, Tryz.ntmps119
    go_wp2
    go_ret2
    exact ⟨ret_ie (unhide H).1.symm (errV_of (k := subE a b) (m := 2) (unhide H).2), rfl⟩
  · have H := hide (sub_ok hn hs)
    clear hn
    go_enter Tryz.func119, Tryz.ntmps119
    go_wp2
    go_ret2
    exact ⟨ret_ie (unhide H).1.symm (errV_of (k := subE a b) (m := 0) (unhide H).2), rfl⟩
end Go.Proofs.YtdjhbecbbmdimaaGreatDoor
