/-
  My own text: layer 23: two priorities compared; rows of numbers that are only read.
-/
import Derived.Test.YtfhimhjeilnkaaaDoorLK5
import Derived.BigQuiet
namespace Go.Proofs.YtfhimhjeilnkaaaDoor
open Go.RowKit

def cmpI (x y : Int) : Int := if x < y then -1 else if y < x then 1 else 0
theorem cmpI_neg {x y : Int} : cmpI x y < 0 ↔ x < y := by unfold cmpI; split <;> (try split) <;> omega
set_option maxHeartbeats 1000000 in
theorem compare_any (x y : Int) (w : World) :
    Calls Tryd.prog 39 #[.int .i64 x, .int .i64 y] w fun e w' => e = .returned (.int .i64 (cmpI x y)) ∧ w' = w := by
  have hx : (x != x) = false := by simp
  have hy : (y != y) = false := by simp
  by_cases h1 : x < y
  · have HE : Hid (cmpI x y = -1) := hide (if_pos h1)
    have d1 : decide (x < y) = true := decide_eq_true h1
    clear h1
    go_enter Tryd.func39, Tryd.ntmps39
    go_wp2
    go_ret
    exact ⟨by rw [HE.out]; rfl, rfl⟩
  · have d1 : decide (x < y) = false := decide_eq_false h1
    by_cases h2 : y < x
    · have HE : Hid (cmpI x y = 1) := hide (by unfold cmpI; rw [if_neg h1, if_pos h2])
      have d2 : decide (y < x) = true := decide_eq_true h2
      clear h1 h2
      go_enter Tryd.func39, Tryd.ntmps39
      go_wp2
      go_ret
      exact ⟨by rw [HE.out]; rfl, rfl⟩
    · have HE : Hid (cmpI x y = 0) := hide (by unfold cmpI; rw [if_neg h1, if_neg h2])
      have d2 : decide (y < x) = false := decide_eq_false h2
      clear h1 h2
      go_enter Tryd.func39, Tryd.ntmps39
      go_wp2
      go_ret
      exact ⟨by rw [HE.out]; rfl, rfl⟩
/-- The priorities lie behind a pointer: those of things below n. -/
structure PZ (w : World) (n pb : Nat) (pr : Nat → Int) : Prop where
  at_ : ∃ (a : Option Addr) (c : Nat), w.cell? ⟨pb, 0, none⟩ = some (.slice a n c) ∧ ∀ x, x < n → ∃ b off, a = some ⟨b, off, none⟩ ∧ w.cell? ⟨b, off + x, none⟩ = some (.int .i64 (pr x))
set_option maxRecDepth 100000 in
set_option maxHeartbeats 1000000 in
theorem ranked1_any (n pb x y : Nat) (pr : Nat → Int) (w : World) (h : PZ w n pb pr) (hx : x < n) (hy : y < n) :
    Calls Tryd.prog 38 #[.int .i64 (x : Int), .int .i64 (y : Int), .pointer (some ⟨pb, 0, none⟩)] w fun e w' => e = .returned (.int .i64 (cmpI (pr y) (pr x))) ∧ ∃ k, w' = w.drewN k := by
  obtain ⟨a, c, c0, hr⟩ := h.at_
  obtain ⟨b, off, rfl, cx⟩ := hr x hx
  obtain ⟨b', off', e, cy⟩ := hr y hy
  injection e with e
  injection e with e1 e2
  subst e1
  subst e2
  have HC := hide (fun W => compare_any (pr y) (pr x) W)
  generalize cmpI (pr y) (pr x) = r at *
  have x0 : (0 : Int) ≤ (x : Int) := by omega
  have x1 : (x : Int) < (n : Int) := by omega
  have y0 : (0 : Int) ≤ (y : Int) := by omega
  have y1 : (y : Int) < (n : Int) := by omega
  clear h hr
  go_enter Tryd.func38, Tryd.ntmps38
  go_wp2_with fail
  go_quiet (first | (go_at_call 39; exact Calls.quiet_of_same (HC.out _)))
  go_wp2_with fail
  go_ret
  exact ⟨rfl, _, rfl⟩
end Go.Proofs.YtfhimhjeilnkaaaDoor
