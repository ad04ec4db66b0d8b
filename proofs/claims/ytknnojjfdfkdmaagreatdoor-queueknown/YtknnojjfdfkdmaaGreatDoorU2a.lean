/-
  My own text: layer 19: numbers compared, by the program (out of VK1).
-/
import Derived.Test.YtknnojjfdfkdmaaGreatDoorVM1
import Derived.Test.YtknnojjfdfkdmaaGreatDoorQT2
import Derived.Test.YtknnojjfdfkdmaaGreatDoorGKS
import Derived.WalkSmall
namespace Go.Proofs.YtknnojjfdfkdmaaGreatDoor
open Go.RowKit

def sgn (a b : Int) : Int := if a < b then -1 else if b < a then 1 else 0
theorem sgn_lt {a b : Int} (h : a < b) : sgn a b = -1 := if_pos h
theorem sgn_gt {a b : Int} (h : b < a) : sgn a b = 1 := by unfold sgn; rw [if_neg (by omega), if_pos h]
theorem sgn_eq {a b : Int} (h : a = b) : sgn a b = 0 := by unfold sgn; rw [if_neg (by omega), if_neg (by omega)]
theorem sgn_bounds (a b : Int) : -1 ≤ sgn a b ∧ sgn a b ≤ 1 := by unfold sgn; split; omega; split <;> omega
theorem ret_c {a b : Int} (h : a = b) : Ending.returned (.int .i64 a) = .returned (.int .i64 b) := by rw [h]
/-- The first that is not zero. -/
def orI (a b : Int) : Int := if a = 0 then b else a

theorem nanI (x : Value) (w : World) (a : Int) (hx : x = .int .i64 a) : Calls Tryz.prog 81 #[x] w fun e w' => e = .returned (.bool false) ∧ w' = w := by
  subst hx
  go_enter Tryz.func81, Tryz.ntmps81
  go_wp2
  go_ret
  exact ⟨rfl, rfl⟩

set_option maxHeartbeats 400000 in
theorem compareI (a b : Int) (w : World) : Calls Tryz.prog 68 #[.int .i64 a, .int .i64 b] w fun e w' => e = .returned (.int .i64 (sgn a b)) ∧ w' = w := by
  rcases Int.lt_trichotomy a b with h | h | h
  · have H := hide (sgn_lt h)
    go_enter Tryz.func68, Tryz.ntmps68
    go_wp2_with (first | (go_at_call 81; refine (nanI _ _ _ rfl).mono ?_; rintro e w' ⟨rfl, rfl⟩) | go_in)
    go_ret
    exact ⟨ret_c H.out.symm, rfl⟩
  · subst h
    have H := hide (sgn_eq (rfl : a = a))
    go_enter Tryz.func68, Tryz.ntmps68
    go_wp2_with (first | (go_at_call 81; refine (nanI _ _ _ rfl).mono ?_; rintro e w' ⟨rfl, rfl⟩) | go_in)
    go_ret
    exact ⟨ret_c H.out.symm, rfl⟩
  · have H := hide (sgn_gt h)
    have h2 : ¬ a < b := by omega
    go_enter Tryz.func68, Tryz.ntmps68
    go_wp2_with (first | (go_at_call 81; refine (nanI _ _ _ rfl).mono ?_; rintro e w' ⟨rfl, rfl⟩) | go_in)
    go_ret
    exact ⟨ret_c H.out.symm, rfl⟩

set_option maxRecDepth 100000 in
set_option maxHeartbeats 1000000 in
theorem or_two (a b : Int) (g cap : Nat) (w : World) (h0 : w.cell? ⟨g, 0, none⟩ = some (.int .i64 a)) (h1 : w.cell? ⟨g, 1, none⟩ = some (.int .i64 b)) :
    Calls Tryz.prog 67 #[.slice (some ⟨g, 0, none⟩) 2 cap] w fun e w' => e = .returned (.int .i64 (orI a b)) ∧ w' = w := by
  by_cases ha : a = 0
  · subst ha
    by_cases hb : b = 0
    · subst hb
      have H : Hid (orI 0 0 = 0) := rfl
      go_enter Tryz.func67, Tryz.ntmps67
      go_wp2
      go_loop [8] (fun i => ∃ k : Nat, k ≤ 2 ∧ i = .int .i64 k) (fun i => 2 - (intOf i).toNat)
      case atStart => exact ⟨0, by omega, rfl⟩
      case round =>
        obtain ⟨k, hk, rfl⟩ := hrel
        by_cases k2 : k = 2
        · subst k2
          go_wp2
          go_ret
          exact ⟨ret_c H.out.symm, rfl⟩
        by_cases k1 : k = 1
        · subst k1
          go_wp2
          go_round
          case rel => exact ⟨2, by omega, rfl⟩
          case measure => simp [intOf]
        obtain rfl : k = 0 := by omega
        go_wp2
        go_round
        case rel => exact ⟨1, by omega, rfl⟩
        case measure => simp [intOf]
    · have H : Hid (orI 0 b = b) := rfl
      have hb' : (b == 0) = false := by simpa using hb
      go_enter Tryz.func67, Tryz.ntmps67
      go_wp2
      go_loop [8] (fun i => ∃ k : Nat, k ≤ 1 ∧ i = .int .i64 k) (fun i => 1 - (intOf i).toNat)
      case atStart => exact ⟨0, by omega, rfl⟩
      case round =>
        obtain ⟨k, hk, rfl⟩ := hrel
        by_cases k1 : k = 1
        · subst k1
          go_wp2
          go_ret
          exact ⟨ret_c H.out.symm, rfl⟩
        obtain rfl : k = 0 := by omega
        go_wp2
        go_round
        case rel => exact ⟨1, by omega, rfl⟩
        case measure => simp [intOf]
  · have H : Hid (orI a b = a) := if_neg ha
    have ha' : (a == 0) = false := by simpa using ha
    go_enter Tryz.func67, Tryz.ntmps67
    go_wp2
    go_loop [8] (fun i => i = .int .i64 0) (fun i => 0)
    case atStart => rfl
    case round =>
      subst hrel
      go_wp2
      go_ret
      exact ⟨ret_c H.out.symm, rfl⟩

end Go.Proofs.YtknnojjfdfkdmaaGreatDoor
