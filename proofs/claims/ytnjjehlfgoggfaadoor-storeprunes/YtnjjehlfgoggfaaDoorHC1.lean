/-
  My own text: sort.Search over a test that turns once.
-/
import Derived.Test.YtnjjehlfgoggfaaDoorProg
import Derived.Test.YtnjjehlfgoggfaaDoorErr
import Derived.Deep.RegionHeld3
import Derived.WalkSmall
namespace Go.Proofs.YtnjjehlfgoggfaaDoor
open Go.RowKit

set_option maxRecDepth 100000 in
set_option maxHeartbeats 1000000 in
theorem search_any (fid : FuncId) (caps : Array Value) (K N : Nat) (w : World) (hN : N ≤ 4611686018427387904) (hK : K ≤ N) (hE : ∀ (W : World) (a : Array Value), (callFunc fid a).run Tryd.prog W = .ok (.enter fid a) W)
    (hT : ∀ (i : Nat) (W : World), i < N → Below w.heap.size w W → Calls Tryd.prog fid (#[.int .i64 (i : Int)] ++ caps) W fun e w' => e = .returned (.bool (decide (K ≤ i))) ∧ Below W.heap.size W w') :
    Calls Tryd.prog 84 #[.int .i64 (N : Int), .func (Fn.func fid) #[] caps] w fun e w' => e = .returned (.int .i64 (K : Int)) ∧ Below w.heap.size w w' := by
  have HT := hide hT
  clear hT
  go_enter Tryd.func84, Tryd.ntmps84
  go_wp2_with fail
  go_loopw [5, 6] (fun i j wr => ∃ a b : Nat, i = .int .i64 (a : Int) ∧ j = .int .i64 (b : Int) ∧ a ≤ K ∧ K ≤ b ∧ b ≤ N ∧ Hid (Below w.heap.size w wr)) (fun i j _ => (intOf j).toNat - (intOf i).toNat)
  case atStart => exact ⟨0, N, rfl, rfl, Nat.zero_le _, hK, Nat.le_refl _, hide (Below.refl _ _)⟩
  case round =>
    obtain ⟨a, b, rfl, rfl, h1, h2, h3, HB⟩ := hrel
    by_cases hab : a < b
    · have hd1 : decide ((a : Int) < (b : Int)) = true := by rw [decide_eq_true_eq]; omega
      have w1 : wrap64 ((a : Int) + (b : Int)) = (a : Int) + (b : Int) := by unfold wrap64; omega
      go_wp2_with fail
      obtain ⟨h, eh⟩ : ∃ h : Nat, (h : Int) = ((a : Int) + (b : Int)) / 2 := ⟨(a + b) / 2, by omega⟩
      rw [← eh]
      have h4 : a ≤ h := by omega
      have h5 : h < b := by omega
      have H := hide (HT.out h wr (by omega) HB.out)
      clear eh w1
      refine H.out.mono ?_
      rintro e w2 ⟨rfl, hb2⟩
      have HB2 := hide (HB.out.trans (hb2.mono HB.out.size))
      clear hb2 H HB
      by_cases hk : K ≤ h
      · rw [decide_eq_true hk]
        go_wp2_with fail
        go_roundw
        case rel => exact ⟨a, h, rfl, rfl, h1, hk, by omega, HB2⟩
        case measure => simp [intOf]; omega
      · rw [decide_eq_false hk]
        go_wp2_with fail
        go_roundw
        case rel => exact ⟨h + 1, b, by go_num, rfl, by omega, h2, h3, HB2⟩
        case measure => simp [intOf]; omega
    · have hd1 : decide ((a : Int) < (b : Int)) = false := by rw [decide_eq_false_iff_not]; omega
      have e : a = K := by omega
      subst e
      go_wp2_with fail
      go_ret
      exact ⟨rfl, HB.out⟩
end Go.Proofs.YtnjjehlfgoggfaaDoor
