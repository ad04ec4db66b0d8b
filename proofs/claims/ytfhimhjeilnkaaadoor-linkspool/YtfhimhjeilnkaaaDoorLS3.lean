/-
  My own text: layer 23: SortStableFunc of few places.
-/
import Derived.Test.YtfhimhjeilnkaaaDoorLS2
namespace Go.Proofs.YtfhimhjeilnkaaaDoor
open Go.RowKit

/-- What is asked of the sort of n places. -/
def SortOk (n : Nat) : Prop := ∀ (P pb cap : Nat) (pr : Nat → Int) (L : List Nat) (w : World), NV w P L → SI pr n L → (∀ W, w.grownBy W (some P) → PZ W n pb pr) →
  Calls Tryd.prog 37 #[.slice (some ⟨P, 0, none⟩) n cap, lessV pb] w fun e w' => (∃ u, e = .returned u) ∧ ∃ L', NV w' P L' ∧ SI pr n L' ∧ Srt pr L' 0 n ∧ w.grownBy w' (some P)
set_option maxRecDepth 100000 in
set_option maxHeartbeats 1000000 in
theorem stableFew_any (n P pb cap : Nat) (hn : n < 20) (pr : Nat → Int) (L : List Nat) (w : World) (hN : NV w P L) (hS : SI pr n L) (hP : ∀ W, w.grownBy W (some P) → PZ W n pb pr) :
    Calls Tryd.prog 40 #[.slice (some ⟨P, 0, none⟩) n cap, .int .i64 (n : Int), lessV pb] w fun e w' => (∃ u, e = .returned u) ∧ ∃ L', NV w' P L' ∧ SI pr n L' ∧ Srt pr L' 0 n ∧ w.grownBy w' (some P) := by
  have HI := hide (isort_any 0 n n P pb cap pr L w hN hS (Nat.zero_le _) (Nat.le_refl _) (by omega) hP)
  have d1 : decide ((20 : Int) ≤ (n : Int)) = false := by rw [decide_eq_false_iff_not]; omega
  have d2 : decide ((20 : Int) < (n : Int)) = false := by rw [decide_eq_false_iff_not]; omega
  have e1 : ¬ (20 : Int) ≤ (n : Int) := by omega
  have e2 : ¬ (20 : Int) < (n : Int) := by omega
  have e3 : ¬ 20 ≤ n := by omega
  have e4 : ¬ 20 < n := by omega
  unfold lessV at HI ⊢
  clear hN hS hP
  go_enter Tryd.func40, Tryd.ntmps40
  go_wp2_with fail
  go_loopw [7, 8] (fun a b wr => a = .int .i64 0 ∧ b = .int .i64 20 ∧ wr = w) (fun _ _ _ => 0)
  case atStart => exact ⟨rfl, rfl, rfl⟩
  case round =>
    obtain ⟨rfl, rfl, hw⟩ := hrel
    obtain rfl := hw.symm
    go_wp2_with fail
    refine HI.out.mono ?_
    rintro e w1 ⟨⟨u, rfl⟩, L', h1, h2, h3, _, h5⟩
    have HR : Hid (∃ L', NV w1 P L' ∧ SI pr n L' ∧ Srt pr L' 0 n ∧ w.grownBy w1 (some P)) := hide ⟨L', h1, h2, h3, h5⟩
    clear h1 h2 h3 h5 HI
    go_wp2_with fail
    go_loopw [6] (fun a wr => a = .int .i64 20 ∧ wr = w1) (fun _ _ => 0)
    case atStart => exact ⟨rfl, rfl⟩
    case round =>
      obtain ⟨rfl, hw⟩ := hrel
      obtain rfl := hw.symm
      go_wp2_with fail
      refine bodyPost_end (v := .tuple #[]) ?r1 ?r2 ?r3
      case r1 => exact results_none rfl _ _ _
      case r2 => rfl
      case r3 => exact ⟨⟨_, rfl⟩, HR.out⟩
theorem sortFew {n : Nat} (hn : n < 20) : SortOk n := by
  intro P pb cap pr L w hN hS hP
  have HS := hide (stableFew_any n P pb cap hn pr L w hN hS hP)
  unfold lessV at HS ⊢
  clear hN hS hP
  go_enter Tryd.func37, Tryd.ntmps37
  go_wp2_with fail
  refine HS.out.mono ?_
  rintro e w1 ⟨⟨u, rfl⟩, L', h1, h2, h3, h5⟩
  have HR : Hid (∃ L', NV w1 P L' ∧ SI pr n L' ∧ Srt pr L' 0 n ∧ w.grownBy w1 (some P)) := hide ⟨L', h1, h2, h3, h5⟩
  clear h1 h2 h3 h5 HS
  go_wp2_with fail
  refine bodyPost_end (v := .tuple #[]) ?r1 ?r2 ?r3
  case r1 => exact results_none rfl _ _ _
  case r2 => rfl
  case r3 => exact ⟨⟨_, rfl⟩, HR.out⟩
end Go.Proofs.YtfhimhjeilnkaaaDoor
