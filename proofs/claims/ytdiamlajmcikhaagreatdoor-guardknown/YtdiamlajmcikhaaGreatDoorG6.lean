/-
  My own text: the document's looks at places, legs, configurations (printed by mkg6.py).
-/
import Derived.Test.YtdiamlajmcikhaaGreatDoorG5
namespace Go.Proofs.YtdiamlajmcikhaaGreatDoor
open Go.RowKit

set_option maxRecDepth 100000 in
set_option maxHeartbeats 2000000 in
theorem place_any (A S q h k a s : Int) (w : World) :
    Calls Tryz.prog 61 #[.agg #[.int .i64 A, .int .i64 S, .int .i64 q, .int .i64 h, .int .i64 k], .int .i64 a, .int .i64 s] w fun e w' => e = .returned (.int .i64 (kyE A S a s)) ∧ Below w.heap.size w w' := by
  have B0 := hide ((Below.refl w.heap.size w).alloc (Nat.le_refl _) (.cells #[.int .i64 A, .int .i64 S, .int .i64 q, .int .i64 h, .int .i64 k] 34))
  obtain ⟨x0, x1, x2, x3, x4⟩ := five_cells (alloc_new w (.cells #[.int .i64 A, .int .i64 S, .int .i64 q, .int .i64 h, .int .i64 k] 34)) rfl
  cases h0 : decide (a < 0)
  case true =>
    rw [show kyE A S a s = 14 by (have g0 : a < 0 := (by simpa using h0); unfold kyE; repeat' split) <;> omega]
    go_enter Tryz.func61, Tryz.ntmps61
    go_wp2_with fail
    go_ret
    exact ⟨rfl, B0.out⟩
  case false =>
    cases h1 : decide (A ≤ a)
    case true =>
      rw [show kyE A S a s = 14 by (have g0 : ¬ (a < 0) := (by simpa using h0); have g1 : A ≤ a := (by simpa using h1); unfold kyE; repeat' split) <;> omega]
      go_enter Tryz.func61, Tryz.ntmps61
      go_wp2_with fail
      go_ret
      exact ⟨rfl, B0.out⟩
    case false =>
      cases h2 : decide (s < 0)
      case true =>
        rw [show kyE A S a s = 15 by (have g0 : ¬ (a < 0) := (by simpa using h0); have g1 : ¬ (A ≤ a) := (by simpa using h1); have g2 : s < 0 := (by simpa using h2); unfold kyE; repeat' split) <;> omega]
        go_enter Tryz.func61, Tryz.ntmps61
        go_wp2_with fail
        go_ret
        exact ⟨rfl, B0.out⟩
      case false =>
        cases h3 : decide (S ≤ s)
        case true =>
          rw [show kyE A S a s = 15 by (have g0 : ¬ (a < 0) := (by simpa using h0); have g1 : ¬ (A ≤ a) := (by simpa using h1); have g2 : ¬ (s < 0) := (by simpa using h2); have g3 : S ≤ s := (by simpa using h3); unfold kyE; repeat' split) <;> omega]
          go_enter Tryz.func61, Tryz.ntmps61
          go_wp2_with fail
          go_ret
          exact ⟨rfl, B0.out⟩
        case false =>
          rw [show kyE A S a s = 0 by (have g0 : ¬ (a < 0) := (by simpa using h0); have g1 : ¬ (A ≤ a) := (by simpa using h1); have g2 : ¬ (s < 0) := (by simpa using h2); have g3 : ¬ (S ≤ s) := (by simpa using h3); unfold kyE; repeat' split) <;> omega]
          go_enter Tryz.func61, Tryz.ntmps61
          go_wp2_with fail
          go_ret
          exact ⟨rfl, B0.out⟩
set_option maxRecDepth 100000 in
set_option maxHeartbeats 2000000 in
theorem rFits_any (A S q h k : Int) (w : World) :
    Calls Tryz.prog 41 #[.agg #[.int .i64 A, .int .i64 S, .int .i64 q, .int .i64 h, .int .i64 k]] w fun e w' => e = .returned (.int .i64 (ftE A S q h k)) ∧ Below w.heap.size w w' := by
  have B0 := hide ((Below.refl w.heap.size w).alloc (Nat.le_refl _) (.cells #[.int .i64 A, .int .i64 S, .int .i64 q, .int .i64 h, .int .i64 k] 34))
  obtain ⟨x0, x1, x2, x3, x4⟩ := five_cells (alloc_new w (.cells #[.int .i64 A, .int .i64 S, .int .i64 q, .int .i64 h, .int .i64 k] 34)) rfl
  cases h0 : decide (A < 1)
  case true =>
    rw [show ftE A S q h k = 1 by (have g0 : A < 1 := (by simpa using h0); unfold ftE; repeat' split) <;> omega]
    go_enter Tryz.func41, Tryz.ntmps41
    go_wp2_with fail
    go_ret
    exact ⟨rfl, B0.out⟩
  case false =>
    cases h1 : decide (65536 < A)
    case true =>
      rw [show ftE A S q h k = 1 by (have g0 : ¬ (A < 1) := (by simpa using h0); have g1 : 65536 < A := (by simpa using h1); unfold ftE; repeat' split) <;> omega]
      go_enter Tryz.func41, Tryz.ntmps41
      go_wp2_with fail
      go_ret
      exact ⟨rfl, B0.out⟩
    case false =>
      cases h2 : decide (S < 1)
      case true =>
        rw [show ftE A S q h k = 1 by (have g0 : ¬ (A < 1) := (by simpa using h0); have g1 : ¬ (65536 < A) := (by simpa using h1); have g2 : S < 1 := (by simpa using h2); unfold ftE; repeat' split) <;> omega]
        go_enter Tryz.func41, Tryz.ntmps41
        go_wp2_with fail
        go_ret
        exact ⟨rfl, B0.out⟩
      case false =>
        cases h3 : decide (65536 < S)
        case true =>
          rw [show ftE A S q h k = 1 by (have g0 : ¬ (A < 1) := (by simpa using h0); have g1 : ¬ (65536 < A) := (by simpa using h1); have g2 : ¬ (S < 1) := (by simpa using h2); have g3 : 65536 < S := (by simpa using h3); unfold ftE; repeat' split) <;> omega]
          go_enter Tryz.func41, Tryz.ntmps41
          go_wp2_with fail
          go_ret
          exact ⟨rfl, B0.out⟩
        case false =>
          cases h4 : decide (q < 0)
          case true =>
            rw [show ftE A S q h k = 1 by (have g0 : ¬ (A < 1) := (by simpa using h0); have g1 : ¬ (65536 < A) := (by simpa using h1); have g2 : ¬ (S < 1) := (by simpa using h2); have g3 : ¬ (65536 < S) := (by simpa using h3); have g4 : q < 0 := (by simpa using h4); unfold ftE; repeat' split) <;> omega]
            go_enter Tryz.func41, Tryz.ntmps41
            go_wp2_with fail
            go_ret
            exact ⟨rfl, B0.out⟩
          case false =>
            cases h5 : decide (256 < q)
            case true =>
              rw [show ftE A S q h k = 1 by (have g0 : ¬ (A < 1) := (by simpa using h0); have g1 : ¬ (65536 < A) := (by simpa using h1); have g2 : ¬ (S < 1) := (by simpa using h2); have g3 : ¬ (65536 < S) := (by simpa using h3); have g4 : ¬ (q < 0) := (by simpa using h4); have g5 : 256 < q := (by simpa using h5); unfold ftE; repeat' split) <;> omega]
              go_enter Tryz.func41, Tryz.ntmps41
              go_wp2_with fail
              go_ret
              exact ⟨rfl, B0.out⟩
            case false =>
              cases h6 : decide (h < 1)
              case true =>
                rw [show ftE A S q h k = 1 by (have g0 : ¬ (A < 1) := (by simpa using h0); have g1 : ¬ (65536 < A) := (by simpa using h1); have g2 : ¬ (S < 1) := (by simpa using h2); have g3 : ¬ (65536 < S) := (by simpa using h3); have g4 : ¬ (q < 0) := (by simpa using h4); have g5 : ¬ (256 < q) := (by simpa using h5); have g6 : h < 1 := (by simpa using h6); unfold ftE; repeat' split) <;> omega]
                go_enter Tryz.func41, Tryz.ntmps41
                go_wp2_with fail
                go_ret
                exact ⟨rfl, B0.out⟩
              case false =>
                cases h7 : decide (64 < h)
                case true =>
                  rw [show ftE A S q h k = 1 by (have g0 : ¬ (A < 1) := (by simpa using h0); have g1 : ¬ (65536 < A) := (by simpa using h1); have g2 : ¬ (S < 1) := (by simpa using h2); have g3 : ¬ (65536 < S) := (by simpa using h3); have g4 : ¬ (q < 0) := (by simpa using h4); have g5 : ¬ (256 < q) := (by simpa using h5); have g6 : ¬ (h < 1) := (by simpa using h6); have g7 : 64 < h := (by simpa using h7); unfold ftE; repeat' split) <;> omega]
                  go_enter Tryz.func41, Tryz.ntmps41
                  go_wp2_with fail
                  go_ret
                  exact ⟨rfl, B0.out⟩
                case false =>
                  cases h8 : decide (k < 0)
                  case true =>
                    rw [show ftE A S q h k = 1 by (have g0 : ¬ (A < 1) := (by simpa using h0); have g1 : ¬ (65536 < A) := (by simpa using h1); have g2 : ¬ (S < 1) := (by simpa using h2); have g3 : ¬ (65536 < S) := (by simpa using h3); have g4 : ¬ (q < 0) := (by simpa using h4); have g5 : ¬ (256 < q) := (by simpa using h5); have g6 : ¬ (h < 1) := (by simpa using h6); have g7 : ¬ (64 < h) := (by simpa using h7); have g8 : k < 0 := (by simpa using h8); unfold ftE; repeat' split) <;> omega]
                    go_enter Tryz.func41, Tryz.ntmps41
                    go_wp2_with fail
                    go_ret
                    exact ⟨rfl, B0.out⟩
                  case false =>
                    cases h9 : decide (8 < k)
                    case true =>
                      rw [show ftE A S q h k = 1 by (have g0 : ¬ (A < 1) := (by simpa using h0); have g1 : ¬ (65536 < A) := (by simpa using h1); have g2 : ¬ (S < 1) := (by simpa using h2); have g3 : ¬ (65536 < S) := (by simpa using h3); have g4 : ¬ (q < 0) := (by simpa using h4); have g5 : ¬ (256 < q) := (by simpa using h5); have g6 : ¬ (h < 1) := (by simpa using h6); have g7 : ¬ (64 < h) := (by simpa using h7); have g8 : ¬ (k < 0) := (by simpa using h8); have g9 : 8 < k := (by simpa using h9); unfold ftE; repeat' split) <;> omega]
                      go_enter Tryz.func41, Tryz.ntmps41
                      go_wp2_with fail
                      go_ret
                      exact ⟨rfl, B0.out⟩
                    case false =>
                      rw [show ftE A S q h k = 0 by (have g0 : ¬ (A < 1) := (by simpa using h0); have g1 : ¬ (65536 < A) := (by simpa using h1); have g2 : ¬ (S < 1) := (by simpa using h2); have g3 : ¬ (65536 < S) := (by simpa using h3); have g4 : ¬ (q < 0) := (by simpa using h4); have g5 : ¬ (256 < q) := (by simpa using h5); have g6 : ¬ (h < 1) := (by simpa using h6); have g7 : ¬ (64 < h) := (by simpa using h7); have g8 : ¬ (k < 0) := (by simpa using h8); have g9 : ¬ (8 < k) := (by simpa using h9); unfold ftE; repeat' split) <;> omega]
                      go_enter Tryz.func41, Tryz.ntmps41
                      go_wp2_with fail
                      go_ret
                      exact ⟨rfl, B0.out⟩
set_option maxRecDepth 100000 in
set_option maxHeartbeats 2000000 in
theorem rLeg_any (A S q h k f t s r n : Int) (w : World) :
    Calls Tryz.prog 82 #[.agg #[.int .i64 A, .int .i64 S, .int .i64 q, .int .i64 h, .int .i64 k], .agg #[.int .i64 f, .int .i64 t, .int .i64 s, .int .i64 r, .int .i64 n]] w fun e w' => e = .returned (.int .i64 (lgE A S (f, t, s, r, n))) ∧ Below w.heap.size w w' := by
  have HB0 := hide (two_below w (.cells #[.int .i64 A, .int .i64 S, .int .i64 q, .int .i64 h, .int .i64 k] 34) (.cells #[.int .i64 f, .int .i64 t, .int .i64 s, .int .i64 r, .int .i64 n] 38))
  have X0 := two_new w (.cells #[.int .i64 A, .int .i64 S, .int .i64 q, .int .i64 h, .int .i64 k] 34) (.cells #[.int .i64 f, .int .i64 t, .int .i64 s, .int .i64 r, .int .i64 n] 38)
  have Z0 := hide X0.1
  have U0 := hide X0.2
  clear X0
  obtain ⟨x0, x1, x2, x3, x4⟩ := five_cells Z0.out rfl
  obtain ⟨y0, y1, y2, y3, y4⟩ := five_cells U0.out rfl
  have HP := hide (fun W : World => place_any A S q h k f s W)
  cases h0 : decide (f < 0)
  case true =>
    rw [show lgE A S (f, t, s, r, n) = 14 by (have g0 : f < 0 := (by simpa using h0); unfold lgE; dsimp only; repeat' split) <;> omega]
    go_enter Tryz.func82, Tryz.ntmps82
    go_wp2_with fail
    go_ret
    exact ⟨rfl, HB0.out⟩
  case false =>
    cases h1 : decide (A ≤ f)
    case true =>
      rw [show lgE A S (f, t, s, r, n) = 14 by (have g0 : ¬ (f < 0) := (by simpa using h0); have g1 : A ≤ f := (by simpa using h1); unfold lgE; dsimp only; repeat' split) <;> omega]
      go_enter Tryz.func82, Tryz.ntmps82
      go_wp2_with fail
      go_ret
      exact ⟨rfl, HB0.out⟩
    case false =>
      cases h2 : decide (t < 0)
      case true =>
        rw [show lgE A S (f, t, s, r, n) = 14 by (have g0 : ¬ (f < 0) := (by simpa using h0); have g1 : ¬ (A ≤ f) := (by simpa using h1); have g2 : t < 0 := (by simpa using h2); unfold lgE; dsimp only; repeat' split) <;> omega]
        go_enter Tryz.func82, Tryz.ntmps82
        go_wp2_with fail
        go_ret
        exact ⟨rfl, HB0.out⟩
      case false =>
        cases h3 : decide (A ≤ t)
        case true =>
          rw [show lgE A S (f, t, s, r, n) = 14 by (have g0 : ¬ (f < 0) := (by simpa using h0); have g1 : ¬ (A ≤ f) := (by simpa using h1); have g2 : ¬ (t < 0) := (by simpa using h2); have g3 : A ≤ t := (by simpa using h3); unfold lgE; dsimp only; repeat' split) <;> omega]
          go_enter Tryz.func82, Tryz.ntmps82
          go_wp2_with fail
          go_ret
          exact ⟨rfl, HB0.out⟩
        case false =>
          cases h4 : (f == t)
          case true =>
            rw [show lgE A S (f, t, s, r, n) = 17 by (have g0 : ¬ (f < 0) := (by simpa using h0); have g1 : ¬ (A ≤ f) := (by simpa using h1); have g2 : ¬ (t < 0) := (by simpa using h2); have g3 : ¬ (A ≤ t) := (by simpa using h3); have g4 : f = t := (by simpa using h4); unfold lgE; dsimp only; repeat' split) <;> omega]
            go_enter Tryz.func82, Tryz.ntmps82
            go_wp2_with fail
            go_ret
            exact ⟨rfl, HB0.out⟩
          case false =>
            cases h5 : !(decide (0 ≤ s) && decide (s < S))
            case true =>
              rw [show kyE A S f s = 15 by (have g0 : ¬ (f < 0) := (by simpa using h0); have g1 : ¬ (A ≤ f) := (by simpa using h1); have g5 : (s < 0 ∨ S ≤ s) := (by simpa using h5); unfold kyE; repeat' split) <;> omega] at HP
              rw [show lgE A S (f, t, s, r, n) = 15 by (have g0 : ¬ (f < 0) := (by simpa using h0); have g1 : ¬ (A ≤ f) := (by simpa using h1); have g2 : ¬ (t < 0) := (by simpa using h2); have g3 : ¬ (A ≤ t) := (by simpa using h3); have g4 : ¬ (f = t) := (by simpa using h4); have g5 : s < 0 ∨ S ≤ s := (by simpa using h5); unfold lgE; dsimp only; repeat' split) <;> omega]
              go_enter Tryz.func82, Tryz.ntmps82
              go_wp2_with fail
              refine (HP.out _).mono ?_
              rintro e w1 ⟨rfl, hb⟩
              have HB2 := hide (HB0.out.trans (hb.mono HB0.out.size))
              have Z1 := hide (blk_later Z0.out hb)
              have U1 := hide (blk_later U0.out hb)
              clear hb x0 x1 x2 x3 x4 y0 y1 y2 y3 y4
              obtain ⟨x0, x1, x2, x3, x4⟩ := five_cells Z1.out rfl
              obtain ⟨y0, y1, y2, y3, y4⟩ := five_cells U1.out rfl
              go_wp2_with fail
              go_ret
              exact ⟨rfl, HB2.out⟩
            case false =>
              rw [show kyE A S f s = 0 by (have g0 : ¬ (f < 0) := (by simpa using h0); have g1 : ¬ (A ≤ f) := (by simpa using h1); have g5 : (0 ≤ s ∧ s < S) := (by simpa using h5); unfold kyE; repeat' split) <;> omega] at HP
              cases h6 : decide (r < 1)
              case true =>
                rw [show lgE A S (f, t, s, r, n) = 16 by (have g0 : ¬ (f < 0) := (by simpa using h0); have g1 : ¬ (A ≤ f) := (by simpa using h1); have g2 : ¬ (t < 0) := (by simpa using h2); have g3 : ¬ (A ≤ t) := (by simpa using h3); have g4 : ¬ (f = t) := (by simpa using h4); have g5 : ¬ (s < 0 ∨ S ≤ s) := (by simpa using h5); have g6 : r < 1 := (by simpa using h6); unfold lgE; dsimp only; repeat' split) <;> omega]
                go_enter Tryz.func82, Tryz.ntmps82
                go_wp2_with fail
                refine (HP.out _).mono ?_
                rintro e w1 ⟨rfl, hb⟩
                have HB2 := hide (HB0.out.trans (hb.mono HB0.out.size))
                have Z1 := hide (blk_later Z0.out hb)
                have U1 := hide (blk_later U0.out hb)
                clear hb x0 x1 x2 x3 x4 y0 y1 y2 y3 y4
                obtain ⟨x0, x1, x2, x3, x4⟩ := five_cells Z1.out rfl
                obtain ⟨y0, y1, y2, y3, y4⟩ := five_cells U1.out rfl
                go_wp2_with fail
                go_ret
                exact ⟨rfl, HB2.out⟩
              case false =>
                cases h7 : decide (n < 0)
                case true =>
                  rw [show lgE A S (f, t, s, r, n) = 19 by (have g0 : ¬ (f < 0) := (by simpa using h0); have g1 : ¬ (A ≤ f) := (by simpa using h1); have g2 : ¬ (t < 0) := (by simpa using h2); have g3 : ¬ (A ≤ t) := (by simpa using h3); have g4 : ¬ (f = t) := (by simpa using h4); have g5 : ¬ (s < 0 ∨ S ≤ s) := (by simpa using h5); have g6 : ¬ (r < 1) := (by simpa using h6); have g7 : n < 0 := (by simpa using h7); unfold lgE; dsimp only; repeat' split) <;> omega]
                  go_enter Tryz.func82, Tryz.ntmps82
                  go_wp2_with fail
                  refine (HP.out _).mono ?_
                  rintro e w1 ⟨rfl, hb⟩
                  have HB2 := hide (HB0.out.trans (hb.mono HB0.out.size))
                  have Z1 := hide (blk_later Z0.out hb)
                  have U1 := hide (blk_later U0.out hb)
                  clear hb x0 x1 x2 x3 x4 y0 y1 y2 y3 y4
                  obtain ⟨x0, x1, x2, x3, x4⟩ := five_cells Z1.out rfl
                  obtain ⟨y0, y1, y2, y3, y4⟩ := five_cells U1.out rfl
                  go_wp2_with fail
                  go_ret
                  exact ⟨rfl, HB2.out⟩
                case false =>
                  cases h8 : decide (65536 < n)
                  case true =>
                    rw [show lgE A S (f, t, s, r, n) = 19 by (have g0 : ¬ (f < 0) := (by simpa using h0); have g1 : ¬ (A ≤ f) := (by simpa using h1); have g2 : ¬ (t < 0) := (by simpa using h2); have g3 : ¬ (A ≤ t) := (by simpa using h3); have g4 : ¬ (f = t) := (by simpa using h4); have g5 : ¬ (s < 0 ∨ S ≤ s) := (by simpa using h5); have g6 : ¬ (r < 1) := (by simpa using h6); have g7 : ¬ (n < 0) := (by simpa using h7); have g8 : 65536 < n := (by simpa using h8); unfold lgE; dsimp only; repeat' split) <;> omega]
                    go_enter Tryz.func82, Tryz.ntmps82
                    go_wp2_with fail
                    refine (HP.out _).mono ?_
                    rintro e w1 ⟨rfl, hb⟩
                    have HB2 := hide (HB0.out.trans (hb.mono HB0.out.size))
                    have Z1 := hide (blk_later Z0.out hb)
                    have U1 := hide (blk_later U0.out hb)
                    clear hb x0 x1 x2 x3 x4 y0 y1 y2 y3 y4
                    obtain ⟨x0, x1, x2, x3, x4⟩ := five_cells Z1.out rfl
                    obtain ⟨y0, y1, y2, y3, y4⟩ := five_cells U1.out rfl
                    go_wp2_with fail
                    go_ret
                    exact ⟨rfl, HB2.out⟩
                  case false =>
                    rw [show lgE A S (f, t, s, r, n) = 0 by (have g0 : ¬ (f < 0) := (by simpa using h0); have g1 : ¬ (A ≤ f) := (by simpa using h1); have g2 : ¬ (t < 0) := (by simpa using h2); have g3 : ¬ (A ≤ t) := (by simpa using h3); have g4 : ¬ (f = t) := (by simpa using h4); have g5 : ¬ (s < 0 ∨ S ≤ s) := (by simpa using h5); have g6 : ¬ (r < 1) := (by simpa using h6); have g7 : ¬ (n < 0) := (by simpa using h7); have g8 : ¬ (65536 < n) := (by simpa using h8); unfold lgE; dsimp only; repeat' split) <;> omega]
                    go_enter Tryz.func82, Tryz.ntmps82
                    go_wp2_with fail
                    refine (HP.out _).mono ?_
                    rintro e w1 ⟨rfl, hb⟩
                    have HB2 := hide (HB0.out.trans (hb.mono HB0.out.size))
                    have Z1 := hide (blk_later Z0.out hb)
                    have U1 := hide (blk_later U0.out hb)
                    clear hb x0 x1 x2 x3 x4 y0 y1 y2 y3 y4
                    obtain ⟨x0, x1, x2, x3, x4⟩ := five_cells Z1.out rfl
                    obtain ⟨y0, y1, y2, y3, y4⟩ := five_cells U1.out rfl
                    go_wp2_with fail
                    go_ret
                    exact ⟨rfl, HB2.out⟩
end Go.Proofs.YtdiamlajmcikhaaGreatDoor
