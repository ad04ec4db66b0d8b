/-
  My own text: G1, G2, G3 in one.
-/
import Derived.Test.YtdjhbecbbmdimaaGreatDoorGM
import Derived.Deep.WholeRow
import Derived.Laws.Tables
import Derived.Laws.Rows
import Derived.Laws.ResultCell
namespace Go.Proofs.YtdjhbecbbmdimaaGreatDoor
open Go.RowKit

/-- A configuration as a value. -/
def cfV (A S q h k : Int) : Value := .agg #[.int .i64 A, .int .i64 S, .int .i64 q, .int .i64 h, .int .i64 k]
theorem errNeq (k : Int) (W : World) (v : Value) (h : v = errV k) : (binOp .neq 74 v .nilIface).run Tryz.prog W = .ok (.bool (decide (¬ k = 0))) W := by
  subst h
  unfold errV
  by_cases hk : k = 0
  · rw [if_pos hk, decide_eq_false (by simpa using hk)]; kernel_rfl
  · rw [if_neg hk, decide_eq_true hk]; kernel_rfl
theorem within_any (n a b : Int) (w : World) :
    Calls Tryz.prog 67 #[.int .i64 n, .int .i64 a, .int .i64 b] w fun e w' => e = .returned (.bool (decide (a ≤ n) && decide (n ≤ b))) ∧ w' = w := by
  cases h1 : decide (a ≤ n) <;> cases h2 : decide (n ≤ b)
  all_goals
    go_enter Tryz.func67, Tryz.ntmps67
    go_wp2_with fail
    go_ret
    exact ⟨rfl, rfl⟩
theorem hasAccount_any (A S q h k n : Int) (w : World) :
    Calls Tryz.prog 126 #[.agg #[.int .i64 A, .int .i64 S, .int .i64 q, .int .i64 h, .int .i64 k], .int .i64 n] w fun e w' => e = .returned (.bool (decide (0 ≤ n) && decide (n < A))) ∧ Below w.heap.size w w' := by
  have B0 := hide ((Below.refl w.heap.size w).alloc (Nat.le_refl _) (.cells #[.int .i64 A, .int .i64 S, .int .i64 q, .int .i64 h, .int .i64 k] 98))
  obtain ⟨x0, x1, x2, x3, x4⟩ := five_cells (alloc_new w (.cells #[.int .i64 A, .int .i64 S, .int .i64 q, .int .i64 h, .int .i64 k] 98)) rfl
  cases h1 : decide (0 ≤ n) <;> cases h2 : decide (n < A)
  all_goals
    go_enter Tryz.func126, Tryz.ntmps126
    go_wp2_with fail
    go_ret
    exact ⟨rfl, B0.out⟩
theorem hasAsset_any (A S q h k n : Int) (w : World) :
    Calls Tryz.prog 127 #[.agg #[.int .i64 A, .int .i64 S, .int .i64 q, .int .i64 h, .int .i64 k], .int .i64 n] w fun e w' => e = .returned (.bool (decide (0 ≤ n) && decide (n < S))) ∧ Below w.heap.size w w' := by
  have B0 := hide ((Below.refl w.heap.size w).alloc (Nat.le_refl _) (.cells #[.int .i64 A, .int .i64 S, .int .i64 q, .int .i64 h, .int .i64 k] 98))
  obtain ⟨x0, x1, x2, x3, x4⟩ := five_cells (alloc_new w (.cells #[.int .i64 A, .int .i64 S, .int .i64 q, .int .i64 h, .int .i64 k] 98)) rfl
  cases h1 : decide (0 ≤ n) <;> cases h2 : decide (n < S)
  all_goals
    go_enter Tryz.func127, Tryz.ntmps127
    go_wp2_with fail
    go_ret
    exact ⟨rfl, B0.out⟩
end Go.Proofs.YtdjhbecbbmdimaaGreatDoor
namespace Go.Proofs.YtdjhbecbbmdimaaGreatDoor
open Go.RowKit

theorem two_new (w : World) (o p : Obj) : ((w.alloc o).alloc p).heap[w.heap.size]? = some o ∧ ((w.alloc o).alloc p).heap[w.heap.size + 1]? = some p := by
  refine ⟨alloc_block (alloc_new w o), ?_⟩
  have := alloc_new (w.alloc o) p
  rwa [show (w.alloc o).heap.size = w.heap.size + 1 by simp] at this
theorem two_below (w : World) (o p : Obj) : Below w.heap.size w ((w.alloc o).alloc p) := ((Below.refl w.heap.size w).alloc (Nat.le_refl _) o).alloc (by simp) p
theorem kyE_acc {A S a s : Int} (h : (decide (0 ≤ a) && decide (a < A)) = false) : kyE A S a s = 14 := by
  unfold kyE; rw [if_neg]; simpa using h
theorem kyE_ass {A S a s : Int} (h : (decide (0 ≤ a) && decide (a < A)) = true) (h2 : (decide (0 ≤ s) && decide (s < S)) = false) : kyE A S a s = 15 := by
  unfold kyE; rw [if_pos (by simpa using h), if_neg]; simpa using h2
theorem kyE_ok {A S a s : Int} (h : (decide (0 ≤ a) && decide (a < A)) = true) (h2 : (decide (0 ≤ s) && decide (s < S)) = true) : kyE A S a s = 0 := by
  unfold kyE; rw [if_pos (by simpa using h), if_pos (by simpa using h2)]
set_option maxRecDepth 100000 in
set_option maxHeartbeats 1000000 in
theorem key_any (A S q h k a s : Int) (w : World) :
    Calls Tryz.prog 121 #[.agg #[.int .i64 A, .int .i64 S, .int .i64 q, .int .i64 h, .int .i64 k], .agg #[.int .i64 a, .int .i64 s]] w fun e w' => e = .returned (errV (kyE A S a s)) ∧ Below w.heap.size w w' := by
  have B0 := hide (two_below w (.cells #[.int .i64 A, .int .i64 S, .int .i64 q, .int .i64 h, .int .i64 k] 98) (.cells #[.int .i64 a, .int .i64 s] 39))
  have X0 := hide (two_new w (.cells #[.int .i64 A, .int .i64 S, .int .i64 q, .int .i64 h, .int .i64 k] 98) (.cells #[.int .i64 a, .int .i64 s] 39))
  have HA := hide (fun W : World => hasAccount_any A S q h k a W)
  have HS := hide (fun W : World => hasAsset_any A S q h k s W)
  obtain ⟨x0, x1, x2, x3, x4⟩ := five_cells X0.out.1 rfl
  obtain ⟨y0, y1⟩ := pair_cells X0.out.2 rfl
  cases h1 : (decide (0 ≤ a) && decide (a < A))
  · rw [h1] at HA
    rw [kyE_acc h1]
    clear h1
    go_enter Tryz.func121, Tryz.ntmps121
    go_wp2_with fail
    refine (HA.out _).mono ?_
    rintro e w1 ⟨rfl, hb⟩
    have HB := hide (B0.out.trans (hb.mono B0.out.size))
    clear hb x0 x1 x2 x3 x4 y0 y1
    go_wp2_with fail
    go_ret
    exact ⟨rfl, HB.out⟩
  · rw [h1] at HA
    cases h2 : (decide (0 ≤ s) && decide (s < S))
    all_goals
      rw [h2] at HS
      first | rw [kyE_ass h1 h2] | rw [kyE_ok h1 h2]
      clear h1 h2
      go_enter Tryz.func121, Tryz.ntmps121
      go_wp2_with fail
      refine (HA.out _).mono ?_
      rintro e w1 ⟨rfl, hb⟩
      have HB := hide (B0.out.trans (hb.mono B0.out.size))
      have Z0 := hide (blk_later X0.out.1 hb)
      have Z1 := hide (blk_later X0.out.2 hb)
      clear hb x0 x1 x2 x3 x4 y0 y1
      obtain ⟨x0, x1, x2, x3, x4⟩ := five_cells Z0.out rfl
      obtain ⟨y0, y1⟩ := pair_cells Z1.out rfl
      go_wp2_with fail
      refine (HS.out _).mono ?_
      rintro e w2 ⟨rfl, hb⟩
      have HB2 := hide (HB.out.trans (hb.mono HB.out.size))
      clear hb x0 x1 x2 x3 x4 y0 y1
      go_wp2_with fail
      go_ret
      exact ⟨rfl, HB2.out⟩
theorem idE_t {i : Int} (h : (decide (1 ≤ i) && decide (i ≤ 1099511627776)) = true) : idE i = 0 := if_pos (by simpa using h)
theorem idE_f {i : Int} (h : (decide (1 ≤ i) && decide (i ≤ 1099511627776)) = false) : idE i = 1 := if_neg (by simpa using h)
theorem hdE_t {A S a s q : Int} (h : kyE A S a s = 0) (h2 : decide (q < 1) = true) : hdE A S a s q = 16 := by unfold hdE; rw [if_pos h, if_pos (by simpa using h2)]
theorem hdE_f {A S a s q : Int} (h : kyE A S a s = 0) (h2 : decide (q < 1) = false) : hdE A S a s q = 0 := by unfold hdE; rw [if_pos h, if_neg (by simpa using h2)]
theorem hdE_n {A S a s q : Int} (h : ¬ kyE A S a s = 0) : hdE A S a s q = kyE A S a s := if_neg h
theorem mkE_t {A S a s q n : Int} (h : hdE A S a s q = 0) (h2 : (decide (1 ≤ n) && decide (n ≤ 65536)) = true) : mkE A S a s q n = 0 := by unfold mkE; rw [if_pos h, if_pos (by simpa using h2)]
theorem mkE_f {A S a s q n : Int} (h : hdE A S a s q = 0) (h2 : (decide (1 ≤ n) && decide (n ≤ 65536)) = false) : mkE A S a s q n = 19 := by unfold mkE; rw [if_pos h, if_neg (by simpa using h2)]
theorem mkE_n {A S a s q n : Int} (h : ¬ hdE A S a s q = 0) : mkE A S a s q n = hdE A S a s q := if_neg h
section
variable {A S f t s r n : Int}
theorem lgE_1 (h1 : (decide (0 ≤ f) && decide (f < A)) = false) : lgE A S (f, t, s, r, n) = 14 := by unfold lgE; rw [if_neg (by simpa using h1)]
theorem lgE_2 (h1 : (decide (0 ≤ f) && decide (f < A)) = true) (h2 : (decide (0 ≤ t) && decide (t < A)) = false) : lgE A S (f, t, s, r, n) = 14 := by unfold lgE; rw [if_pos (by simpa using h1), if_neg (by simpa using h2)]
theorem lgE_3 (h1 : (decide (0 ≤ f) && decide (f < A)) = true) (h2 : (decide (0 ≤ t) && decide (t < A)) = true) (h3 : f = t) : lgE A S (f, t, s, r, n) = 17 := by unfold lgE; rw [if_pos (by simpa using h1), if_pos (by simpa using h2), if_pos h3]
theorem lgE_4 (h1 : (decide (0 ≤ f) && decide (f < A)) = true) (h2 : (decide (0 ≤ t) && decide (t < A)) = true) (h3 : ¬ f = t) (h4 : (decide (0 ≤ s) && decide (s < S)) = false) : lgE A S (f, t, s, r, n) = 15 := by unfold lgE; rw [if_pos (by simpa using h1), if_pos (by simpa using h2), if_neg h3, if_neg (by simpa using h4)]
theorem lgE_5 (h1 : (decide (0 ≤ f) && decide (f < A)) = true) (h2 : (decide (0 ≤ t) && decide (t < A)) = true) (h3 : ¬ f = t) (h4 : (decide (0 ≤ s) && decide (s < S)) = true) (h5 : decide (r < 1) = true) : lgE A S (f, t, s, r, n) = 16 := by unfold lgE; rw [if_pos (by simpa using h1), if_pos (by simpa using h2), if_neg h3, if_pos (by simpa using h4), if_pos (by simpa using h5)]
theorem lgE_6 (h1 : (decide (0 ≤ f) && decide (f < A)) = true) (h2 : (decide (0 ≤ t) && decide (t < A)) = true) (h3 : ¬ f = t) (h4 : (decide (0 ≤ s) && decide (s < S)) = true) (h5 : decide (r < 1) = false) (h6 : (decide (0 ≤ n) && decide (n ≤ 65536)) = false) : lgE A S (f, t, s, r, n) = 19 := by unfold lgE; rw [if_pos (by simpa using h1), if_pos (by simpa using h2), if_neg h3, if_pos (by simpa using h4), if_neg (by simpa using h5), if_neg (by simpa using h6)]
theorem lgE_7 (h1 : (decide (0 ≤ f) && decide (f < A)) = true) (h2 : (decide (0 ≤ t) && decide (t < A)) = true) (h3 : ¬ f = t) (h4 : (decide (0 ≤ s) && decide (s < S)) = true) (h5 : decide (r < 1) = false) (h6 : (decide (0 ≤ n) && decide (n ≤ 65536)) = true) : lgE A S (f, t, s, r, n) = 0 := by unfold lgE; rw [if_pos (by simpa using h1), if_pos (by simpa using h2), if_neg h3, if_pos (by simpa using h4), if_neg (by simpa using h5), if_pos (by simpa using h6)]
end
set_option maxRecDepth 100000 in
set_option maxHeartbeats 1000000 in
theorem identified_any (A S q h k cd ac as_ qt nm id : Int) (lv pv : Value) (w : World) :
    Calls Tryz.prog 100 #[.agg #[.int .i64 A, .int .i64 S, .int .i64 q, .int .i64 h, .int .i64 k], .agg #[.int .i64 cd, .int .i64 ac, .int .i64 as_, .int .i64 qt, .int .i64 nm, .int .i64 id, lv, pv]] w fun e w' => e = .returned (errV (idE id)) ∧ Below w.heap.size w w' := by
  have B0 := hide (two_below w (.cells #[.int .i64 A, .int .i64 S, .int .i64 q, .int .i64 h, .int .i64 k] 98) (.cells #[.int .i64 cd, .int .i64 ac, .int .i64 as_, .int .i64 qt, .int .i64 nm, .int .i64 id, lv, pv] 25))
  have X0 := hide (two_new w (.cells #[.int .i64 A, .int .i64 S, .int .i64 q, .int .i64 h, .int .i64 k] 98) (.cells #[.int .i64 cd, .int .i64 ac, .int .i64 as_, .int .i64 qt, .int .i64 nm, .int .i64 id, lv, pv] 25))
  obtain ⟨x0, x1, x2, x3, x4⟩ := five_cells X0.out.1 rfl
  obtain ⟨y0, y1, y2, y3, y4, y5, y6, y7⟩ := eight_cells X0.out.2 rfl
  have HW := hide (fun W : World => within_any id 1 1099511627776 W)
  cases h1 : (decide (1 ≤ id) && decide (id ≤ 1099511627776))
  all_goals
    rw [h1] at HW
    first | rw [idE_t h1] | rw [idE_f h1]
    clear h1
    go_enter Tryz.func100, Tryz.ntmps100
    go_wp2_with fail
    refine (HW.out _).mono ?_
    rintro e w1 ⟨rfl, rfl⟩
    go_wp2_with fail
    go_ret
    exact ⟨rfl, B0.out⟩
set_option maxRecDepth 100000 in
set_option maxHeartbeats 1000000 in
theorem held_any (A S q h k cd ac as_ qt nm id : Int) (lv pv : Value) (w : World) :
    Calls Tryz.prog 91 #[.agg #[.int .i64 A, .int .i64 S, .int .i64 q, .int .i64 h, .int .i64 k], .agg #[.int .i64 cd, .int .i64 ac, .int .i64 as_, .int .i64 qt, .int .i64 nm, .int .i64 id, lv, pv]] w fun e w' => e = .returned (errV (hdE A S ac as_ qt)) ∧ Below w.heap.size w w' := by
  have B0 := hide (two_below w (.cells #[.int .i64 A, .int .i64 S, .int .i64 q, .int .i64 h, .int .i64 k] 98) (.cells #[.int .i64 cd, .int .i64 ac, .int .i64 as_, .int .i64 qt, .int .i64 nm, .int .i64 id, lv, pv] 25))
  have X0 := hide (two_new w (.cells #[.int .i64 A, .int .i64 S, .int .i64 q, .int .i64 h, .int .i64 k] 98) (.cells #[.int .i64 cd, .int .i64 ac, .int .i64 as_, .int .i64 qt, .int .i64 nm, .int .i64 id, lv, pv] 25))
  obtain ⟨x0, x1, x2, x3, x4⟩ := five_cells X0.out.1 rfl
  obtain ⟨y0, y1, y2, y3, y4, y5, y6, y7⟩ := eight_cells X0.out.2 rfl
  have HK := hide (fun W : World => key_any A S q h k ac as_ W)
  have hr := kyE_rng A S ac as_
  by_cases h0 : kyE A S ac as_ = 0
  · cases hq : decide (qt < 1)
    all_goals
      first | rw [hdE_t h0 hq] | rw [hdE_f h0 hq]
      rw [h0, errV_zero] at HK
      clear hr h0
      go_enter Tryz.func91, Tryz.ntmps91
      go_wp2_with fail
      refine (HK.out _).mono ?_
      rintro e w1 ⟨rfl, hb⟩
      have HB := hide (B0.out.trans ((hb).mono B0.out.size))
      have Z0 := hide (blk_later X0.out.1 (hb))
      have Z1 := hide (blk_later X0.out.2 (hb))
      clear hb x0 x1 x2 x3 x4 y0 y1 y2 y3 y4 y5 y6 y7
      obtain ⟨x0, x1, x2, x3, x4⟩ := five_cells Z0.out rfl
      obtain ⟨y0, y1, y2, y3, y4, y5, y6, y7⟩ := eight_cells Z1.out rfl
      go_wp2_with fail
      go_ret
      exact ⟨rfl, HB.out⟩
  · rw [hdE_n h0, errV_pos (by omega)]
    rw [errV_pos (by omega)] at HK
    generalize kyE A S ac as_ = e0 at *
    clear h0 hr
    go_enter Tryz.func91, Tryz.ntmps91
    go_wp2_with fail
    refine (HK.out _).mono ?_
    rintro e w1 ⟨rfl, hb⟩
    have HB := hide (B0.out.trans ((hb).mono B0.out.size))
    have Z0 := hide (blk_later X0.out.1 (hb))
    have Z1 := hide (blk_later X0.out.2 (hb))
    clear hb x0 x1 x2 x3 x4 y0 y1 y2 y3 y4 y5 y6 y7
    obtain ⟨x0, x1, x2, x3, x4⟩ := five_cells Z0.out rfl
    obtain ⟨y0, y1, y2, y3, y4, y5, y6, y7⟩ := eight_cells Z1.out rfl
    go_wp2_with fail
    go_ret
    exact ⟨rfl, HB.out⟩
set_option maxRecDepth 100000 in
set_option maxHeartbeats 1000000 in
theorem marked_any (A S q h k cd ac as_ qt nm id : Int) (lv pv : Value) (w : World) :
    Calls Tryz.prog 94 #[.agg #[.int .i64 A, .int .i64 S, .int .i64 q, .int .i64 h, .int .i64 k], .agg #[.int .i64 cd, .int .i64 ac, .int .i64 as_, .int .i64 qt, .int .i64 nm, .int .i64 id, lv, pv]] w fun e w' => e = .returned (errV (mkE A S ac as_ qt nm)) ∧ Below w.heap.size w w' := by
  have B0 := hide (two_below w (.cells #[.int .i64 A, .int .i64 S, .int .i64 q, .int .i64 h, .int .i64 k] 98) (.cells #[.int .i64 cd, .int .i64 ac, .int .i64 as_, .int .i64 qt, .int .i64 nm, .int .i64 id, lv, pv] 25))
  have X0 := hide (two_new w (.cells #[.int .i64 A, .int .i64 S, .int .i64 q, .int .i64 h, .int .i64 k] 98) (.cells #[.int .i64 cd, .int .i64 ac, .int .i64 as_, .int .i64 qt, .int .i64 nm, .int .i64 id, lv, pv] 25))
  obtain ⟨x0, x1, x2, x3, x4⟩ := five_cells X0.out.1 rfl
  obtain ⟨y0, y1, y2, y3, y4, y5, y6, y7⟩ := eight_cells X0.out.2 rfl
  have HK := hide (fun W : World => held_any A S q h k cd ac as_ qt nm id lv pv W)
  have HW := hide (fun W : World => within_any nm 1 65536 W)
  have hr := hdE_rng A S ac as_ qt
  by_cases h0 : hdE A S ac as_ qt = 0
  · cases hq : (decide (1 ≤ nm) && decide (nm ≤ 65536))
    all_goals
      first | rw [mkE_t h0 hq] | rw [mkE_f h0 hq]
      rw [hq] at HW
      rw [h0, errV_zero] at HK
      clear hr h0 hq
      go_enter Tryz.func94, Tryz.ntmps94
      go_wp2_with fail
      refine (HK.out _).mono ?_
      rintro e w1 ⟨rfl, hb⟩
      have HB := hide (B0.out.trans ((hb).mono B0.out.size))
      have Z0 := hide (blk_later X0.out.1 (hb))
      have Z1 := hide (blk_later X0.out.2 (hb))
      clear hb x0 x1 x2 x3 x4 y0 y1 y2 y3 y4 y5 y6 y7
      obtain ⟨x0, x1, x2, x3, x4⟩ := five_cells Z0.out rfl
      obtain ⟨y0, y1, y2, y3, y4, y5, y6, y7⟩ := eight_cells Z1.out rfl
      go_wp2_with fail
      refine (HW.out _).mono ?_
      rintro e w2 ⟨rfl, rfl⟩
      go_wp2_with fail
      go_ret
      exact ⟨rfl, HB.out⟩
  · rw [mkE_n h0, errV_pos (by omega)]
    rw [errV_pos (by omega)] at HK
    generalize hdE A S ac as_ qt = e0 at *
    clear h0 hr
    go_enter Tryz.func94, Tryz.ntmps94
    go_wp2_with fail
    refine (HK.out _).mono ?_
    rintro e w1 ⟨rfl, hb⟩
    have HB := hide (B0.out.trans ((hb).mono B0.out.size))
    have Z0 := hide (blk_later X0.out.1 (hb))
    have Z1 := hide (blk_later X0.out.2 (hb))
    clear hb x0 x1 x2 x3 x4 y0 y1 y2 y3 y4 y5 y6 y7
    obtain ⟨x0, x1, x2, x3, x4⟩ := five_cells Z0.out rfl
    obtain ⟨y0, y1, y2, y3, y4, y5, y6, y7⟩ := eight_cells Z1.out rfl
    go_wp2_with fail
    go_ret
    exact ⟨rfl, HB.out⟩
set_option maxRecDepth 100000 in
set_option maxHeartbeats 1000000 in
theorem leg_any (A S q h k f t s r n : Int) (w : World) :
    Calls Tryz.prog 122 #[.agg #[.int .i64 A, .int .i64 S, .int .i64 q, .int .i64 h, .int .i64 k], .agg #[.int .i64 f, .int .i64 t, .int .i64 s, .int .i64 r, .int .i64 n]] w fun e w' => e = .returned (errV (lgE A S (f, t, s, r, n))) ∧ Below w.heap.size w w' := by
  have HB0 := hide (two_below w (.cells #[.int .i64 A, .int .i64 S, .int .i64 q, .int .i64 h, .int .i64 k] 98) (.cells #[.int .i64 f, .int .i64 t, .int .i64 s, .int .i64 r, .int .i64 n] 43))
  have X0 := two_new w (.cells #[.int .i64 A, .int .i64 S, .int .i64 q, .int .i64 h, .int .i64 k] 98) (.cells #[.int .i64 f, .int .i64 t, .int .i64 s, .int .i64 r, .int .i64 n] 43)
  have Z0 := hide X0.1
  have U0 := hide X0.2
  clear X0
  obtain ⟨x0, x1, x2, x3, x4⟩ := five_cells Z0.out rfl
  obtain ⟨y0, y1, y2, y3, y4⟩ := five_cells U0.out rfl
  have HF := hide (fun W : World => hasAccount_any A S q h k f W)
  have HT := hide (fun W : World => hasAccount_any A S q h k t W)
  have HA := hide (fun W : World => hasAsset_any A S q h k s W)
  have HW := hide (fun W : World => within_any n 0 65536 W)
  cases h1 : (decide (0 ≤ f) && decide (f < A))
  · rw [h1] at HF
    rw [lgE_1 h1]
    clear h1
    go_enter Tryz.func122, Tryz.ntmps122
    go_wp2_with fail
    refine (HF.out _).mono ?_
    rintro e w1 ⟨rfl, hb⟩
    have HB1 := hide (HB0.out.trans (hb.mono HB0.out.size))
    have Z1 := hide (blk_later Z0.out hb)
    have U1 := hide (blk_later U0.out hb)
    clear hb x0 x1 x2 x3 x4 y0 y1 y2 y3 y4
    obtain ⟨x0, x1, x2, x3, x4⟩ := five_cells Z1.out rfl
    obtain ⟨y0, y1, y2, y3, y4⟩ := five_cells U1.out rfl
    go_wp2_with fail
    go_ret
    exact ⟨rfl, HB1.out⟩
  · rw [h1] at HF
    cases h2 : (decide (0 ≤ t) && decide (t < A))
    · rw [h2] at HT
      rw [lgE_2 h1 h2]
      clear h1 h2
      go_enter Tryz.func122, Tryz.ntmps122
      go_wp2_with fail
      refine (HF.out _).mono ?_
      rintro e w1 ⟨rfl, hb⟩
      have HB1 := hide (HB0.out.trans (hb.mono HB0.out.size))
      have Z1 := hide (blk_later Z0.out hb)
      have U1 := hide (blk_later U0.out hb)
      clear hb x0 x1 x2 x3 x4 y0 y1 y2 y3 y4
      obtain ⟨x0, x1, x2, x3, x4⟩ := five_cells Z1.out rfl
      obtain ⟨y0, y1, y2, y3, y4⟩ := five_cells U1.out rfl
      go_wp2_with fail
      refine (HT.out _).mono ?_
      rintro e w2 ⟨rfl, hb⟩
      have HB2 := hide (HB1.out.trans (hb.mono HB1.out.size))
      have Z2 := hide (blk_later Z1.out hb)
      have U2 := hide (blk_later U1.out hb)
      clear hb x0 x1 x2 x3 x4 y0 y1 y2 y3 y4
      obtain ⟨x0, x1, x2, x3, x4⟩ := five_cells Z2.out rfl
      obtain ⟨y0, y1, y2, y3, y4⟩ := five_cells U2.out rfl
      go_wp2_with fail
      go_ret
      exact ⟨rfl, HB2.out⟩
    · rw [h2] at HT
      by_cases h3 : f = t
      · rw [lgE_3 h1 h2 h3]
        clear h1 h2
        have h4 : (f == t) = true := by rw [beq_iff_eq]; exact h3
        have h5 : decide (f = t) = true := decide_eq_true h3
        clear h3
        go_enter Tryz.func122, Tryz.ntmps122
        go_wp2_with fail
        refine (HF.out _).mono ?_
        rintro e w1 ⟨rfl, hb⟩
        have HB1 := hide (HB0.out.trans (hb.mono HB0.out.size))
        have Z1 := hide (blk_later Z0.out hb)
        have U1 := hide (blk_later U0.out hb)
        clear hb x0 x1 x2 x3 x4 y0 y1 y2 y3 y4
        obtain ⟨x0, x1, x2, x3, x4⟩ := five_cells Z1.out rfl
        obtain ⟨y0, y1, y2, y3, y4⟩ := five_cells U1.out rfl
        go_wp2_with fail
        refine (HT.out _).mono ?_
        rintro e w2 ⟨rfl, hb⟩
        have HB2 := hide (HB1.out.trans (hb.mono HB1.out.size))
        have Z2 := hide (blk_later Z1.out hb)
        have U2 := hide (blk_later U1.out hb)
        clear hb x0 x1 x2 x3 x4 y0 y1 y2 y3 y4
        obtain ⟨x0, x1, x2, x3, x4⟩ := five_cells Z2.out rfl
        obtain ⟨y0, y1, y2, y3, y4⟩ := five_cells U2.out rfl
        go_wp2_with fail
        go_ret
        exact ⟨rfl, HB2.out⟩
      · have h4 : (f == t) = false := by rw [beq_eq_false_iff_ne]; exact h3
        have h5 : decide (f = t) = false := decide_eq_false h3
        cases h6 : (decide (0 ≤ s) && decide (s < S))
        · rw [h6] at HA
          rw [lgE_4 h1 h2 h3 h6]
          clear h1 h2 h3 h6
          go_enter Tryz.func122, Tryz.ntmps122
          go_wp2_with fail
          refine (HF.out _).mono ?_
          rintro e w1 ⟨rfl, hb⟩
          have HB1 := hide (HB0.out.trans (hb.mono HB0.out.size))
          have Z1 := hide (blk_later Z0.out hb)
          have U1 := hide (blk_later U0.out hb)
          clear hb x0 x1 x2 x3 x4 y0 y1 y2 y3 y4
          obtain ⟨x0, x1, x2, x3, x4⟩ := five_cells Z1.out rfl
          obtain ⟨y0, y1, y2, y3, y4⟩ := five_cells U1.out rfl
          go_wp2_with fail
          refine (HT.out _).mono ?_
          rintro e w2 ⟨rfl, hb⟩
          have HB2 := hide (HB1.out.trans (hb.mono HB1.out.size))
          have Z2 := hide (blk_later Z1.out hb)
          have U2 := hide (blk_later U1.out hb)
          clear hb x0 x1 x2 x3 x4 y0 y1 y2 y3 y4
          obtain ⟨x0, x1, x2, x3, x4⟩ := five_cells Z2.out rfl
          obtain ⟨y0, y1, y2, y3, y4⟩ := five_cells U2.out rfl
          go_wp2_with fail
          refine (HA.out _).mono ?_
          rintro e w3 ⟨rfl, hb⟩
          have HB3 := hide (HB2.out.trans (hb.mono HB2.out.size))
          have Z3 := hide (blk_later Z2.out hb)
          have U3 := hide (blk_later U2.out hb)
          clear hb x0 x1 x2 x3 x4 y0 y1 y2 y3 y4
          obtain ⟨x0, x1, x2, x3, x4⟩ := five_cells Z3.out rfl
          obtain ⟨y0, y1, y2, y3, y4⟩ := five_cells U3.out rfl
          go_wp2_with fail
          go_ret
          exact ⟨rfl, HB3.out⟩
        · rw [h6] at HA
          cases h7 : decide (r < 1)
          · cases h8 : (decide (0 ≤ n) && decide (n ≤ 65536))
            all_goals
              rw [h8] at HW
              first | rw [lgE_6 h1 h2 h3 h6 h7 h8] | rw [lgE_7 h1 h2 h3 h6 h7 h8]
              clear h1 h2 h3 h6 h8
              go_enter Tryz.func122, Tryz.ntmps122
              go_wp2_with fail
              refine (HF.out _).mono ?_
              rintro e w1 ⟨rfl, hb⟩
              have HB1 := hide (HB0.out.trans (hb.mono HB0.out.size))
              have Z1 := hide (blk_later Z0.out hb)
              have U1 := hide (blk_later U0.out hb)
              clear hb x0 x1 x2 x3 x4 y0 y1 y2 y3 y4
              obtain ⟨x0, x1, x2, x3, x4⟩ := five_cells Z1.out rfl
              obtain ⟨y0, y1, y2, y3, y4⟩ := five_cells U1.out rfl
              go_wp2_with fail
              refine (HT.out _).mono ?_
              rintro e w2 ⟨rfl, hb⟩
              have HB2 := hide (HB1.out.trans (hb.mono HB1.out.size))
              have Z2 := hide (blk_later Z1.out hb)
              have U2 := hide (blk_later U1.out hb)
              clear hb x0 x1 x2 x3 x4 y0 y1 y2 y3 y4
              obtain ⟨x0, x1, x2, x3, x4⟩ := five_cells Z2.out rfl
              obtain ⟨y0, y1, y2, y3, y4⟩ := five_cells U2.out rfl
              go_wp2_with fail
              refine (HA.out _).mono ?_
              rintro e w3 ⟨rfl, hb⟩
              have HB3 := hide (HB2.out.trans (hb.mono HB2.out.size))
              have Z3 := hide (blk_later Z2.out hb)
              have U3 := hide (blk_later U2.out hb)
              clear hb x0 x1 x2 x3 x4 y0 y1 y2 y3 y4
              obtain ⟨x0, x1, x2, x3, x4⟩ := five_cells Z3.out rfl
              obtain ⟨y0, y1, y2, y3, y4⟩ := five_cells U3.out rfl
              go_wp2_with fail
              refine (HW.out _).mono ?_
              rintro e w9 ⟨rfl, rfl⟩
              go_wp2_with fail
              go_ret
              exact ⟨rfl, HB3.out⟩
          · rw [lgE_5 h1 h2 h3 h6 h7]
            clear h1 h2 h3 h6
            go_enter Tryz.func122, Tryz.ntmps122
            go_wp2_with fail
            refine (HF.out _).mono ?_
            rintro e w1 ⟨rfl, hb⟩
            have HB1 := hide (HB0.out.trans (hb.mono HB0.out.size))
            have Z1 := hide (blk_later Z0.out hb)
            have U1 := hide (blk_later U0.out hb)
            clear hb x0 x1 x2 x3 x4 y0 y1 y2 y3 y4
            obtain ⟨x0, x1, x2, x3, x4⟩ := five_cells Z1.out rfl
            obtain ⟨y0, y1, y2, y3, y4⟩ := five_cells U1.out rfl
            go_wp2_with fail
            refine (HT.out _).mono ?_
            rintro e w2 ⟨rfl, hb⟩
            have HB2 := hide (HB1.out.trans (hb.mono HB1.out.size))
            have Z2 := hide (blk_later Z1.out hb)
            have U2 := hide (blk_later U1.out hb)
            clear hb x0 x1 x2 x3 x4 y0 y1 y2 y3 y4
            obtain ⟨x0, x1, x2, x3, x4⟩ := five_cells Z2.out rfl
            obtain ⟨y0, y1, y2, y3, y4⟩ := five_cells U2.out rfl
            go_wp2_with fail
            refine (HA.out _).mono ?_
            rintro e w3 ⟨rfl, hb⟩
            have HB3 := hide (HB2.out.trans (hb.mono HB2.out.size))
            have Z3 := hide (blk_later Z2.out hb)
            have U3 := hide (blk_later U2.out hb)
            clear hb x0 x1 x2 x3 x4 y0 y1 y2 y3 y4
            obtain ⟨x0, x1, x2, x3, x4⟩ := five_cells Z3.out rfl
            obtain ⟨y0, y1, y2, y3, y4⟩ := five_cells U3.out rfl
            go_wp2_with fail
            go_ret
            exact ⟨rfl, HB3.out⟩
end Go.Proofs.YtdjhbecbbmdimaaGreatDoor
namespace Go.Proofs.YtdjhbecbbmdimaaGreatDoor
open Go.RowKit

theorem below_row {B g : Nat} {a w : World} {cs : Array Value} (h : Below B a w) (hg : B ≤ g) : Below B a (w.setRow g cs) :=
  ⟨h.os, h.tape, h.output, by rw [setRow_size]; exact h.size, fun b hb => (setRow_other w g b cs (by omega)).trans (h.block b hb)⟩
/-- The table's cells. -/
def fmC : Array Value := #[.int .i64 0, .int .i64 0, .nilFunc, .nilFunc, .nilFunc, .int .i64 3, .int .i64 0, .func (.func 89) #[] #[], .func (.func 90) #[] #[], .func (.func 91) #[] #[], .int .i64 3, .int .i64 0, .func (.func 89) #[] #[], .func (.func 90) #[] #[], .func (.func 91) #[] #[], .int .i64 4, .int .i64 0, .func (.func 92) #[] #[], .func (.func 93) #[] #[], .func (.func 94) #[] #[], .int .i64 4, .int .i64 0, .func (.func 92) #[] #[], .func (.func 93) #[] #[], .func (.func 94) #[] #[], .int .i64 1, .int .i64 5, .func (.func 95) #[] #[], .func (.func 96) #[] #[], .func (.func 97) #[] #[], .int .i64 1, .int .i64 0, .func (.func 98) #[] #[], .func (.func 99) #[] #[], .func (.func 100) #[] #[], .int .i64 1, .int .i64 0, .func (.func 98) #[] #[], .func (.func 99) #[] #[], .func (.func 100) #[] #[], .int .i64 0, .int .i64 2, .func (.func 101) #[] #[], .func (.func 102) #[] #[], .func (.func 103) #[] #[]]
def fmZ : Array Value := #[.int .i64 0, .int .i64 0, .nilFunc, .nilFunc, .nilFunc, .int .i64 0, .int .i64 0, .nilFunc, .nilFunc, .nilFunc, .int .i64 0, .int .i64 0, .nilFunc, .nilFunc, .nilFunc, .int .i64 0, .int .i64 0, .nilFunc, .nilFunc, .nilFunc, .int .i64 0, .int .i64 0, .nilFunc, .nilFunc, .nilFunc, .int .i64 0, .int .i64 0, .nilFunc, .nilFunc, .nilFunc, .int .i64 0, .int .i64 0, .nilFunc, .nilFunc, .nilFunc, .int .i64 0, .int .i64 0, .nilFunc, .nilFunc, .nilFunc, .int .i64 0, .int .i64 0, .nilFunc, .nilFunc, .nilFunc]
set_option maxRecDepth 100000 in
set_option maxHeartbeats 2000000 in
theorem forms_any (w : World) :
    Calls Tryz.prog 68 #[] w fun e w' => e = .returned (.agg fmC) ∧ Below w.heap.size w w' := by
  go_enter Tryz.func68, Tryz.ntmps68
  go_wp2_with (first
    | (refine wpList_store_row rfl 126 _ _ rfl w.heap.size fmC rfl rfl 126 fmZ ?s1 ?s2 ?s3 ?s4 ?_)
    | go_in)
  case s1 => exact alloc_new w _
  case s2 => kernel_rfl
  case s3 => rfl
  case s4 => kernel_rfl
  have hW : (w.alloc (.cells fmZ 126)).setRow w.heap.size fmC = w.alloc (.cells fmC 126) := World.setRow_alloc_new _ _ _ _
  unfold fmZ at hW
  rw [hW]
  refine bodyPost_ret (v := .agg fmC) ?_ rfl ⟨rfl, (Below.refl w.heap.size w).alloc (Nat.le_refl _) _⟩
  exact results_cell_row rfl _ _ w.heap.size 126 fmC (0, 0) _ rfl (alloc_new w _) Tryz.underlying126 rfl (by kernel_rfl)
/-- A code's form. -/
def fmV (c : Nat) : Value := .agg (fmC.extract (c * 5) (c * 5 + 5))
theorem index_form (c : Nat) (h1 : 1 ≤ c) (h2 : c ≤ 8) (W : World) : (Instr.index 126 (.agg fmC) (.int .i64 (c : Int))).run Tryz.prog W = .ok (fmV c) W := by
  obtain rfl | rfl | rfl | rfl | rfl | rfl | rfl | rfl : c = 1 ∨ c = 2 ∨ c = 3 ∨ c = 4 ∨ c = 5 ∨ c = 6 ∨ c = 7 ∨ c = 8 := by omega
  all_goals kernel_rfl
/-- A form as five cells. -/
theorem fmV_size (c : Nat) (h2 : c ≤ 8) : (fmC.extract (c * 5) (c * 5 + 5)).size = 5 ∧ (fmC.extract (c * 5) (c * 5 + 5)).all (·.oneCell') = true := by
  obtain rfl | rfl | rfl | rfl | rfl | rfl | rfl | rfl | rfl : c = 0 ∨ c = 1 ∨ c = 2 ∨ c = 3 ∨ c = 4 ∨ c = 5 ∨ c = 6 ∨ c = 7 ∨ c = 8 := by omega
  all_goals exact ⟨by kernel_rfl, by kernel_rfl⟩
set_option maxRecDepth 100000 in
set_option maxHeartbeats 2000000 in
theorem formOf_any (c : Nat) (w : World) (h1 : 1 ≤ c) (h2 : c ≤ 8) :
    Calls Tryz.prog 46 #[.int .i64 (c : Int)] w fun e w' => e = .returned (.tuple #[fmV c, .bool true]) ∧ Below w.heap.size w w' := by
  have HW := hide (fun W : World => within_any (c : Int) 1 8 W)
  rw [show (decide (1 ≤ (c : Int)) && decide ((c : Int) ≤ 8)) = true by simp; omega] at HW
  have HF := hide (fun W : World => forms_any W)
  go_enter Tryz.func46, Tryz.ntmps46
  go_wp2_with fail
  refine (HW.out _).mono ?_
  rintro e w1 ⟨rfl, rfl⟩
  go_wp2_with fail
  refine (HF.out _).mono ?_
  rintro e w2 ⟨rfl, hb⟩
  have HI := index_form c h1 h2
  have hs := fmV_size c h2
  have HB1 := hide (((Below.refl w.heap.size w).alloc (Nat.le_refl _) (.cells #[.int .i64 0, .int .i64 0, .nilFunc, .nilFunc, .nilFunc] 95)).trans (hb.mono (by simp)))
  have Z := hide (blk_later (alloc_new w (.cells #[.int .i64 0, .int .i64 0, .nilFunc, .nilFunc, .nilFunc] 95)) hb)
  have HV : fmV c = .agg (fmC.extract (c * 5) (c * 5 + 5)) := rfl
  rw [HV] at HI
  generalize (fmC.extract (c * 5) (c * 5 + 5)) = fc at *
  clear hb
  go_wp2_with (first
    | (refine wpList_store_row rfl 95 _ _ rfl w.heap.size fc rfl rfl 95 _ Z.out ?s2 ?s3 ?s4 ?_)
    | go_in)
  case s2 => rw [hs.1]; kernel_rfl
  case s3 => rw [hs.1]; rfl
  case s4 => exact hs.2
  have hld : (loadVar 95 ⟨w.heap.size, 0, none⟩).run Tryz.prog (w2.setRow w.heap.size fc) = .ok (.agg fc) (w2.setRow w.heap.size fc) := run_loadVar_row _ _ 95 _ fc (0, 0) _ (setRow_heap _ _ _ _ _ _ Z.out) Tryz.underlying95 rfl (by rw [hs.1]; kernel_rfl)
  refine bodyPost_ret (v := .tuple #[.agg fc, .bool true]) ?_ rfl ⟨by rw [HV], below_row HB1.out (Nat.le_refl _)⟩
  rw [results_cell_tmp rfl]
  simp [asAddr, Result.andThen, hld]
set_option maxRecDepth 100000 in
set_option maxHeartbeats 2000000 in
theorem formOf_bad (c : Int) (w : World) (h : ¬ (1 ≤ c ∧ c ≤ 8)) :
    Calls Tryz.prog 46 #[.int .i64 c] w fun e w' => e = .returned (.tuple #[.agg #[.int .i64 0, .int .i64 0, .nilFunc, .nilFunc, .nilFunc], .bool false]) ∧ Below w.heap.size w w' := by
  have HW := hide (fun W : World => within_any c 1 8 W)
  rw [show (decide (1 ≤ c) && decide (c ≤ 8)) = false by simp; omega] at HW
  clear h
  have Z := hide (alloc_new w (.cells #[.int .i64 0, .int .i64 0, .nilFunc, .nilFunc, .nilFunc] 95))
  have B0 := hide ((Below.refl w.heap.size w).alloc (Nat.le_refl _) (.cells #[.int .i64 0, .int .i64 0, .nilFunc, .nilFunc, .nilFunc] 95))
  go_enter Tryz.func46, Tryz.ntmps46
  go_wp2_with fail
  refine (HW.out _).mono ?_
  rintro e w1 ⟨rfl, rfl⟩
  generalize w.alloc (.cells #[.int .i64 0, .int .i64 0, .nilFunc, .nilFunc, .nilFunc] 95) = W at *
  go_wp2_with (first
    | (refine wpList_store_row rfl 95 _ _ rfl w.heap.size #[.int .i64 0, .int .i64 0, .nilFunc, .nilFunc, .nilFunc] rfl rfl 95 _ Z.out ?s2 ?s3 ?s4 ?_)
    | go_in)
  case s2 => kernel_rfl
  case s3 => rfl
  case s4 => kernel_rfl
  have hld : (loadVar 95 ⟨w.heap.size, 0, none⟩).run Tryz.prog (W.setRow w.heap.size #[.int .i64 0, .int .i64 0, .nilFunc, .nilFunc, .nilFunc]) = .ok (.agg #[.int .i64 0, .int .i64 0, .nilFunc, .nilFunc, .nilFunc]) (W.setRow w.heap.size #[.int .i64 0, .int .i64 0, .nilFunc, .nilFunc, .nilFunc]) := run_loadVar_row _ _ 95 _ #[.int .i64 0, .int .i64 0, .nilFunc, .nilFunc, .nilFunc] (0, 0) _ (setRow_heap _ _ _ _ _ _ Z.out) Tryz.underlying95 rfl (by kernel_rfl)
  refine bodyPost_ret (v := .tuple #[.agg #[.int .i64 0, .int .i64 0, .nilFunc, .nilFunc, .nilFunc], .bool false]) ?_ rfl ⟨rfl, below_row B0.out (Nat.le_refl _)⟩
  rw [results_cell_tmp rfl]
  simp [asAddr, Result.andThen, hld]
end Go.Proofs.YtdjhbecbbmdimaaGreatDoor
