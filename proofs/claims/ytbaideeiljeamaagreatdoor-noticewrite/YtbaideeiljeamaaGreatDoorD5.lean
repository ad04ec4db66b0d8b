/-
  My own text: D3, D4, D5 in one.
-/
import Derived.Test.YtbaideeiljeamaaGreatDoorD2
import Derived.Test.YtbaideeiljeamaaGreatDoorRow
namespace Go.Proofs.YtbaideeiljeamaaGreatDoor
open Go.RowKit

theorem ret_ii {a b c d : Int} (h : a = c) (h' : b = d) : Ending.returned (.tuple #[.int .i64 a, .int .i64 b]) = .returned (.tuple #[.int .i64 c, .int .i64 d]) := by rw [h, h']
def dateO (y m d : Int) : Obj := .cells #[.int .i64 y, .int .i64 m, .int .i64 d] 108
theorem below_date (w : World) (y m d : Int) : Below w.heap.size w (w.alloc (dateO y m d)) := (Below.refl w.heap.size w).alloc (Nat.le_refl _) _
set_option maxHeartbeats 1000000 in
theorem number_any (y m d : Int) (w : World) (HM : Hid (MDays w)) (hR : RightD y m d) (hy : y ≤ 9999) :
    Calls Tryz.prog 120 #[dateV y m d] w fun e w' => e = .returned (.int .i64 (numI y m d)) ∧ Below w.heap.size w w' := by
  obtain ⟨y1, m1, m2, d1, d2⟩ := hR
  have hd := (mdays_b y m).2
  have hd3 : d ≤ 31 := by omega
  clear d2 hd
  unfold dateV
  have hB : Hid (Below w.heap.size w (w.alloc (.cells #[.int .i64 y, .int .i64 m, .int .i64 d] 108))) := hide (below_date w y m d)
  have HD := hide (fun W : World => daysAhead_any y W y1 (by omega))
  have ha := aheadY_b y1 (show y ≤ 10000 by omega)
  have HN : Hid (numI y m d = aheadY y + aheadM y m + d) := hide rfl
  obtain ⟨a, HA⟩ : ∃ a, Hid (aheadY y = a) := ⟨_, hide rfl⟩
  rw [HA.out] at HD ha HN
  obtain ⟨a0, a1⟩ := ha
  go_enter Tryz.func120, Tryz.ntmps120
  go_wp2
  go_quiet (first | (go_at_call 130; exact Calls.quiet_of_same (HD.out _)))
  go_wp2
  go_loop [3, 4] (fun n i => ∃ (k x : Int), 1 ≤ k ∧ k ≤ m ∧ i = .int .i64 k ∧ n = .int .i64 x ∧ Hid (x = a + aheadM y k + d) ∧ 0 ≤ x ∧ x ≤ 4000000) (fun _ i => (m - intOf i).toNat)
  case atStart => exact ⟨1, a + d, by omega, m1, rfl, rfl, (show _ = _ by rw [aheadM_one]; omega), by omega, by omega⟩
  case round =>
    obtain ⟨k, x, k1, k2, rfl, rfl, HX, x0, x1⟩ := hrel
    by_cases hlt : k < m
    · have HL := hide (fun (W : World) (h : MDays W) => lengthOf_any y k W h (by omega) k1 (by omega))
      have hb := mdays_b y k
      have HS := hide (aheadM_succ y k1 (by omega))
      have HB2 := hide (aheadM_b y (m := k + 1) (by omega) (by omega))
      have HY := hide (ydays_b y)
      obtain ⟨t, HT⟩ : ∃ t, Hid (mdays y k = t) := ⟨_, hide rfl⟩
      rw [HT.out] at HL hb HS
      obtain ⟨b0, b1⟩ := hb
      go_wp2_with (go_at_call 131; refine (HL.out _ (HM.out.below (below_drewN hB.out _))).mono ?_; rintro e w' ⟨rfl, rfl⟩)
      go_round
      case rel => exact ⟨k + 1, x + t, by omega, by omega, by go_num, by go_num, (show _ = _ by rw [HS.out, HX.out]; omega), by omega, by have := HB2.out; have := HY.out; have := HS.out; have := HX.out; have := mdays_b y (k + 1); omega⟩
      case measure => simp [intOf]; omega
    · have e : k = m := by omega
      subst e
      go_wp2
      go_ret
      exact ⟨ret_i (by rw [HX.out, HN.out]), below_drewN hB.out _⟩
def numV (y m d : Int) : Int := if rightB y m d then numI y m d else 0
def numE (y m d : Int) : Int := if rightB y m d then 0 else 8
theorem num_bad {y m d : Int} (h : rightB y m d = false) : numV y m d = 0 ∧ numE y m d = 8 := by unfold numV numE; rw [h]; exact ⟨rfl, rfl⟩
theorem num_ok {y m d : Int} (h : rightB y m d = true) : numV y m d = numI y m d ∧ numE y m d = 0 := by unfold numV numE; rw [h]; exact ⟨rfl, rfl⟩
set_option maxHeartbeats 1000000 in
theorem Number_any (y m d : Int) (w : World) (HM : Hid (MDays w)) :
    Calls Tryz.prog 94 #[dateV y m d] w fun e w' => e = .returned (.tuple #[.int .i64 (numV y m d), errV (numE y m d)]) ∧ Below w.heap.size w w' := by
  have HR := hide (fun (W : World) (h : Hid (MDays W)) => isDate_any y m d W h)
  have hB : Hid (Below w.heap.size w (w.alloc (.cells #[.int .i64 y, .int .i64 m, .int .i64 d] 108))) := hide (below_date w y m d)
  cases hr : rightB y m d
  · rw [hr] at HR
    rw [(num_bad hr).1, (num_bad hr).2]
    clear hr
    unfold dateV at HR ⊢
    go_enter Tryz.func94, Tryz.ntmps94
    go_wp2_with fail
    refine (HR.out _ (hide (HM.out.below hB.out))).mono ?_
    rintro e w1 ⟨rfl, hb1⟩
    go_wp2_with fail
    go_ret2
    exact ⟨rfl, hB.out.trans (hb1.mono hB.out.size)⟩
  · rw [hr] at HR
    rw [(num_ok hr).1, (num_ok hr).2]
    obtain ⟨hR, y2⟩ := (rightB_iff _ _ _).1 hr
    have HC := hide (fun (W : World) (h : Hid (MDays W)) => number_any y m d W h hR y2)
    clear hr hR y2
    unfold dateV at HR HC ⊢
    have hw : ∀ o, (w.alloc (.cells #[.int .i64 y, .int .i64 m, .int .i64 d] 108)).cell? ⟨w.heap.size, o, none⟩ = (#[.int .i64 y, .int .i64 m, .int .i64 d] : Array Value)[o]? := by intro o; simp
    go_enter Tryz.func94, Tryz.ntmps94
    go_wp2_with fail
    refine (HR.out _ (hide (HM.out.below hB.out))).mono ?_
    rintro e w1 ⟨rfl, hb1⟩
    have hB1 := hide (hB.out.trans (hb1.mono hB.out.size))
    have c0 : w1.cell? ⟨w.heap.size, 0, none⟩ = some (.int .i64 y) := (hb1.cell (p := ⟨w.heap.size, 0, none⟩) (by simp)).trans (hw 0)
    have c1 : w1.cell? ⟨w.heap.size, 1, none⟩ = some (.int .i64 m) := (hb1.cell (p := ⟨w.heap.size, 1, none⟩) (by simp)).trans (hw 1)
    have c2 : w1.cell? ⟨w.heap.size, 2, none⟩ = some (.int .i64 d) := (hb1.cell (p := ⟨w.heap.size, 2, none⟩) (by simp)).trans (hw 2)
    clear hb1 hw hB
    go_wp2_with fail
    refine (HC.out _ (hide (HM.out.below hB1.out))).mono ?_
    rintro e w2 ⟨rfl, hb2⟩
    have hB2 := hide (hB1.out.trans (hb2.mono hB1.out.size))
    clear hB1 hb2 c0 c1 c2
    go_wp2_with fail
    go_ret2
    exact ⟨rfl, hB2.out⟩
end Go.Proofs.YtbaideeiljeamaaGreatDoor
namespace Go.Proofs.YtbaideeiljeamaaGreatDoor
open Go.RowKit

theorem ret_date {a b c a' b' c' : Int} (h1 : a = a') (h2 : b = b') (h3 : c = c') : Ending.returned (.agg #[.int .i64 a, .int .i64 b, .int .i64 c]) = .returned (dateV a' b' c') := by rw [h1, h2, h3]; rfl
theorem month_next {Y r k x : Int} (h : x = r - aheadM Y k) (hb : r ≤ ydays Y) (k1 : 1 ≤ k) (k2 : k ≤ 12) (hx : mdays Y k < x) : k < 12 := by
  by_cases e : k = 12
  · subst e
    have h1 := aheadM_succ Y (m := 12) (by omega) (by omega)
    have h2 := aheadM_last Y
    rw [show (12 : Int) + 1 = 13 from rfl] at h1
    omega
  · omega
theorem date_is {n Y k x : Int} (h1 : 1 ≤ n) (y1 : 1 ≤ Y) (k1 : 1 ≤ k) (k2 : k ≤ 12) (x1 : 1 ≤ x) (x2 : x ≤ mdays Y k) (h : x = n - aheadY Y - aheadM Y k) : yearI n = Y ∧ monthI n = k ∧ dayI n = x :=
  dateI_of ⟨y1, k1, k2, x1, x2⟩ (by unfold numI; omega) h1
theorem guess_b {n : Int} (h1 : 1 ≤ n) (h2 : n ≤ 3652059) : 0 ≤ (n - 1) * 400 / 146097 ∧ (n - 1) * 400 / 146097 ≤ 9998 := by omega

set_option maxHeartbeats 1000000 in
theorem dateOf_any (n : Int) (w : World) (HM : Hid (MDays w)) (h1 : 1 ≤ n) (h2 : n ≤ 3652059) :
    Calls Tryz.prog 115 #[.int .i64 n] w fun e w' => e = .returned (dateV (yearI n) (monthI n) (dayI n)) ∧ Below w.heap.size w w' := by
  have HG := hide (guess h1)
  have hq := guess_b h1 h2
  have hB : Hid (Below w.heap.size w (w.alloc (.cells #[.int .i64 0, .int .i64 0, .int .i64 0] 108))) := hide (below_date w 0 0 0)
  obtain ⟨q, HQ⟩ : ∃ q, Hid ((n - 1) * 400 / 146097 = q) := ⟨_, hide rfl⟩
  rw [HQ.out] at HG hq
  obtain ⟨q0, q1⟩ := hq
  go_enter Tryz.func115, Tryz.ntmps115
  go_wp2_with fail
  rw [HQ.out]
  refine (daysAhead_any (q + 1 + 1) _ (by omega) (by omega)).mono ?_
  rintro e w' ⟨rfl, rfl⟩
  by_cases hc : aheadY (q + 1 + 1) < n
  · have HA := hide hc
    obtain ⟨a, HAE⟩ : ∃ a, Hid (aheadY (q + 1 + 1) = a) := ⟨_, hide rfl⟩
    rw [HAE.out] at hc ⊢
    go_wp2_with fail
    refine (daysAhead_any (q + 1 + 1) _ (by omega) (by omega)).mono ?_
    rintro e w' ⟨rfl, rfl⟩
    have HB2 := hide (aheadM_last (q + 1 + 1))
    have hyd := ydays_b (q + 1 + 1)
    have HS2 := hide (aheadY_succ (q + 1 + 1))
    have HYE := hide (fun (k x : Int) => date_is (n := n) (Y := q + 1 + 1) (k := k) (x := x) h1 (by omega))
    have HMN := hide (fun (r k x : Int) => month_next (Y := q + 1 + 1) (r := r) (k := k) (x := x))
    have hb := hide (show aheadY (q + 1 + 1) < n ∧ n - aheadY (q + 1 + 1) ≤ ydays (q + 1 + 1) by have := HG.out; have := HS2.out; have := HA.out; omega)
    obtain ⟨b, HBE⟩ : ∃ b, Hid (aheadY (q + 1 + 1) = b) := ⟨_, hide rfl⟩
    rw [HBE.out] at hb HYE ⊢
    obtain ⟨u, HUE⟩ : ∃ u, Hid (ydays (q + 1 + 1) = u) := ⟨_, hide rfl⟩
    rw [HUE.out] at hb hyd HMN
    obtain ⟨hb1, hb2⟩ := hb.out
    have hb0 := hide (aheadY_b (y := q + 1 + 1) (by omega) (by omega))
    rw [HBE.out] at hb0
    obtain ⟨b0, b9⟩ := hb0.out
    go_wp2_with fail
    go_loop [4, 5] (fun dd i => ∃ (k x : Int), 1 ≤ k ∧ k ≤ 12 ∧ i = .int .i64 k ∧ dd = .int .i64 x ∧ Hid (x = n - b - aheadM (q + 1 + 1) k) ∧ 1 ≤ x ∧ x ≤ 366) (fun _ i => (13 - intOf i).toNat)
    case atStart => exact ⟨1, n - b, by omega, by omega, rfl, rfl, (show _ = _ by rw [aheadM_one]; omega), by omega, by omega⟩
    case round =>
      obtain ⟨k, x, k1, k2, rfl, rfl, HX, x1, x2⟩ := hrel
      have HL := hide (fun (W : World) (h : MDays W) => lengthOf_any (q + 1 + 1) k W h (by omega) k1 k2)
      have ht := mdays_b (q + 1 + 1) k
      have HS := hide (aheadM_succ (q + 1 + 1) k1 k2)
      have HN := hide (HMN.out (n - b) k x)
      have HD := hide (HYE.out k x k1 k2 x1)
      obtain ⟨t, HT⟩ : ∃ t, Hid (mdays (q + 1 + 1) k = t) := ⟨_, hide rfl⟩
      rw [HT.out] at HL ht HS HN HD
      obtain ⟨t0, t1⟩ := ht
      by_cases hlt : t < x
      · have hk : k < 12 := HN.out HX.out hb2 k1 k2 hlt
        go_wp2_with (go_at_call 131; refine (HL.out _ (HM.out.below hB.out)).mono ?_; rintro e w' ⟨rfl, rfl⟩)
        go_round
        case rel => exact ⟨k + 1, x - t, by omega, by omega, by go_num, by go_num, (show _ = _ by rw [HS.out, HX.out]; omega), by omega, by omega⟩
        case measure => simp [intOf]; omega
      · go_wp2_with (go_at_call 131; refine (HL.out _ (HM.out.below hB.out)).mono ?_; rintro e w' ⟨rfl, rfl⟩)
        obtain ⟨e1, e2, e3⟩ := HD.out (by omega) HX.out
        exact bodyPost_ret (v := .agg #[.int .i64 (q + 1 + 1), .int .i64 k, .int .i64 x]) (by simp [results, Tryz.results115, go_sem]) rfl ⟨ret_date e1.symm e2.symm e3.symm, below_date w _ _ _⟩
  · have HA := hide hc
    obtain ⟨a, HAE⟩ : ∃ a, Hid (aheadY (q + 1 + 1) = a) := ⟨_, hide rfl⟩
    rw [HAE.out] at hc ⊢
    go_wp2_with fail
    refine (daysAhead_any (q + 1) _ (by omega) (by omega)).mono ?_
    rintro e w' ⟨rfl, rfl⟩
    have HB2 := hide (aheadM_last (q + 1))
    have hyd := ydays_b (q + 1)
    have HS2 := hide (aheadY_succ (q + 1))
    have HYE := hide (fun (k x : Int) => date_is (n := n) (Y := q + 1) (k := k) (x := x) h1 (by omega))
    have HMN := hide (fun (r k x : Int) => month_next (Y := q + 1) (r := r) (k := k) (x := x))
    have hb := hide (show aheadY (q + 1) < n ∧ n - aheadY (q + 1) ≤ ydays (q + 1) by have := HG.out; have := HS2.out; have := HA.out; omega)
    obtain ⟨b, HBE⟩ : ∃ b, Hid (aheadY (q + 1) = b) := ⟨_, hide rfl⟩
    rw [HBE.out] at hb HYE ⊢
    obtain ⟨u, HUE⟩ : ∃ u, Hid (ydays (q + 1) = u) := ⟨_, hide rfl⟩
    rw [HUE.out] at hb hyd HMN
    obtain ⟨hb1, hb2⟩ := hb.out
    have hb0 := hide (aheadY_b (y := q + 1) (by omega) (by omega))
    rw [HBE.out] at hb0
    obtain ⟨b0, b9⟩ := hb0.out
    go_wp2_with fail
    go_loop [4, 5] (fun dd i => ∃ (k x : Int), 1 ≤ k ∧ k ≤ 12 ∧ i = .int .i64 k ∧ dd = .int .i64 x ∧ Hid (x = n - b - aheadM (q + 1) k) ∧ 1 ≤ x ∧ x ≤ 366) (fun _ i => (13 - intOf i).toNat)
    case atStart => exact ⟨1, n - b, by omega, by omega, rfl, rfl, (show _ = _ by rw [aheadM_one]; omega), by omega, by omega⟩
    case round =>
      obtain ⟨k, x, k1, k2, rfl, rfl, HX, x1, x2⟩ := hrel
      have HL := hide (fun (W : World) (h : MDays W) => lengthOf_any (q + 1) k W h (by omega) k1 k2)
      have ht := mdays_b (q + 1) k
      have HS := hide (aheadM_succ (q + 1) k1 k2)
      have HN := hide (HMN.out (n - b) k x)
      have HD := hide (HYE.out k x k1 k2 x1)
      obtain ⟨t, HT⟩ : ∃ t, Hid (mdays (q + 1) k = t) := ⟨_, hide rfl⟩
      rw [HT.out] at HL ht HS HN HD
      obtain ⟨t0, t1⟩ := ht
      by_cases hlt : t < x
      · have hk : k < 12 := HN.out HX.out hb2 k1 k2 hlt
        go_wp2_with (go_at_call 131; refine (HL.out _ (HM.out.below hB.out)).mono ?_; rintro e w' ⟨rfl, rfl⟩)
        go_round
        case rel => exact ⟨k + 1, x - t, by omega, by omega, by go_num, by go_num, (show _ = _ by rw [HS.out, HX.out]; omega), by omega, by omega⟩
        case measure => simp [intOf]; omega
      · go_wp2_with (go_at_call 131; refine (HL.out _ (HM.out.below hB.out)).mono ?_; rintro e w' ⟨rfl, rfl⟩)
        obtain ⟨e1, e2, e3⟩ := HD.out (by omega) HX.out
        exact bodyPost_ret (v := .agg #[.int .i64 (q + 1), .int .i64 k, .int .i64 x]) (by simp [results, Tryz.results115, go_sem]) rfl ⟨ret_date e1.symm e2.symm e3.symm, below_date w _ _ _⟩

theorem cell_apart {w : World} {b o b' o' : Nat} {v x : Value} (h : w.cell? ⟨b', o', none⟩ = some x) (hne : b ≠ b' ∨ o ≠ o') : (w.setCell ⟨b, o, none⟩ v).cell? ⟨b', o', none⟩ = some x := by
  rw [World.cell?_setCell_other _ _ _ _ (by intro e; simp at e; omega)]; exact h
/-- A date's variable, in whatever later world. -/
structure Trio (w : World) (b : Nat) (x y z : Int) : Prop where
  lt : b < w.heap.size
  c0 : w.cell? ⟨b, 0, none⟩ = some (.int .i64 x)
  c1 : w.cell? ⟨b, 1, none⟩ = some (.int .i64 y)
  c2 : w.cell? ⟨b, 2, none⟩ = some (.int .i64 z)
  f0 : w.frozen? ⟨b, 0, none⟩ = false
  f1 : w.frozen? ⟨b, 1, none⟩ = false
  f2 : w.frozen? ⟨b, 2, none⟩ = false
theorem Trio.later {w w1 : World} {b : Nat} {x y z : Int} (h : Trio w b x y z) (hb : Below w.heap.size w w1) : Trio w1 b x y z := by
  obtain ⟨hc, hf⟩ := bcell hb
  exact ⟨Nat.lt_of_lt_of_le h.lt hb.size, (hc _ _ h.lt).trans h.c0, (hc _ _ h.lt).trans h.c1, (hc _ _ h.lt).trans h.c2, (hf _ _ h.lt).trans h.f0, (hf _ _ h.lt).trans h.f1, (hf _ _ h.lt).trans h.f2⟩
theorem Trio.new (w : World) (x y z : Int) (t : TypeId) : Trio (w.alloc (.cells #[.int .i64 x, .int .i64 y, .int .i64 z] t)) w.heap.size x y z := by
  refine ⟨by simp, ?_, ?_, ?_, ?_, ?_, ?_⟩ <;> simp
theorem Trio.other {w : World} {b b' o : Nat} {x y z : Int} (h : Trio w b x y z) (v : Value) (hne : b' ≠ b) : Trio (w.setCell ⟨b', o, none⟩ v) b x y z :=
  ⟨by simpa using h.lt, cell_apart h.c0 (Or.inl hne), cell_apart h.c1 (Or.inl hne), cell_apart h.c2 (Or.inl hne), by rw [World.frozen?_setCell]; exact h.f0, by rw [World.frozen?_setCell]; exact h.f1, by rw [World.frozen?_setCell]; exact h.f2⟩
theorem Trio.put0 {w : World} {b : Nat} {x y z : Int} (h : Trio w b x y z) (u : Int) : Trio (w.setCell ⟨b, 0, none⟩ (.int .i64 u)) b u y z :=
  ⟨by simpa using h.lt, World.cell?_setCell_same _ _ _ h.c0, cell_apart h.c1 (by omega), cell_apart h.c2 (by omega), by rw [World.frozen?_setCell]; exact h.f0, by rw [World.frozen?_setCell]; exact h.f1, by rw [World.frozen?_setCell]; exact h.f2⟩
theorem Trio.put1 {w : World} {b : Nat} {x y z : Int} (h : Trio w b x y z) (u : Int) : Trio (w.setCell ⟨b, 1, none⟩ (.int .i64 u)) b x u z :=
  ⟨by simpa using h.lt, cell_apart h.c0 (by omega), World.cell?_setCell_same _ _ _ h.c1, cell_apart h.c2 (by omega), by rw [World.frozen?_setCell]; exact h.f0, by rw [World.frozen?_setCell]; exact h.f1, by rw [World.frozen?_setCell]; exact h.f2⟩
theorem Trio.put2 {w : World} {b : Nat} {x y z : Int} (h : Trio w b x y z) (u : Int) : Trio (w.setCell ⟨b, 2, none⟩ (.int .i64 u)) b x y u :=
  ⟨by simpa using h.lt, cell_apart h.c0 (by omega), cell_apart h.c1 (by omega), World.cell?_setCell_same _ _ _ h.c2, by rw [World.frozen?_setCell]; exact h.f0, by rw [World.frozen?_setCell]; exact h.f1, by rw [World.frozen?_setCell]; exact h.f2⟩
theorem Trio.alloc {w : World} {b : Nat} {x y z : Int} (h : Trio w b x y z) (o : Obj) : Trio (w.alloc o) b x y z := h.later ((Below.refl _ _).alloc (Nat.le_refl _) _)
def ofV (n : Int) : Value := if dayB n then dateV (yearI n) (monthI n) (dayI n) else dateV 0 0 0
def ofE (n : Int) : Int := if dayB n then 0 else 8
theorem of_bad {n : Int} (h : dayB n = false) : ofV n = dateV 0 0 0 ∧ ofE n = 8 := by unfold ofV ofE; rw [h]; exact ⟨rfl, rfl⟩
theorem of_ok {n : Int} (h : dayB n = true) : ofV n = dateV (yearI n) (monthI n) (dayI n) ∧ ofE n = 0 := by unfold ofV ofE; rw [h]; exact ⟨rfl, rfl⟩
theorem dayB_iff (n : Int) : dayB n = true ↔ 1 ≤ n ∧ n ≤ 3652059 := by unfold dayB; rw [decide_eq_true_iff]
theorem ret_datei {a b c a' b' c' e e' : Int} (h1 : a = a') (h2 : b = b') (h3 : c = c') (h4 : e = e') : Ending.returned (.tuple #[.agg #[.int .i64 a, .int .i64 b, .int .i64 c], .int .i64 e]) = .returned (.tuple #[dateV a' b' c', .int .i64 e']) := by rw [h1, h2, h3, h4]; rfl
theorem below_dates (w : World) (y m d y' m' d' : Int) : Below w.heap.size w ((w.alloc (dateO y m d)).alloc (dateO y' m' d')) := ((Below.refl _ _).alloc (Nat.le_refl _) _).alloc (by simp) _
set_option maxHeartbeats 2000000 in
theorem refOf_any (n : Int) (w : World) :
    Calls Tryz.prog 78 #[.int .i64 n] w fun e w' => e = .returned (.tuple #[ofV n, .int .i64 (ofE n)]) ∧ Below w.heap.size w w' := by
  have HI := hide (fun W : World => refIs_any n W)
  cases hd : dayB n
  · rw [hd] at HI
    rw [(of_bad hd).1, (of_bad hd).2]
    clear hd
    go_enter Tryz.func78, Tryz.ntmps78
    go_wp2_with (go_at_call 72; refine (HI.out _).mono ?_; rintro e w' ⟨rfl, rfl⟩)
    exact bodyPost_ret (v := .tuple #[.agg #[.int .i64 0, .int .i64 0, .int .i64 0], .int .i64 8]) (by simp [results, Tryz.results78, go_sem]) rfl ⟨rfl, below_date w 0 0 0⟩
  · rw [hd] at HI
    rw [(of_ok hd).1, (of_ok hd).2]
    obtain ⟨n1, n2⟩ := (dayB_iff n).1 hd
    clear hd
    have T0 : Trio ((w.alloc (.cells #[.int .i64 0, .int .i64 0, .int .i64 0] 108)).alloc (.cells #[.int .i64 1, .int .i64 1, .int .i64 0] 108)) w.heap.size 0 0 0 := (Trio.new w 0 0 0 _).alloc _
    have T1 : Trio ((w.alloc (.cells #[.int .i64 0, .int .i64 0, .int .i64 0] 108)).alloc (.cells #[.int .i64 1, .int .i64 1, .int .i64 0] 108)) (w.heap.size + 1) 1 1 0 := by
      have h := Trio.new (w.alloc (.cells #[.int .i64 0, .int .i64 0, .int .i64 0] 108)) 1 1 0 108
      simpa using h
    have hB : Hid (Below w.heap.size w ((w.alloc (.cells #[.int .i64 0, .int .i64 0, .int .i64 0] 108)).alloc (.cells #[.int .i64 1, .int .i64 1, .int .i64 0] 108))) := hide (below_dates w 0 0 0 1 1 0)
    go_enter Tryz.func78, Tryz.ntmps78
    go_wp2_with (go_at_call 72; refine (HI.out _).mono ?_; rintro e w' ⟨rfl, rfl⟩)
    go_loopw [0] (fun nn wr => ∃ (k x : Int), nn = .int .i64 x ∧ 1 ≤ k ∧ k ≤ 9999 ∧ 1 ≤ x ∧ x ≤ 3652059 ∧ Hid (x = n - aheadY k) ∧ Trio wr w.heap.size 0 0 0 ∧ Trio wr (w.heap.size + 1) k 1 0 ∧ Hid (Below w.heap.size w wr)) (fun nn _ => (intOf nn).toNat)
    case atStart => exact ⟨1, n, rfl, by omega, by omega, n1, n2, (show _ = _ by rw [aheadY_one]; omega), T0, T1, hB⟩
    case round =>
      clear T0 T1 hB
      obtain ⟨k, x, rfl, k1, k2, x1, x2, HX, T0, T1, hB⟩ := hrel
      have HL := hide (fun W : World => refYearDays_any k W (by omega))
      have hb := ydays_b k
      have HS := hide (aheadY_succ k)
      obtain ⟨t, HT⟩ : ∃ t, Hid (ydays k = t) := ⟨_, hide rfl⟩
      rw [HT.out] at HL hb HS
      obtain ⟨b0, b1⟩ := hb
      have c0 := T1.c0
      have c1 := T1.c1
      have c2 := T1.c2
      have f0 := T1.f0
      have f1 := T1.f1
      have f2 := T1.f2
      by_cases hlt : t < x
      · have hk : k + 1 ≤ 9999 := by
          by_cases e : k = 9999
          · subst e
            have h1 := HS.out; have h2 := HX.out
            rw [show (9999 : Int) + 1 = 10000 from rfl, aheadY_last] at h1
            omega
          · omega
        go_wp2_with (go_at_call 108; refine (HL.out _).mono ?_; rintro e w' ⟨rfl, rfl⟩)
        go_roundw
        case rel => exact ⟨k + 1, x - t, by go_num, by omega, hk, by omega, by omega, (show _ = _ by rw [HS.out, HX.out]; omega), T0.other _ (by omega), T1.put0 _, hide (hB.out.setCell (p := ⟨w.heap.size + 1, 0, none⟩) (by simp) _)⟩
        case measure => simp [intOf]; omega
      · have HD := hide (fun (m z : Int) => date_is (n := n) (Y := k) (k := m) (x := z) n1 k1)
        have HMN := hide (fun (r m z : Int) => month_next (Y := k) (r := r) (k := m) (x := z))
        rw [HT.out] at HMN
        go_wp2_with (go_at_call 108; refine (HL.out _).mono ?_; rintro e w' ⟨rfl, rfl⟩)
        clear c0 c1 c2 f0 f1 f2
        go_loopw [0] (fun nn wr' => ∃ (m z : Int), nn = .int .i64 z ∧ 1 ≤ m ∧ m ≤ 12 ∧ 1 ≤ z ∧ z ≤ 366 ∧ Hid (z = x - aheadM k m) ∧ Trio wr' w.heap.size 0 0 0 ∧ Trio wr' (w.heap.size + 1) k m 0 ∧ Hid (Below w.heap.size w wr')) (fun nn _ => (intOf nn).toNat)
        case atStart => exact ⟨1, x, rfl, by omega, by omega, x1, by omega, (show _ = _ by rw [aheadM_one]; omega), T0, T1, hB⟩
        case round =>
          clear T0 T1 hB
          obtain ⟨m, z, rfl, m1, m2, z1, z2, HZ, T0, T1, hB⟩ := hrel
          have HL2 := hide (fun W : World => refMonthDays_any k m W (by omega))
          have hu := mdays_b k m
          have HS2 := hide (aheadM_succ k m1 m2)
          have HN2 := hide (HMN.out x m z)
          have HD2 := hide (HD.out m z m1 m2 z1)
          obtain ⟨u, HU⟩ : ∃ u, Hid (mdays k m = u) := ⟨_, hide rfl⟩
          rw [HU.out] at HL2 hu HS2 HN2 HD2
          obtain ⟨u0, u1⟩ := hu
          have c0 := T1.c0
          have c1 := T1.c1
          have c2 := T1.c2
          have f0 := T1.f0
          have f1 := T1.f1
          have f2 := T1.f2
          by_cases hlt2 : u < z
          · have hm : m < 12 := HN2.out HZ.out (by omega) m1 m2 hlt2
            go_wp2_with (go_at_call 109; refine (HL2.out _).mono ?_; rintro e w' ⟨rfl, rfl⟩)
            go_roundw
            case rel => exact ⟨m + 1, z - u, by go_num, by omega, by omega, by omega, by omega, (show _ = _ by rw [HS2.out, HZ.out]; omega), T0.other _ (by omega), T1.put1 _, hide (hB.out.setCell (p := ⟨w.heap.size + 1, 1, none⟩) (by simp) _)⟩
            case measure => simp [intOf]; omega
          · have e0 := T0.c0
            have e1 := T0.c1
            have e2 := T0.c2
            have g0 := T0.f0
            have g1 := T0.f1
            have g2 := T0.f2
            go_wp2_with (go_at_call 109; refine (HL2.out _).mono ?_; rintro e w' ⟨rfl, rfl⟩)
            obtain ⟨q1, q2, q3⟩ := HD2.out (by omega) (by rw [HZ.out, HX.out])
            have R := (((T0.other (b' := w.heap.size + 1) (o := 2) (.int .i64 z) (by omega)).put0 k).put1 m).put2 z
            have r0 := R.c0
            have r1 := R.c1
            have r2 := R.c2
            exact bodyPost_ret (v := .tuple #[.agg #[.int .i64 k, .int .i64 m, .int .i64 z], .int .i64 0]) (by simp [results, Tryz.results78, go_sem, r0, r1, r2]) rfl ⟨ret_datei q1.symm q2.symm q3.symm rfl, (((hB.out.setCell (p := ⟨w.heap.size + 1, 2, none⟩) (by simp) _).setCell (p := ⟨w.heap.size, 0, none⟩) (by simp) _).setCell (p := ⟨w.heap.size, 1, none⟩) (by simp) _).setCell (p := ⟨w.heap.size, 2, none⟩) (by simp) _⟩

end Go.Proofs.YtbaideeiljeamaaGreatDoor
namespace Go.Proofs.YtbaideeiljeamaaGreatDoor
open Go.RowKit

theorem Tryz.fldYear (a b c : Int) (w : World) : (Instr.field 108 (.agg #[.int .i64 a, .int .i64 b, .int .i64 c]) 0).run Tryz.prog w = .ok (.int .i64 a) w := by kernel_rfl
theorem yearI_b {n : Int} (h1 : 1 ≤ n) (h2 : n ≤ 3652059) : 1 ≤ yearI n ∧ yearI n ≤ 9999 := by
  obtain ⟨a, b⟩ := dateI_right h1
  exact ⟨a.y1, year_b a (by omega)⟩
theorem ret_dv {a b : Value} {x y : Value} (h : a = b) (h2 : x = y) : Ending.returned (.tuple #[a, x]) = .returned (.tuple #[b, y]) := by rw [h, h2]
theorem ret_iv {a b : Int} {x y : Value} (h : a = b) (h2 : x = y) : Ending.returned (.tuple #[.int .i64 a, x]) = .returned (.tuple #[.int .i64 b, y]) := by rw [h, h2]
theorem ret_iiv {a b c d : Int} {x y : Value} (h : a = b) (h1 : c = d) (h2 : x = y) : Ending.returned (.tuple #[.int .i64 a, .int .i64 c, x]) = .returned (.tuple #[.int .i64 b, .int .i64 d, y]) := by rw [h, h1, h2]
set_option maxRecDepth 100000 in
set_option maxHeartbeats 1000000 in
theorem Of_any (n : Int) (w : World) (HM : Hid (MDays w)) :
    Calls Tryz.prog 89 #[.int .i64 n] w fun e w' => e = .returned (.tuple #[ofV n, errV (ofE n)]) ∧ Below w.heap.size w w' := by
  have HI := hide (fun W : World => isDay_any n W)
  cases hd : dayB n
  · rw [hd] at HI
    rw [(of_bad hd).1, (of_bad hd).2]
    clear hd
    go_enter Tryz.func89, Tryz.ntmps89
    go_wp2_with (go_at_call 114; refine (HI.out _).mono ?_; rintro e w' ⟨rfl, rfl⟩)
    exact bodyPost_ret (v := .tuple #[.agg #[.int .i64 0, .int .i64 0, .int .i64 0], .iface 50 (.int .i64 8)]) (by simp [results, Tryz.results89, go_sem]) rfl ⟨rfl, below_date w 0 0 0⟩
  · rw [hd] at HI
    rw [(of_ok hd).1, (of_ok hd).2]
    obtain ⟨n1, n2⟩ := (dayB_iff n).1 hd
    clear hd
    have hB : Hid (Below w.heap.size w (w.alloc (.cells #[.int .i64 0, .int .i64 0, .int .i64 0] 108))) := hide (below_date w 0 0 0)
    have T := Trio.new w 0 0 0 108
    have HC := hide (fun (W : World) (h : Hid (MDays W)) => dateOf_any n W h n1 n2)
    unfold dateV at HC ⊢
    generalize yearI n = a at *
    generalize monthI n = b at *
    generalize dayI n = c at *
    go_enter Tryz.func89, Tryz.ntmps89
    go_wp2_with (first
      | (go_at_call 114; refine (HI.out _).mono ?_; rintro e w' ⟨rfl, rfl⟩)
      | (go_at_call 115; refine (HC.out _ (hide (HM.out.below hB.out))).mono ?_; rintro e w1 ⟨rfl, hb1⟩; have T1 := T.later hb1; have c0 := T1.c0; have c1 := T1.c1; have c2 := T1.c2; have f0 := T1.f0; have f1 := T1.f1; have f2 := T1.f2))
    have hB1 := hB.out.trans (hb1.mono hB.out.size)
    have R := ((T1.put0 a).put1 b).put2 c
    have r0 := R.c0
    have r1 := R.c1
    have r2 := R.c2
    exact bodyPost_ret (v := .tuple #[.agg #[.int .i64 a, .int .i64 b, .int .i64 c], .nilIface]) (by simp [results, Tryz.results89, go_sem, r0, r1, r2]) rfl ⟨rfl, ((hB1.setCell (p := ⟨w.heap.size, 0, none⟩) (by simp) _).setCell (p := ⟨w.heap.size, 1, none⟩) (by simp) _).setCell (p := ⟨w.heap.size, 2, none⟩) (by simp) _⟩
/-- The day of the week, 0 where there is no day. -/
def wdV (n : Int) : Int := if dayB n then (n - 1) % 7 else 0
theorem wd_bad {n : Int} (h : dayB n = false) : wdV n = 0 := by unfold wdV; rw [h]; rfl
theorem wd_ok {n : Int} (h : dayB n = true) : wdV n = (n - 1) % 7 := by unfold wdV; rw [h]; rfl
/-- The Thursday of a day's week. -/
def midI (n : Int) : Int := n - (n - 1) % 7 + 3
theorem mid_b {n : Int} (h1 : 1 ≤ n) (h2 : n ≤ 3652059) : 4 ≤ midI n ∧ midI n ≤ 3652059 := by unfold midI; omega
def wyV (n : Int) : Int := if dayB n then yearI (midI n) else 0
def wkV (n : Int) : Int := if dayB n then (midI n - aheadY (yearI (midI n)) - 1) / 7 + 1 else 0
theorem wk_bad {n : Int} (h : dayB n = false) : wyV n = 0 ∧ wkV n = 0 := by unfold wyV wkV; rw [h]; exact ⟨rfl, rfl⟩
theorem wk_ok {n : Int} (h : dayB n = true) : wyV n = yearI (midI n) ∧ wkV n = (midI n - aheadY (yearI (midI n)) - 1) / 7 + 1 := by unfold wyV wkV; rw [h]; exact ⟨rfl, rfl⟩
end Go.Proofs.YtbaideeiljeamaaGreatDoor
