/-
  My own text: a date's number, a number's date: the program's and the document's.
-/
import Derived.Test.YtdfeehimnfogmaaGreatDoorD2
import Derived.Test.YtdfeehimnfogmaaGreatDoorErrV
namespace Go.Proofs.YtdfeehimnfogmaaGreatDoor
open Go.RowKit

theorem ret_ii {a b c d : Int} (h : a = c) (h' : b = d) : Ending.returned (.tuple #[.int .i64 a, .int .i64 b]) = .returned (.tuple #[.int .i64 c, .int .i64 d]) := by rw [h, h']
def dateO (y m d : Int) : Obj := .cells #[.int .i64 y, .int .i64 m, .int .i64 d] 25
theorem below_date (w : World) (y m d : Int) : Below w.heap.size w (w.alloc (dateO y m d)) := (Below.refl w.heap.size w).alloc (Nat.le_refl _) _
set_option maxHeartbeats 1000000 in
theorem number_any (y m d : Int) (w : World) (HM : Hid (MDays w)) (hR : RightD y m d) (hy : y ≤ 9999) :
    Calls Tryz.prog 40 #[dateV y m d] w fun e w' => e = .returned (.int .i64 (numI y m d)) ∧ Below w.heap.size w w' := by
  obtain ⟨y1, m1, m2, d1, d2⟩ := hR
  have hd := (mdays_b y m).2
  have hd3 : d ≤ 31 := by omega
  clear d2 hd
  unfold dateV
  have hB : Hid (Below w.heap.size w (w.alloc (.cells #[.int .i64 y, .int .i64 m, .int .i64 d] 25))) := hide (below_date w y m d)
  have HD := hide (fun W : World => daysAhead_any y W y1 (by omega))
  have ha := aheadY_b y1 (show y ≤ 10000 by omega)
  have HN : Hid (numI y m d = aheadY y + aheadM y m + d) := hide rfl
  obtain ⟨a, HA⟩ : ∃ a, Hid (aheadY y = a) := ⟨_, hide rfl⟩
  rw [HA.out] at HD ha HN
  obtain ⟨a0, a1⟩ := ha
  go_enter Tryz.func40, Tryz.ntmps40
  go_wp2
  go_quiet (first | (go_at_call 35; exact Calls.quiet_of_same (HD.out _)))
  go_wp2
  go_loop [3, 4] (fun n i => ∃ (k x : Int), 1 ≤ k ∧ k ≤ m ∧ i = .int .i64 k ∧ n = .int .i64 x ∧ Hid (x = a + aheadM y k + d) ∧ 0 ≤ x ∧ x ≤ 4000000) (fun _ i => (m - intOf i).toNat)
  case atStart => exact ⟨1, a + d, by omega, m1, rfl, rfl, (show _ = _ by rw [aheadM_one]; omega), by omega, by omega⟩
  case round =>
    obtain ⟨k, x, k1, k2, rfl, rfl, HX, x0, x1⟩ := hrel
    by_cases hlt : k < m
    · have HL := hide (fun (W : World) (h : MDays W) => lengthOf_any y k W h (by omega) k1 (by omega))
      have hb := mdays_b y k
      have HS := hide (aheadM_succ y k1 (by omega))
      have HB2 := hide (aheadM_b y (m := k + 1) (by omega) (by omega))
      have HY := hide (ydays_b y)
      obtain ⟨t, HT⟩ : ∃ t, Hid (mdays y k = t) := ⟨_, hide rfl⟩
      rw [HT.out] at HL hb HS
      obtain ⟨b0, b1⟩ := hb
      go_wp2_with (go_at_call 39; refine (HL.out _ (HM.out.below (below_drewN hB.out _))).mono ?_; rintro e w' ⟨rfl, rfl⟩)
      go_round
      case rel => exact ⟨k + 1, x + t, by omega, by omega, by go_num, by go_num, (show _ = _ by rw [HS.out, HX.out]; omega), by omega, by have := HB2.out; have := HY.out; have := HS.out; have := HX.out; have := mdays_b y (k + 1); omega⟩
      case measure => simp [intOf]; omega
    · have e : k = m := by omega
      subst e
      go_wp2
      go_ret
      exact ⟨ret_i (by rw [HX.out, HN.out]), below_drewN hB.out _⟩
def numV (y m d : Int) : Int := if rightB y m d then numI y m d else 0
def numE (y m d : Int) : Int := if rightB y m d then 0 else 8
theorem num_bad {y m d : Int} (h : rightB y m d = false) : numV y m d = 0 ∧ numE y m d = 8 := by unfold numV numE; rw [h]; exact ⟨rfl, rfl⟩
theorem num_ok {y m d : Int} (h : rightB y m d = true) : numV y m d = numI y m d ∧ numE y m d = 0 := by unfold numV numE; rw [h]; exact ⟨rfl, rfl⟩
set_option maxHeartbeats 1000000 in
theorem refNumber_any (y m d : Int) (w : World) :
    Calls Tryz.prog 26 #[dateV y m d] w fun e w' => e = .returned (.tuple #[.int .i64 (numV y m d), .int .i64 (numE y m d)]) ∧ Below w.heap.size w w' := by
  have HR := hide (fun W : World => refRight_any y m d W)
  have hB : Hid (Below w.heap.size w (w.alloc (.cells #[.int .i64 y, .int .i64 m, .int .i64 d] 25))) := hide (below_date w y m d)
  cases hr : rightB y m d
  · rw [hr] at HR
    rw [(num_bad hr).1, (num_bad hr).2]
    clear hr
    unfold dateV at HR ⊢
    go_enter Tryz.func26, Tryz.ntmps26
    go_wp2_with fail
    refine (HR.out _).mono ?_
    rintro e w1 ⟨rfl, hb1⟩
    go_wp2_with fail
    go_ret2
    exact ⟨rfl, hB.out.trans (hb1.mono hB.out.size)⟩
  · rw [hr] at HR
    rw [(num_ok hr).1, (num_ok hr).2]
    obtain ⟨⟨y1, m1, m2, d1, d2⟩, y2⟩ := (rightB_iff _ _ _).1 hr
    clear hr
    have hd := (mdays_b y m).2
    have hd3 : d ≤ 31 := by omega
    clear d2 hd
    have HN : Hid (numI y m d = aheadY y + aheadM y m + d) := hide rfl
    unfold dateV at HR ⊢
    have hw : ∀ o, (w.alloc (.cells #[.int .i64 y, .int .i64 m, .int .i64 d] 25)).cell? ⟨w.heap.size, o, none⟩ = (#[.int .i64 y, .int .i64 m, .int .i64 d] : Array Value)[o]? := by intro o; simp
    go_enter Tryz.func26, Tryz.ntmps26
    go_wp2_with fail
    refine (HR.out _).mono ?_
    rintro e w1 ⟨rfl, hb1⟩
    have hB1 := hide (hB.out.trans (hb1.mono hB.out.size))
    have c0 : w1.cell? ⟨w.heap.size, 0, none⟩ = some (.int .i64 y) := (hb1.cell (p := ⟨w.heap.size, 0, none⟩) (by simp)).trans (hw 0)
    have c1 : w1.cell? ⟨w.heap.size, 1, none⟩ = some (.int .i64 m) := (hb1.cell (p := ⟨w.heap.size, 1, none⟩) (by simp)).trans (hw 1)
    have c2 : w1.cell? ⟨w.heap.size, 2, none⟩ = some (.int .i64 d) := (hb1.cell (p := ⟨w.heap.size, 2, none⟩) (by simp)).trans (hw 2)
    clear hb1 hw hB
    go_wp2_with fail
    go_loop [4, 5] (fun n i => ∃ (k x : Int), 1 ≤ k ∧ k ≤ y ∧ i = .int .i64 k ∧ n = .int .i64 x ∧ Hid (x = aheadY k + d) ∧ 0 ≤ x ∧ x ≤ 4000000) (fun _ i => (y - intOf i).toNat)
    case atStart => exact ⟨1, d, by omega, y1, rfl, rfl, (show _ = _ by rw [aheadY_one]; omega), by omega, by omega⟩
    case round =>
      obtain ⟨k, x, k1, k2, rfl, rfl, HX, x0, x1⟩ := hrel
      by_cases hlt : k < y
      · have HL := hide (fun W : World => refYearDays_any k W (by omega))
        have hb := ydays_b k
        have HS := hide (aheadY_succ k)
        have HB2 := hide (aheadY_b (y := k + 1) (by omega) (by omega))
        obtain ⟨t, HT⟩ : ∃ t, Hid (ydays k = t) := ⟨_, hide rfl⟩
        rw [HT.out] at HL hb HS
        obtain ⟨b0, b1⟩ := hb
        go_wp2_with (go_at_call 53; refine (HL.out _).mono ?_; rintro e w' ⟨rfl, rfl⟩)
        go_round
        case rel => exact ⟨k + 1, x + t, by omega, by omega, by go_num, by go_num, (show _ = _ by rw [HS.out, HX.out]; omega), by omega, by have := HB2.out; have := HS.out; have := HX.out; omega⟩
        case measure => simp [intOf]; omega
      · have e : k = y := by omega
        subst e
        have HA := hide (aheadY_b (y := k) (by omega) (by omega))
        obtain ⟨a, HAE⟩ : ∃ a, Hid (aheadY k = a) := ⟨_, hide rfl⟩
        rw [HAE.out] at HA HX HN
        obtain ⟨a0, a1⟩ := HA.out
        go_wp2_with fail
        go_loop [4, 6] (fun n i => ∃ (j z : Int), 1 ≤ j ∧ j ≤ m ∧ i = .int .i64 j ∧ n = .int .i64 z ∧ Hid (z = a + aheadM k j + d) ∧ 0 ≤ z ∧ z ≤ 4000000) (fun _ i => (m - intOf i).toNat)
        case atStart => exact ⟨1, x, by omega, m1, rfl, rfl, (show _ = _ by rw [aheadM_one, HX.out]; omega), by omega, by omega⟩
        case round =>
          obtain ⟨j, z, j1, j2, rfl, rfl, HZ, z0, z1⟩ := hrel
          by_cases hlt : j < m
          · have HL := hide (fun (W : World) => refMonthDays_any k j W (by omega))
            have hb := mdays_b k j
            have HS := hide (aheadM_succ k j1 (by omega))
            have HB2 := hide (aheadM_b k (m := j + 1) (by omega) (by omega))
            have HY := hide (ydays_b k)
            obtain ⟨t, HT⟩ : ∃ t, Hid (mdays k j = t) := ⟨_, hide rfl⟩
            rw [HT.out] at HL hb HS
            obtain ⟨b0, b1⟩ := hb
            go_wp2_with (go_at_call 54; refine (HL.out _).mono ?_; rintro e w' ⟨rfl, rfl⟩)
            go_round
            case rel => exact ⟨j + 1, z + t, by omega, by omega, by go_num, by go_num, (show _ = _ by rw [HS.out, HZ.out]; omega), by omega, by have := HB2.out; have := HY.out; have := HS.out; have := HZ.out; have := mdays_b k (j + 1); omega⟩
            case measure => simp [intOf]; omega
          · have e : j = m := by omega
            subst e
            go_wp2_with fail
            go_ret2
            exact ⟨ret_ii (by rw [HZ.out, HN.out]) rfl, hB1.out⟩
set_option maxHeartbeats 1000000 in
theorem Number_any (y m d : Int) (w : World) (HM : Hid (MDays w)) :
    Calls Tryz.prog 31 #[dateV y m d] w fun e w' => e = .returned (.tuple #[.int .i64 (numV y m d), errV (numE y m d)]) ∧ Below w.heap.size w w' := by
  have HR := hide (fun (W : World) (h : Hid (MDays W)) => isDate_any y m d W h)
  have hB : Hid (Below w.heap.size w (w.alloc (.cells #[.int .i64 y, .int .i64 m, .int .i64 d] 25))) := hide (below_date w y m d)
  cases hr : rightB y m d
  · rw [hr] at HR
    rw [(num_bad hr).1, (num_bad hr).2]
    clear hr
    unfold dateV at HR ⊢
    go_enter Tryz.func31, Tryz.ntmps31
    go_wp2_with fail
    refine (HR.out _ (hide (HM.out.below hB.out))).mono ?_
    rintro e w1 ⟨rfl, hb1⟩
    go_wp2_with fail
    go_ret2
    exact ⟨rfl, hB.out.trans (hb1.mono hB.out.size)⟩
  · rw [hr] at HR
    rw [(num_ok hr).1, (num_ok hr).2]
    obtain ⟨hR, y2⟩ := (rightB_iff _ _ _).1 hr
    have HC := hide (fun (W : World) (h : Hid (MDays W)) => number_any y m d W h hR y2)
    clear hr hR y2
    unfold dateV at HR HC ⊢
    have hw : ∀ o, (w.alloc (.cells #[.int .i64 y, .int .i64 m, .int .i64 d] 25)).cell? ⟨w.heap.size, o, none⟩ = (#[.int .i64 y, .int .i64 m, .int .i64 d] : Array Value)[o]? := by intro o; simp
    go_enter Tryz.func31, Tryz.ntmps31
    go_wp2_with fail
    refine (HR.out _ (hide (HM.out.below hB.out))).mono ?_
    rintro e w1 ⟨rfl, hb1⟩
    have hB1 := hide (hB.out.trans (hb1.mono hB.out.size))
    have c0 : w1.cell? ⟨w.heap.size, 0, none⟩ = some (.int .i64 y) := (hb1.cell (p := ⟨w.heap.size, 0, none⟩) (by simp)).trans (hw 0)
    have c1 : w1.cell? ⟨w.heap.size, 1, none⟩ = some (.int .i64 m) := (hb1.cell (p := ⟨w.heap.size, 1, none⟩) (by simp)).trans (hw 1)
    have c2 : w1.cell? ⟨w.heap.size, 2, none⟩ = some (.int .i64 d) := (hb1.cell (p := ⟨w.heap.size, 2, none⟩) (by simp)).trans (hw 2)
    clear hb1 hw hB
    go_wp2_with fail
    refine (HC.out _ (hide (HM.out.below hB1.out))).mono ?_
    rintro e w2 ⟨rfl, hb2⟩
    have hB2 := hide (hB1.out.trans (hb2.mono hB1.out.size))
    clear hB1 hb2 c0 c1 c2
    go_wp2_with fail
    go_ret2
    exact ⟨rfl, hB2.out⟩
end Go.Proofs.YtdfeehimnfogmaaGreatDoor
