/-
  My own text: dates of numbers, days of the week, weeks: the program's calls and the document's.
-/
import Derived.Test.YtdfeehimnfogmaaGreatDoorD4
namespace Go.Proofs.YtdfeehimnfogmaaGreatDoor
open Go.RowKit

theorem Tryz.fldYear (a b c : Int) (w : World) : (Instr.field 25 (.agg #[.int .i64 a, .int .i64 b, .int .i64 c]) 0).run Tryz.prog w = .ok (.int .i64 a) w := by kernel_rfl
theorem yearI_b {n : Int} (h1 : 1 ≤ n) (h2 : n ≤ 3652059) : 1 ≤ yearI n ∧ yearI n ≤ 9999 := by
  obtain ⟨a, b⟩ := dateI_right h1
  exact ⟨a.y1, year_b a (by omega)⟩
theorem ret_dv {a b : Value} {x y : Value} (h : a = b) (h2 : x = y) : Ending.returned (.tuple #[a, x]) = .returned (.tuple #[b, y]) := by rw [h, h2]
theorem ret_iv {a b : Int} {x y : Value} (h : a = b) (h2 : x = y) : Ending.returned (.tuple #[.int .i64 a, x]) = .returned (.tuple #[.int .i64 b, y]) := by rw [h, h2]
theorem ret_iiv {a b c d : Int} {x y : Value} (h : a = b) (h1 : c = d) (h2 : x = y) : Ending.returned (.tuple #[.int .i64 a, .int .i64 c, x]) = .returned (.tuple #[.int .i64 b, .int .i64 d, y]) := by rw [h, h1, h2]
set_option maxRecDepth 100000 in
set_option maxHeartbeats 1000000 in
theorem Of_any (n : Int) (w : World) (HM : Hid (MDays w)) :
    Calls Tryz.prog 12 #[.int .i64 n] w fun e w' => e = .returned (.tuple #[ofV n, errV (ofE n)]) ∧ Below w.heap.size w w' := by
  have HI := hide (fun W : World => isDay_any n W)
  cases hd : dayB n
  · rw [hd] at HI
    rw [(of_bad hd).1, (of_bad hd).2]
    clear hd
    go_enter Tryz.func12, Tryz.ntmps12
    go_wp2_with (go_at_call 32; refine (HI.out _).mono ?_; rintro e w' ⟨rfl, rfl⟩)
    exact bodyPost_ret (v := .tuple #[.agg #[.int .i64 0, .int .i64 0, .int .i64 0], .iface 60 (.int .i64 8)]) (by simp [results, Tryz.results12, go_sem]) rfl ⟨rfl, below_date w 0 0 0⟩
  · rw [hd] at HI
    rw [(of_ok hd).1, (of_ok hd).2]
    obtain ⟨n1, n2⟩ := (dayB_iff n).1 hd
    clear hd
    have hB : Hid (Below w.heap.size w (w.alloc (.cells #[.int .i64 0, .int .i64 0, .int .i64 0] 25))) := hide (below_date w 0 0 0)
    have T := Trio.new w 0 0 0 25
    have HC := hide (fun (W : World) (h : Hid (MDays W)) => dateOf_any n W h n1 n2)
    unfold dateV at HC ⊢
    generalize yearI n = a at *
    generalize monthI n = b at *
    generalize dayI n = c at *
    go_enter Tryz.func12, Tryz.ntmps12
    go_wp2_with (first
      | (go_at_call 32; refine (HI.out _).mono ?_; rintro e w' ⟨rfl, rfl⟩)
      | (go_at_call 33; refine (HC.out _ (hide (HM.out.below hB.out))).mono ?_; rintro e w1 ⟨rfl, hb1⟩; have T1 := T.later hb1; have c0 := T1.c0; have c1 := T1.c1; have c2 := T1.c2; have f0 := T1.f0; have f1 := T1.f1; have f2 := T1.f2))
    have hB1 := hB.out.trans (hb1.mono hB.out.size)
    have R := ((T1.put0 a).put1 b).put2 c
    have r0 := R.c0
    have r1 := R.c1
    have r2 := R.c2
    exact bodyPost_ret (v := .tuple #[.agg #[.int .i64 a, .int .i64 b, .int .i64 c], .nilIface]) (by simp [results, Tryz.results12, go_sem, r0, r1, r2]) rfl ⟨rfl, ((hB1.setCell (p := ⟨w.heap.size, 0, none⟩) (by simp) _).setCell (p := ⟨w.heap.size, 1, none⟩) (by simp) _).setCell (p := ⟨w.heap.size, 2, none⟩) (by simp) _⟩
/-- The day of the week, 0 where there is no day. -/
def wdV (n : Int) : Int := if dayB n then (n - 1) % 7 else 0
theorem wd_bad {n : Int} (h : dayB n = false) : wdV n = 0 := by unfold wdV; rw [h]; rfl
theorem wd_ok {n : Int} (h : dayB n = true) : wdV n = (n - 1) % 7 := by unfold wdV; rw [h]; rfl
theorem Weekday_any (n : Int) (w : World) :
    Calls Tryz.prog 13 #[.int .i64 n] w fun e w' => e = .returned (.tuple #[.int .i64 (wdV n), errV (ofE n)]) ∧ w' = w := by
  have HI := hide (fun W : World => isDay_any n W)
  cases hd : dayB n
  · rw [hd] at HI
    rw [wd_bad hd, (of_bad hd).2]
    clear hd
    go_enter Tryz.func13, Tryz.ntmps13
    go_wp2_with (go_at_call 32; refine (HI.out _).mono ?_; rintro e w' ⟨rfl, rfl⟩)
    go_ret2
    exact ⟨rfl, rfl⟩
  · rw [hd] at HI
    rw [wd_ok hd, (of_ok hd).2]
    obtain ⟨n1, n2⟩ := (dayB_iff n).1 hd
    clear hd
    have HC := hide (fun (W : World) => weekday_any n W n1 (by omega))
    generalize (n - 1) % 7 = x at *
    go_enter Tryz.func13, Tryz.ntmps13
    go_wp2_with (first
      | (go_at_call 32; refine (HI.out _).mono ?_; rintro e w' ⟨rfl, rfl⟩)
      | (go_at_call 34; refine (HC.out _).mono ?_; rintro e w' ⟨rfl, rfl⟩))
    go_ret2
    exact ⟨rfl, rfl⟩
theorem refWeekday_any (n : Int) (w : World) :
    Calls Tryz.prog 47 #[.int .i64 n] w fun e w' => e = .returned (.tuple #[.int .i64 (wdV n), .int .i64 (ofE n)]) ∧ w' = w := by
  have HI := hide (fun W : World => refIs_any n W)
  cases hd : dayB n
  · rw [hd] at HI
    rw [wd_bad hd, (of_bad hd).2]
    clear hd
    go_enter Tryz.func47, Tryz.ntmps47
    go_wp2_with (go_at_call 67; refine (HI.out _).mono ?_; rintro e w' ⟨rfl, rfl⟩)
    go_ret2
    exact ⟨rfl, rfl⟩
  · rw [hd] at HI
    have H := hide (wd_ok hd)
    rw [(of_ok hd).2]
    obtain ⟨n1, n2⟩ := (dayB_iff n).1 hd
    clear hd
    go_enter Tryz.func47, Tryz.ntmps47
    go_wp2_with (go_at_call 67; refine (HI.out _).mono ?_; rintro e w' ⟨rfl, rfl⟩)
    go_ret2
    exact ⟨ret_ii H.out.symm rfl, rfl⟩
/-- The Thursday of a day's week. -/
def midI (n : Int) : Int := n - (n - 1) % 7 + 3
theorem mid_b {n : Int} (h1 : 1 ≤ n) (h2 : n ≤ 3652059) : 4 ≤ midI n ∧ midI n ≤ 3652059 := by unfold midI; omega
def wyV (n : Int) : Int := if dayB n then yearI (midI n) else 0
def wkV (n : Int) : Int := if dayB n then (midI n - aheadY (yearI (midI n)) - 1) / 7 + 1 else 0
theorem wk_bad {n : Int} (h : dayB n = false) : wyV n = 0 ∧ wkV n = 0 := by unfold wyV wkV; rw [h]; exact ⟨rfl, rfl⟩
theorem wk_ok {n : Int} (h : dayB n = true) : wyV n = yearI (midI n) ∧ wkV n = (midI n - aheadY (yearI (midI n)) - 1) / 7 + 1 := by unfold wyV wkV; rw [h]; exact ⟨rfl, rfl⟩
set_option maxRecDepth 100000 in
set_option maxHeartbeats 1000000 in
theorem Week_any (n : Int) (w : World) (HM : Hid (MDays w)) :
    Calls Tryz.prog 14 #[.int .i64 n] w fun e w' => e = .returned (.tuple #[.int .i64 (wyV n), .int .i64 (wkV n), errV (ofE n)]) ∧ Below w.heap.size w w' := by
  have HI := hide (fun W : World => isDay_any n W)
  cases hd : dayB n
  · rw [hd] at HI
    rw [(wk_bad hd).1, (wk_bad hd).2, (of_bad hd).2]
    clear hd
    go_enter Tryz.func14, Tryz.ntmps14
    go_wp2_with (go_at_call 32; refine (HI.out _).mono ?_; rintro e w' ⟨rfl, rfl⟩)
    go_ret3
    exact ⟨rfl, Below.refl _ _⟩
  · rw [hd] at HI
    obtain ⟨n1, n2⟩ := (dayB_iff n).1 hd
    rw [(wk_ok hd).1, (wk_ok hd).2, (of_ok hd).2]
    clear hd
    have HW := hide (fun (W : World) => weekday_any n W n1 (by omega))
    have hm := mid_b n1 n2
    have HC := hide (fun (W : World) (h : Hid (MDays W)) => dateOf_any (midI n) W h (by omega) hm.2)
    have hy := yearI_b (n := midI n) (by omega) hm.2
    have HA := hide (fun (W : World) => daysAhead_any (yearI (midI n)) W hy.1 (by omega))
    have HB := hide (yearI_spec (n := midI n) (by omega))
    have HMI : Hid (midI n = n - (n - 1) % 7 + 3) := hide rfl
    obtain ⟨x, HX⟩ : ∃ x, Hid ((n - 1) % 7 = x) := ⟨_, hide rfl⟩
    have hx : 0 ≤ x ∧ x ≤ 6 := by have := HX.out; omega
    obtain ⟨m, HME⟩ : ∃ m, Hid (midI n = m) := ⟨_, hide rfl⟩
    rw [HX.out] at HW HMI
    rw [HME.out] at HC hy HA hm HMI HB ⊢
    obtain ⟨y, HYE⟩ : ∃ y, Hid (yearI m = y) := ⟨_, hide rfl⟩
    rw [HYE.out] at HC hy HA HB ⊢
    obtain ⟨a, HAE⟩ : ∃ a, Hid (aheadY y = a) := ⟨_, hide rfl⟩
    rw [HAE.out] at HA HB ⊢
    have ha := aheadY_b hy.1 (show y ≤ 10000 by omega)
    rw [HAE.out] at ha
    obtain ⟨y0, y1⟩ := hy
    obtain ⟨a0, a1⟩ := ha
    obtain ⟨x0, x1⟩ := hx
    obtain ⟨m0, m1⟩ := hm
    have hlt := HB.out.2.1
    unfold dateV at HC
    generalize monthI m = b at *
    generalize dayI m = c at *
    go_enter Tryz.func14, Tryz.ntmps14
    go_wp2_with (first
      | (go_at_call 32; refine (HI.out _).mono ?_; rintro e w' ⟨rfl, rfl⟩)
      | (go_at_call 34; refine (HW.out _).mono ?_; rintro e w' ⟨rfl, rfl⟩)
      | (go_at_call 33; rw [← HMI.out]; refine (HC.out _ HM).mono ?_; rintro e w1 ⟨rfl, hb1⟩; have hfd := Tryz.fldYear y b c w1)
      | (go_at_call 35; refine (HA.out _).mono ?_; rintro e w' ⟨rfl, rfl⟩))
    go_ret3
    exact ⟨ret_iiv rfl (by first | rfl | (have := HMI.out; omega)) rfl, hb1⟩
theorem num_first (y : Int) : numI y 1 1 = aheadY y + 1 := by unfold numI; rw [aheadM_one]; omega
theorem right_first {y : Int} (h1 : 1 ≤ y) (h2 : y ≤ 9999) : rightB y 1 1 = true := rightB_yes h1 h2 (by omega) (by omega) (by omega) (by have := mdays_b y 1; omega)
set_option maxRecDepth 100000 in
set_option maxHeartbeats 1000000 in
theorem refWeek_any (n : Int) (w : World) :
    Calls Tryz.prog 48 #[.int .i64 n] w fun e w' => e = .returned (.tuple #[.int .i64 (wyV n), .int .i64 (wkV n), .int .i64 (ofE n)]) ∧ Below w.heap.size w w' := by
  have HI := hide (fun W : World => refIs_any n W)
  cases hd : dayB n
  · rw [hd] at HI
    rw [(wk_bad hd).1, (wk_bad hd).2, (of_bad hd).2]
    clear hd
    go_enter Tryz.func48, Tryz.ntmps48
    go_wp2_with (go_at_call 67; refine (HI.out _).mono ?_; rintro e w' ⟨rfl, rfl⟩)
    go_ret3
    exact ⟨rfl, Below.refl _ _⟩
  · rw [hd] at HI
    obtain ⟨n1, n2⟩ := (dayB_iff n).1 hd
    rw [(wk_ok hd).1, (wk_ok hd).2, (of_ok hd).2]
    clear hd
    have hm := mid_b n1 n2
    have HC := hide (fun (W : World) => refOf_any (midI n) W)
    have hmd := dayB_yes (n := midI n) (by omega) hm.2
    rw [(of_ok hmd).1, (of_ok hmd).2] at HC
    have hy := yearI_b (n := midI n) (by omega) hm.2
    have HA := hide (fun (W : World) => refNumber_any (yearI (midI n)) 1 1 W)
    have hrr := right_first hy.1 hy.2
    rw [(num_ok hrr).1, (num_ok hrr).2, num_first] at HA
    have HB := hide (yearI_spec (n := midI n) (by omega))
    have HMI : Hid (midI n = n - (n - 1) % 7 + 3) := hide rfl
    clear hmd hrr
    obtain ⟨m, HME⟩ : ∃ m, Hid (midI n = m) := ⟨_, hide rfl⟩
    rw [HME.out] at HC hy HA hm HMI HB ⊢
    obtain ⟨y, HYE⟩ : ∃ y, Hid (yearI m = y) := ⟨_, hide rfl⟩
    rw [HYE.out] at HC hy HA HB ⊢
    obtain ⟨a, HAE⟩ : ∃ a, Hid (aheadY y = a) := ⟨_, hide rfl⟩
    rw [HAE.out] at HA HB ⊢
    have ha := aheadY_b hy.1 (show y ≤ 10000 by omega)
    rw [HAE.out] at ha
    obtain ⟨y0, y1⟩ := hy
    obtain ⟨a0, a1⟩ := ha
    obtain ⟨m0, m1⟩ := hm
    have hlt := HB.out.2.1
    unfold dateV at HC HA
    generalize monthI m = b at *
    generalize dayI m = c at *
    go_enter Tryz.func48, Tryz.ntmps48
    go_wp2_with (first
      | (go_at_call 67; refine (HI.out _).mono ?_; rintro e w' ⟨rfl, rfl⟩)
      | (go_at_call 46; rw [← HMI.out]; refine (HC.out _).mono ?_; rintro e w1 ⟨rfl, hb1⟩)
      | (go_at_call 26; refine (HA.out _).mono ?_; rintro e w2 ⟨rfl, hb2⟩; have T := (Trio.new w1 y b c 25).later hb2; have c0 := T.c0; have c1 := T.c1; have c2 := T.c2))
    go_ret3
    exact ⟨ret_iiv rfl (by first | rfl | omega) rfl, (hb1.alloc hb1.size _).trans (hb2.mono (by have := hb1.size; simp; omega))⟩
end Go.Proofs.YtdfeehimnfogmaaGreatDoor
