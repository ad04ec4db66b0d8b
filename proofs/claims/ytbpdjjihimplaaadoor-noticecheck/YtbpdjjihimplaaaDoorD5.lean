/-
  My own text: dates of numbers, days of the week, weeks: the program's calls and the document's.
-/
import Derived.Test.YtbpdjjihimplaaaDoorD4
namespace Go.Proofs.YtbpdjjihimplaaaDoor
open Go.RowKit

theorem Tryd.fldYear (a b c : Int) (w : World) : (Instr.field 86 (.agg #[.int .i64 a, .int .i64 b, .int .i64 c]) 0).run Tryd.prog w = .ok (.int .i64 a) w := by kernel_rfl
theorem yearI_b {n : Int} (h1 : 1 ≤ n) (h2 : n ≤ 3652059) : 1 ≤ yearI n ∧ yearI n ≤ 9999 := by
  obtain ⟨a, b⟩ := dateI_right h1
  exact ⟨a.y1, year_b a (by omega)⟩
theorem ret_dv {a b : Value} {x y : Value} (h : a = b) (h2 : x = y) : Ending.returned (.tuple #[a, x]) = .returned (.tuple #[b, y]) := by rw [h, h2]
theorem ret_iv {a b : Int} {x y : Value} (h : a = b) (h2 : x = y) : Ending.returned (.tuple #[.int .i64 a, x]) = .returned (.tuple #[.int .i64 b, y]) := by rw [h, h2]
theorem ret_iiv {a b c d : Int} {x y : Value} (h : a = b) (h1 : c = d) (h2 : x = y) : Ending.returned (.tuple #[.int .i64 a, .int .i64 c, x]) = .returned (.tuple #[.int .i64 b, .int .i64 d, y]) := by rw [h, h1, h2]
set_option maxRecDepth 100000 in
set_option maxHeartbeats 1000000 in
theorem Of_any (n : Int) (w : World) (HM : Hid (MDays w)) :
    Calls Tryd.prog 42 #[.int .i64 n] w fun e w' => e = .returned (.tuple #[ofV n, errV (ofE n)]) ∧ Below w.heap.size w w' := by
  have HI := hide (fun W : World => isDay_any n W)
  cases hd : dayB n
  · rw [hd] at HI
    rw [(of_bad hd).1, (of_bad hd).2]
    clear hd
    go_enter Tryd.func42, Tryd.ntmps42
    go_wp2_with (go_at_call 52; refine (HI.out _).mono ?_; rintro e w' ⟨rfl, rfl⟩)
    exact bodyPost_ret (v := .tuple #[.agg #[.int .i64 0, .int .i64 0, .int .i64 0], .iface 35 (.int .i64 8)]) (by simp [results, Tryd.results42, go_sem]) rfl ⟨rfl, below_date w 0 0 0⟩
  · rw [hd] at HI
    rw [(of_ok hd).1, (of_ok hd).2]
    obtain ⟨n1, n2⟩ := (dayB_iff n).1 hd
    clear hd
    have hB : Hid (Below w.heap.size w (w.alloc (.cells #[.int .i64 0, .int .i64 0, .int .i64 0] 86))) := hide (below_date w 0 0 0)
    have T := Trio.new w 0 0 0 86
    have HC := hide (fun (W : World) (h : Hid (MDays W)) => dateOf_any n W h n1 n2)
    unfold dateV at HC ⊢
    generalize yearI n = a at *
    generalize monthI n = b at *
    generalize dayI n = c at *
    go_enter Tryd.func42, Tryd.ntmps42
    go_wp2_with (first
      | (go_at_call 52; refine (HI.out _).mono ?_; rintro e w' ⟨rfl, rfl⟩)
      | (go_at_call 53; refine (HC.out _ (hide (HM.out.below hB.out))).mono ?_; rintro e w1 ⟨rfl, hb1⟩; have T1 := T.later hb1; have c0 := T1.c0; have c1 := T1.c1; have c2 := T1.c2; have f0 := T1.f0; have f1 := T1.f1; have f2 := T1.f2))
    have hB1 := hB.out.trans (hb1.mono hB.out.size)
    have R := ((T1.put0 a).put1 b).put2 c
    have r0 := R.c0
    have r1 := R.c1
    have r2 := R.c2
    exact bodyPost_ret (v := .tuple #[.agg #[.int .i64 a, .int .i64 b, .int .i64 c], .nilIface]) (by simp [results, Tryd.results42, go_sem, r0, r1, r2]) rfl ⟨rfl, ((hB1.setCell (p := ⟨w.heap.size, 0, none⟩) (by simp) _).setCell (p := ⟨w.heap.size, 1, none⟩) (by simp) _).setCell (p := ⟨w.heap.size, 2, none⟩) (by simp) _⟩
/-- The day of the week, 0 where there is no day. -/
def wdV (n : Int) : Int := if dayB n then (n - 1) % 7 else 0
theorem wd_bad {n : Int} (h : dayB n = false) : wdV n = 0 := by unfold wdV; rw [h]; rfl
theorem wd_ok {n : Int} (h : dayB n = true) : wdV n = (n - 1) % 7 := by unfold wdV; rw [h]; rfl
/-- The Thursday of a day's week. -/
def midI (n : Int) : Int := n - (n - 1) % 7 + 3
theorem mid_b {n : Int} (h1 : 1 ≤ n) (h2 : n ≤ 3652059) : 4 ≤ midI n ∧ midI n ≤ 3652059 := by unfold midI; omega
def wyV (n : Int) : Int := if dayB n then yearI (midI n) else 0
def wkV (n : Int) : Int := if dayB n then (midI n - aheadY (yearI (midI n)) - 1) / 7 + 1 else 0
theorem wk_bad {n : Int} (h : dayB n = false) : wyV n = 0 ∧ wkV n = 0 := by unfold wyV wkV; rw [h]; exact ⟨rfl, rfl⟩
theorem wk_ok {n : Int} (h : dayB n = true) : wyV n = yearI (midI n) ∧ wkV n = (midI n - aheadY (yearI (midI n)) - 1) / 7 + 1 := by unfold wyV wkV; rw [h]; exact ⟨rfl, rfl⟩
end Go.Proofs.YtbpdjjihimplaaaDoor
