/-
  My own text: the months' lengths and the years', the program's and the document's; right dates.
-/
import Derived.Test.YtbpdjjihimplaaaDoorD1
import Derived.Lib.LaidTab
namespace Go.Proofs.YtbpdjjihimplaaaDoor
open Go.RowKit

def mTab : List Int := [31, 28, 31, 30, 31, 30, 31, 31, 30, 31, 30, 31]
/-- The table of the months' lengths lies as it was laid. -/
def MDays (w : World) : Prop := Lib.TabIs Tryd.prog w "custody/calendar.monthDays" .i64 mTab
theorem Tryd.mdNamed : Tryd.prog.globalNamed "custody/calendar.monthDays" = some 2 := by kernel_rfl
theorem MDays.cell {w : World} (h : MDays w) (i : Nat) (hi : i < 12) : w.cell? ⟨2, i, none⟩ = some (.int .i64 (mTab.getD i 0)) := by
  have := Lib.TabIs.cell h Tryd.mdNamed i hi
  match i, hi with
  | 0, _ => exact this
  | 1, _ => exact this
  | 2, _ => exact this
  | 3, _ => exact this
  | 4, _ => exact this
  | 5, _ => exact this
  | 6, _ => exact this
  | 7, _ => exact this
  | 8, _ => exact this
  | 9, _ => exact this
  | 10, _ => exact this
  | 11, _ => exact this
theorem MDays.lt {w : World} (h : MDays w) : 2 < w.heap.size := by
  have := h.cell 0 (by omega)
  exact World.block_lt_of_cell? _ _ this
theorem MDays.below {w w' : World} (h : MDays w) (hb : Below w.heap.size w w') : MDays w' := var?_below hb Tryd.mdNamed h.lt h

theorem lengthOf_any (y m : Int) (w : World) (hM : MDays w) (h0 : 0 ≤ y) (h1 : 1 ≤ m) (h2 : m ≤ 12) :
    Calls Tryd.prog 59 #[.int .i64 y, .int .i64 m] w fun e w' => e = .returned (.int .i64 (mdays y m)) ∧ w' = w := by
  have HM := hide hM
  clear hM
  rcases months h1 h2 with rfl | rfl | rfl | rfl | rfl | rfl | rfl | rfl | rfl | rfl | rfl | rfl
  · have hc : w.cell? ⟨2, 0, none⟩ = some (.int .i64 31) := HM.out.cell 0 (by omega)
    go_enter Tryd.func59, Tryd.ntmps59
    go_wp2
    go_ret
    exact ⟨ret_i rfl, rfl⟩
  · cases hl : leapI y
    · have H : Hid (mdays y 2 = 28) := by show _ = _; unfold mdays; rw [hl]; rfl
      have hc : w.cell? ⟨2, 1, none⟩ = some (.int .i64 28) := HM.out.cell 1 (by omega)
      go_enter Tryd.func59, Tryd.ntmps59
      go_wp2_with (go_at_call 62; refine (isLeap_any y _ h0).mono ?_; rintro e w' ⟨rfl, rfl⟩; rw [hl])
      go_ret
      exact ⟨ret_i H.out.symm, rfl⟩
    · have H : Hid (mdays y 2 = 29) := by show _ = _; unfold mdays; rw [hl]; rfl
      go_enter Tryd.func59, Tryd.ntmps59
      go_wp2_with (go_at_call 62; refine (isLeap_any y _ h0).mono ?_; rintro e w' ⟨rfl, rfl⟩; rw [hl])
      go_ret
      exact ⟨ret_i H.out.symm, rfl⟩
  · have hc : w.cell? ⟨2, 2, none⟩ = some (.int .i64 31) := HM.out.cell 2 (by omega)
    go_enter Tryd.func59, Tryd.ntmps59
    go_wp2
    go_ret
    exact ⟨ret_i rfl, rfl⟩
  · have hc : w.cell? ⟨2, 3, none⟩ = some (.int .i64 30) := HM.out.cell 3 (by omega)
    go_enter Tryd.func59, Tryd.ntmps59
    go_wp2
    go_ret
    exact ⟨ret_i rfl, rfl⟩
  · have hc : w.cell? ⟨2, 4, none⟩ = some (.int .i64 31) := HM.out.cell 4 (by omega)
    go_enter Tryd.func59, Tryd.ntmps59
    go_wp2
    go_ret
    exact ⟨ret_i rfl, rfl⟩
  · have hc : w.cell? ⟨2, 5, none⟩ = some (.int .i64 30) := HM.out.cell 5 (by omega)
    go_enter Tryd.func59, Tryd.ntmps59
    go_wp2
    go_ret
    exact ⟨ret_i rfl, rfl⟩
  · have hc : w.cell? ⟨2, 6, none⟩ = some (.int .i64 31) := HM.out.cell 6 (by omega)
    go_enter Tryd.func59, Tryd.ntmps59
    go_wp2
    go_ret
    exact ⟨ret_i rfl, rfl⟩
  · have hc : w.cell? ⟨2, 7, none⟩ = some (.int .i64 31) := HM.out.cell 7 (by omega)
    go_enter Tryd.func59, Tryd.ntmps59
    go_wp2
    go_ret
    exact ⟨ret_i rfl, rfl⟩
  · have hc : w.cell? ⟨2, 8, none⟩ = some (.int .i64 30) := HM.out.cell 8 (by omega)
    go_enter Tryd.func59, Tryd.ntmps59
    go_wp2
    go_ret
    exact ⟨ret_i rfl, rfl⟩
  · have hc : w.cell? ⟨2, 9, none⟩ = some (.int .i64 31) := HM.out.cell 9 (by omega)
    go_enter Tryd.func59, Tryd.ntmps59
    go_wp2
    go_ret
    exact ⟨ret_i rfl, rfl⟩
  · have hc : w.cell? ⟨2, 10, none⟩ = some (.int .i64 30) := HM.out.cell 10 (by omega)
    go_enter Tryd.func59, Tryd.ntmps59
    go_wp2
    go_ret
    exact ⟨ret_i rfl, rfl⟩
  · have hc : w.cell? ⟨2, 11, none⟩ = some (.int .i64 31) := HM.out.cell 11 (by omega)
    go_enter Tryd.func59, Tryd.ntmps59
    go_wp2
    go_ret
    exact ⟨ret_i rfl, rfl⟩
/-- A date as a value. -/
def dateV (y m d : Int) : Value := .agg #[.int .i64 y, .int .i64 m, .int .i64 d]
def rightB (y m d : Int) : Bool := decide (1 ≤ y ∧ y ≤ 9999 ∧ 1 ≤ m ∧ m ≤ 12 ∧ 1 ≤ d ∧ d ≤ mdays y m)
theorem rightB_iff (y m d : Int) : rightB y m d = true ↔ RightD y m d ∧ y ≤ 9999 := by
  unfold rightB
  rw [decide_eq_true_iff]
  exact ⟨fun ⟨a, b, c, d, e, f⟩ => ⟨⟨a, c, d, e, f⟩, b⟩, fun ⟨⟨a, c, d, e, f⟩, b⟩ => ⟨a, b, c, d, e, f⟩⟩
theorem rightB_no {y m d : Int} (h : y < 1 ∨ 9999 < y ∨ m < 1 ∨ 12 < m ∨ d < 1 ∨ mdays y m < d) : rightB y m d = false := by
  unfold rightB; rw [decide_eq_false_iff_not]; omega
theorem rightB_yes {y m d : Int} (h1 : 1 ≤ y) (h2 : y ≤ 9999) (h3 : 1 ≤ m) (h4 : m ≤ 12) (h5 : 1 ≤ d) (h6 : d ≤ mdays y m) : rightB y m d = true := by
  unfold rightB; rw [decide_eq_true_iff]; exact ⟨h1, h2, h3, h4, h5, h6⟩

end Go.Proofs.YtbpdjjihimplaaaDoor
