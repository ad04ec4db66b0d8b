/-
  My own text: DMath, D1, D2, D3 in one.
-/
import Derived.Test.YtcdhblfefpkjgaaDoorProg
import Derived.WalkKit
import Derived.Test.YtcdhblfefpkjgaaDoorHeld
import Derived.RegionTactic
import Derived.WalkSmall
import Derived.Deep.QuietTactic
import Derived.BigQuiet
import Derived.Lib.LaidTab
namespace Go.Proofs.YtcdhblfefpkjgaaDoor

def leapI (y : Int) : Bool := decide (y % 4 = 0 ∧ (y % 100 ≠ 0 ∨ y % 400 = 0))
def mdays (y m : Int) : Int := if m = 2 then (if leapI y then 29 else 28) else if m = 4 ∨ m = 6 ∨ m = 9 ∨ m = 11 then 30 else 31
def ydays (y : Int) : Int := if leapI y then 366 else 365
def aheadY (y : Int) : Int := 365 * (y - 1) + (y - 1) / 4 - (y - 1) / 100 + (y - 1) / 400
/-- The days of the months ahead of a month. -/
def aheadM (y m : Int) : Int :=
  if m ≤ 1 then 0 else if m = 2 then 31 else (if leapI y then 1 else 0) +
  (if m = 3 then 59 else if m = 4 then 90 else if m = 5 then 120 else if m = 6 then 151 else if m = 7 then 181 else if m = 8 then 212 else if m = 9 then 243 else if m = 10 then 273 else if m = 11 then 304 else if m = 12 then 334 else 365)
def numI (y m d : Int) : Int := aheadY y + aheadM y m + d

theorem leap_iff (y : Int) : leapI y = true ↔ y % 4 = 0 ∧ (y % 100 ≠ 0 ∨ y % 400 = 0) := by unfold leapI; simp
theorem mdays_b (y m : Int) : 28 ≤ mdays y m ∧ mdays y m ≤ 31 := by
  unfold mdays; split
  · split <;> omega
  · split <;> omega
theorem ydays_b (y : Int) : 365 ≤ ydays y ∧ ydays y ≤ 366 := by unfold ydays; split <;> omega
theorem aheadY_succ (y : Int) : aheadY (y + 1) = aheadY y + ydays y := by
  unfold aheadY ydays
  split
  · rename_i h; have := (leap_iff y).1 h; omega
  · rename_i h; have : ¬ _ := fun e => h ((leap_iff y).2 e); omega
theorem months {m : Int} (h1 : 1 ≤ m) (h2 : m ≤ 12) : m = 1 ∨ m = 2 ∨ m = 3 ∨ m = 4 ∨ m = 5 ∨ m = 6 ∨ m = 7 ∨ m = 8 ∨ m = 9 ∨ m = 10 ∨ m = 11 ∨ m = 12 := by omega
theorem aheadM_succ (y : Int) {m : Int} (h1 : 1 ≤ m) (h2 : m ≤ 12) : aheadM y (m + 1) = aheadM y m + mdays y m := by
  rcases months h1 h2 with rfl | rfl | rfl | rfl | rfl | rfl | rfl | rfl | rfl | rfl | rfl | rfl <;>
    simp [aheadM, mdays] <;> split <;> rfl
theorem aheadM_one (y : Int) : aheadM y 1 = 0 := rfl
theorem aheadM_last (y : Int) : aheadM y 13 = ydays y := by simp [aheadM, ydays]; split <;> rfl
theorem aheadM_b (y : Int) {m : Int} (h1 : 1 ≤ m) (h2 : m ≤ 12) : 0 ≤ aheadM y m ∧ aheadM y m + mdays y m ≤ ydays y := by
  rcases months h1 h2 with rfl | rfl | rfl | rfl | rfl | rfl | rfl | rfl | rfl | rfl | rfl | rfl <;>
    simp [aheadM, mdays, ydays] <;> split <;> omega
theorem aheadY_mono {a b : Int} (h : a ≤ b) : aheadY a ≤ aheadY b := by unfold aheadY; omega
theorem aheadY_last : aheadY 10000 = 3652059 := by decide
theorem aheadY_one : aheadY 1 = 0 := by decide
theorem aheadY_b {y : Int} (h1 : 1 ≤ y) (h2 : y ≤ 10000) : 0 ≤ aheadY y ∧ aheadY y ≤ 3652059 := by
  have a := aheadY_mono h1; have b := aheadY_mono h2; rw [aheadY_last] at b; rw [aheadY_one] at a; exact ⟨a, b⟩
theorem aheadM_mono (y : Int) {m k : Int} (h0 : 1 ≤ m) (h : m < k) (h2 : k ≤ 12) : aheadM y m + mdays y m ≤ aheadM y k := by
  rcases months h0 (by omega) with rfl | rfl | rfl | rfl | rfl | rfl | rfl | rfl | rfl | rfl | rfl | rfl <;>
  rcases months (m := k) (by omega) h2 with rfl | rfl | rfl | rfl | rfl | rfl | rfl | rfl | rfl | rfl | rfl | rfl <;>
  first | omega | (simp [aheadM, mdays]; split <;> omega) | (simp [aheadM, mdays])

/-- A right date of any year from 1 on. -/
structure RightD (y m d : Int) : Prop where
  y1 : 1 ≤ y
  m1 : 1 ≤ m
  m2 : m ≤ 12
  d1 : 1 ≤ d
  d2 : d ≤ mdays y m
theorem num_lt_year {y m d y' m' d' : Int} (h : RightD y m d) (h' : RightD y' m' d') (hy : y < y') : numI y m d < numI y' m' d' := by
  have a := (aheadM_b y h.m1 h.m2).2
  have b := (aheadM_b y' h'.m1 h'.m2).1
  have c := aheadY_mono (show y + 1 ≤ y' by omega)
  rw [aheadY_succ] at c
  have := h.d2; have := h'.d1
  unfold numI; omega
theorem num_lt_month {y m d m' d' : Int} (h : RightD y m d) (h' : RightD y m' d') (hm : m < m') : numI y m d < numI y m' d' := by
  have a := aheadM_mono y h.m1 hm h'.m2
  have := h.d2; have := h'.d1
  unfold numI; omega
theorem num_lt {y m d y' m' d' : Int} (h : RightD y m d) (h' : RightD y' m' d') (hn : numI y m d < numI y' m' d') :
    y < y' ∨ y = y' ∧ m < m' ∨ y = y' ∧ m = m' ∧ d < d' := by
  rcases Int.lt_trichotomy y y' with e | e | e
  · exact .inl e
  · subst e
    rcases Int.lt_trichotomy m m' with e | e | e
    · exact .inr (.inl ⟨rfl, e⟩)
    · subst e; exact .inr (.inr ⟨rfl, rfl, by unfold numI at hn; omega⟩)
    · have := num_lt_month h' h e; omega
  · have := num_lt_year h' h e; omega
theorem num_inj {y m d y' m' d' : Int} (h : RightD y m d) (h' : RightD y' m' d') (hn : numI y m d = numI y' m' d') :
    y = y' ∧ m = m' ∧ d = d' := by
  have a : ¬ y < y' := fun e => by have := num_lt_year h h' e; omega
  have b : ¬ y' < y := fun e => by have := num_lt_year h' h e; omega
  have e : y = y' := by omega
  subst e
  have a : ¬ m < m' := fun e => by have := num_lt_month h h' e; omega
  have b : ¬ m' < m := fun e => by have := num_lt_month h' h e; omega
  have e : m = m' := by omega
  subst e
  exact ⟨rfl, rfl, by unfold numI at hn; omega⟩
theorem num_b {y m d : Int} (h : RightD y m d) (hy : y ≤ 9999) : 1 ≤ numI y m d ∧ numI y m d ≤ 3652059 := by
  have a := aheadM_b y h.m1 h.m2
  have b := aheadY_b h.y1 (by omega)
  have c := aheadY_mono (show y + 1 ≤ 10000 by omega)
  rw [aheadY_succ, aheadY_last] at c
  have := h.d2; have := h.d1
  unfold numI; omega
theorem year_b {y m d : Int} (h : RightD y m d) (hn : numI y m d ≤ 3652059) : y ≤ 9999 := by
  have a := aheadM_b y h.m1 h.m2
  have := h.d2; have := h.d1
  by_cases e : 9999 < y
  · have c := aheadY_mono (show 10000 ≤ y by omega)
    rw [aheadY_last] at c
    unfold numI at hn; omega
  · omega
/-- The program's first guess of the year. -/
theorem guess {n : Int} (h1 : 1 ≤ n) : 1 ≤ (n - 1) * 400 / 146097 + 1 ∧ aheadY ((n - 1) * 400 / 146097 + 1) < n ∧ n ≤ aheadY ((n - 1) * 400 / 146097 + 1 + 1 + 1) := by
  unfold aheadY; omega
/-- The date of a day: year, month, day. -/
def yearI (n : Int) : Int := if aheadY ((n - 1) * 400 / 146097 + 1 + 1) < n then (n - 1) * 400 / 146097 + 1 + 1 else (n - 1) * 400 / 146097 + 1
theorem yearI_spec {n : Int} (h1 : 1 ≤ n) : 1 ≤ yearI n ∧ aheadY (yearI n) < n ∧ n ≤ aheadY (yearI n + 1) := by
  obtain ⟨a, b, c⟩ := guess h1
  unfold yearI; split
  · rename_i h; exact ⟨by omega, h, c⟩
  · rename_i h; exact ⟨a, b, by omega⟩
theorem yearI_of {n y : Int} (hn : 1 ≤ n) (h1 : aheadY y < n) (h2 : n ≤ aheadY (y + 1)) : yearI n = y := by
  obtain ⟨a, b, c⟩ := yearI_spec hn
  rcases Int.lt_trichotomy (yearI n) y with e | e | e
  · have := aheadY_mono (show yearI n + 1 ≤ y by omega); omega
  · exact e
  · have := aheadY_mono (show y + 1 ≤ yearI n by omega); omega
def monthI (n : Int) : Int :=
  let y := yearI n
  let r := n - aheadY y
  if r ≤ aheadM y 2 then 1 else if r ≤ aheadM y 3 then 2 else if r ≤ aheadM y 4 then 3 else if r ≤ aheadM y 5 then 4 else if r ≤ aheadM y 6 then 5 else if r ≤ aheadM y 7 then 6 else if r ≤ aheadM y 8 then 7 else if r ≤ aheadM y 9 then 8 else if r ≤ aheadM y 10 then 9 else if r ≤ aheadM y 11 then 10 else if r ≤ aheadM y 12 then 11 else 12
def dayI (n : Int) : Int := n - aheadY (yearI n) - aheadM (yearI n) (monthI n)
theorem dateI_right {n : Int} (h1 : 1 ≤ n) : RightD (yearI n) (monthI n) (dayI n) ∧ numI (yearI n) (monthI n) (dayI n) = n := by
  obtain ⟨a, b, c⟩ := yearI_spec h1
  refine ⟨?_, by unfold numI dayI; omega⟩
  rw [aheadY_succ] at c
  unfold dayI monthI
  generalize yearI n = y at *
  have L := aheadM_last y
  have S : ∀ m : Int, 1 ≤ m → m ≤ 12 → aheadM y (m + 1) = aheadM y m + mdays y m := fun m h1 h2 => aheadM_succ y h1 h2
  have S1 : aheadM y 2 = aheadM y 1 + mdays y 1 := S 1 (by omega) (by omega)
  have S2 : aheadM y 3 = aheadM y 2 + mdays y 2 := S 2 (by omega) (by omega)
  have S3 : aheadM y 4 = aheadM y 3 + mdays y 3 := S 3 (by omega) (by omega)
  have S4 : aheadM y 5 = aheadM y 4 + mdays y 4 := S 4 (by omega) (by omega)
  have S5 : aheadM y 6 = aheadM y 5 + mdays y 5 := S 5 (by omega) (by omega)
  have S6 : aheadM y 7 = aheadM y 6 + mdays y 6 := S 6 (by omega) (by omega)
  have S7 : aheadM y 8 = aheadM y 7 + mdays y 7 := S 7 (by omega) (by omega)
  have S8 : aheadM y 9 = aheadM y 8 + mdays y 8 := S 8 (by omega) (by omega)
  have S9 : aheadM y 10 = aheadM y 9 + mdays y 9 := S 9 (by omega) (by omega)
  have S10 : aheadM y 11 = aheadM y 10 + mdays y 10 := S 10 (by omega) (by omega)
  have S11 : aheadM y 12 = aheadM y 11 + mdays y 11 := S 11 (by omega) (by omega)
  have S12 : aheadM y 13 = aheadM y 12 + mdays y 12 := S 12 (by omega) (by omega)
  have O := aheadM_one y
  clear S
  dsimp only
  by_cases c2 : n - aheadY y ≤ aheadM y 2
  · simp only [if_pos c2]; exact ⟨a, by omega, by omega, by omega, by omega⟩
  simp only [if_neg c2]
  by_cases c3 : n - aheadY y ≤ aheadM y 3
  · simp only [if_pos c3]; exact ⟨a, by omega, by omega, by omega, by omega⟩
  simp only [if_neg c3]
  by_cases c4 : n - aheadY y ≤ aheadM y 4
  · simp only [if_pos c4]; exact ⟨a, by omega, by omega, by omega, by omega⟩
  simp only [if_neg c4]
  by_cases c5 : n - aheadY y ≤ aheadM y 5
  · simp only [if_pos c5]; exact ⟨a, by omega, by omega, by omega, by omega⟩
  simp only [if_neg c5]
  by_cases c6 : n - aheadY y ≤ aheadM y 6
  · simp only [if_pos c6]; exact ⟨a, by omega, by omega, by omega, by omega⟩
  simp only [if_neg c6]
  by_cases c7 : n - aheadY y ≤ aheadM y 7
  · simp only [if_pos c7]; exact ⟨a, by omega, by omega, by omega, by omega⟩
  simp only [if_neg c7]
  by_cases c8 : n - aheadY y ≤ aheadM y 8
  · simp only [if_pos c8]; exact ⟨a, by omega, by omega, by omega, by omega⟩
  simp only [if_neg c8]
  by_cases c9 : n - aheadY y ≤ aheadM y 9
  · simp only [if_pos c9]; exact ⟨a, by omega, by omega, by omega, by omega⟩
  simp only [if_neg c9]
  by_cases c10 : n - aheadY y ≤ aheadM y 10
  · simp only [if_pos c10]; exact ⟨a, by omega, by omega, by omega, by omega⟩
  simp only [if_neg c10]
  by_cases c11 : n - aheadY y ≤ aheadM y 11
  · simp only [if_pos c11]; exact ⟨a, by omega, by omega, by omega, by omega⟩
  simp only [if_neg c11]
  by_cases c12 : n - aheadY y ≤ aheadM y 12
  · simp only [if_pos c12]; exact ⟨a, by omega, by omega, by omega, by omega⟩
  simp only [if_neg c12]
  exact ⟨a, by omega, by omega, by omega, by omega⟩
theorem dateI_of {n y m d : Int} (h : RightD y m d) (hn : numI y m d = n) (h1 : 1 ≤ n) : yearI n = y ∧ monthI n = m ∧ dayI n = d := by
  obtain ⟨a, b⟩ := dateI_right h1
  exact num_inj a h (by rw [b, hn])
end Go.Proofs.YtcdhblfefpkjgaaDoor
namespace Go.Proofs.YtcdhblfefpkjgaaDoor
open Go.RowKit

theorem ret_b {a b : Bool} (h : a = b) : Ending.returned (.bool a) = .returned (.bool b) := by rw [h]
theorem ret_v {a b : Value} (h : a = b) : Ending.returned a = .returned b := by rw [h]
theorem ret_i {a b : Int} (h : a = b) : Ending.returned (.int .i64 a) = .returned (.int .i64 b) := by rw [h]
def dayB (n : Int) : Bool := decide (1 ≤ n ∧ n ≤ 3652059)
def yearB (y : Int) : Bool := decide (1 ≤ y ∧ y ≤ 9999)
theorem dayB_yes {n : Int} (h1 : 1 ≤ n) (h2 : n ≤ 3652059) : dayB n = true := by unfold dayB; simp; omega
theorem dayB_no {n : Int} (h : n < 1 ∨ 3652059 < n) : dayB n = false := by unfold dayB; simp; omega
theorem yearB_yes {n : Int} (h1 : 1 ≤ n) (h2 : n ≤ 9999) : yearB n = true := by unfold yearB; simp; omega
theorem yearB_no {n : Int} (h : n < 1 ∨ 9999 < n) : yearB n = false := by unfold yearB; simp; omega

end Go.Proofs.YtcdhblfefpkjgaaDoor
namespace Go.Proofs.YtcdhblfefpkjgaaDoor
open Go.RowKit

def mTab : List Int := [31, 28, 31, 30, 31, 30, 31, 31, 30, 31, 30, 31]
/-- The table of the months' lengths lies as it was laid. -/
def MDays (w : World) : Prop := Lib.TabIs Tryd.prog w "custody/calendar.monthDays" .i64 mTab
/-- A date as a value. -/
def dateV (y m d : Int) : Value := .agg #[.int .i64 y, .int .i64 m, .int .i64 d]
def rightB (y m d : Int) : Bool := decide (1 ≤ y ∧ y ≤ 9999 ∧ 1 ≤ m ∧ m ≤ 12 ∧ 1 ≤ d ∧ d ≤ mdays y m)
theorem rightB_iff (y m d : Int) : rightB y m d = true ↔ RightD y m d ∧ y ≤ 9999 := by
  unfold rightB
  rw [decide_eq_true_iff]
  exact ⟨fun ⟨a, b, c, d, e, f⟩ => ⟨⟨a, c, d, e, f⟩, b⟩, fun ⟨⟨a, c, d, e, f⟩, b⟩ => ⟨a, b, c, d, e, f⟩⟩
theorem rightB_no {y m d : Int} (h : y < 1 ∨ 9999 < y ∨ m < 1 ∨ 12 < m ∨ d < 1 ∨ mdays y m < d) : rightB y m d = false := by
  unfold rightB; rw [decide_eq_false_iff_not]; omega
theorem rightB_yes {y m d : Int} (h1 : 1 ≤ y) (h2 : y ≤ 9999) (h3 : 1 ≤ m) (h4 : m ≤ 12) (h5 : 1 ≤ d) (h6 : d ≤ mdays y m) : rightB y m d = true := by
  unfold rightB; rw [decide_eq_true_iff]; exact ⟨h1, h2, h3, h4, h5, h6⟩

end Go.Proofs.YtcdhblfefpkjgaaDoor
namespace Go.Proofs.YtcdhblfefpkjgaaDoor
open Go.RowKit

theorem ret_ii {a b c d : Int} (h : a = c) (h' : b = d) : Ending.returned (.tuple #[.int .i64 a, .int .i64 b]) = .returned (.tuple #[.int .i64 c, .int .i64 d]) := by rw [h, h']
def numV (y m d : Int) : Int := if rightB y m d then numI y m d else 0
def numE (y m d : Int) : Int := if rightB y m d then 0 else 8
theorem num_bad {y m d : Int} (h : rightB y m d = false) : numV y m d = 0 ∧ numE y m d = 8 := by unfold numV numE; rw [h]; exact ⟨rfl, rfl⟩
theorem num_ok {y m d : Int} (h : rightB y m d = true) : numV y m d = numI y m d ∧ numE y m d = 0 := by unfold numV numE; rw [h]; exact ⟨rfl, rfl⟩
end Go.Proofs.YtcdhblfefpkjgaaDoor
