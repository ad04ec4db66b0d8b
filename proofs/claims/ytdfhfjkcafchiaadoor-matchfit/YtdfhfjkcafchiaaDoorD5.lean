/-
  My own text: D3, D4, D5 in one.
-/
import Derived.Test.YtdfhfjkcafchiaaDoorD2
import Derived.Test.YtdfhfjkcafchiaaDoorRow
namespace Go.Proofs.YtdfhfjkcafchiaaDoor
open Go.RowKit

theorem ret_ii {a b c d : Int} (h : a = c) (h' : b = d) : Ending.returned (.tuple #[.int .i64 a, .int .i64 b]) = .returned (.tuple #[.int .i64 c, .int .i64 d]) := by rw [h, h']
def numV (y m d : Int) : Int := if rightB y m d then numI y m d else 0
def numE (y m d : Int) : Int := if rightB y m d then 0 else 8
theorem num_bad {y m d : Int} (h : rightB y m d = false) : numV y m d = 0 ∧ numE y m d = 8 := by unfold numV numE; rw [h]; exact ⟨rfl, rfl⟩
theorem num_ok {y m d : Int} (h : rightB y m d = true) : numV y m d = numI y m d ∧ numE y m d = 0 := by unfold numV numE; rw [h]; exact ⟨rfl, rfl⟩
end Go.Proofs.YtdfhfjkcafchiaaDoor
namespace Go.Proofs.YtdfhfjkcafchiaaDoor
open Go.RowKit

theorem ret_date {a b c a' b' c' : Int} (h1 : a = a') (h2 : b = b') (h3 : c = c') : Ending.returned (.agg #[.int .i64 a, .int .i64 b, .int .i64 c]) = .returned (dateV a' b' c') := by rw [h1, h2, h3]; rfl
theorem month_next {Y r k x : Int} (h : x = r - aheadM Y k) (hb : r ≤ ydays Y) (k1 : 1 ≤ k) (k2 : k ≤ 12) (hx : mdays Y k < x) : k < 12 := by
  by_cases e : k = 12
  · subst e
    have h1 := aheadM_succ Y (m := 12) (by omega) (by omega)
    have h2 := aheadM_last Y
    rw [show (12 : Int) + 1 = 13 from rfl] at h1
    omega
  · omega
theorem date_is {n Y k x : Int} (h1 : 1 ≤ n) (y1 : 1 ≤ Y) (k1 : 1 ≤ k) (k2 : k ≤ 12) (x1 : 1 ≤ x) (x2 : x ≤ mdays Y k) (h : x = n - aheadY Y - aheadM Y k) : yearI n = Y ∧ monthI n = k ∧ dayI n = x :=
  dateI_of ⟨y1, k1, k2, x1, x2⟩ (by unfold numI; omega) h1
theorem guess_b {n : Int} (h1 : 1 ≤ n) (h2 : n ≤ 3652059) : 0 ≤ (n - 1) * 400 / 146097 ∧ (n - 1) * 400 / 146097 ≤ 9998 := by omega

theorem cell_apart {w : World} {b o b' o' : Nat} {v x : Value} (h : w.cell? ⟨b', o', none⟩ = some x) (hne : b ≠ b' ∨ o ≠ o') : (w.setCell ⟨b, o, none⟩ v).cell? ⟨b', o', none⟩ = some x := by
  rw [World.cell?_setCell_other _ _ _ _ (by intro e; simp at e; omega)]; exact h
/-- A date's variable, in whatever later world. -/
structure Trio (w : World) (b : Nat) (x y z : Int) : Prop where
  lt : b < w.heap.size
  c0 : w.cell? ⟨b, 0, none⟩ = some (.int .i64 x)
  c1 : w.cell? ⟨b, 1, none⟩ = some (.int .i64 y)
  c2 : w.cell? ⟨b, 2, none⟩ = some (.int .i64 z)
  f0 : w.frozen? ⟨b, 0, none⟩ = false
  f1 : w.frozen? ⟨b, 1, none⟩ = false
  f2 : w.frozen? ⟨b, 2, none⟩ = false
theorem Trio.later {w w1 : World} {b : Nat} {x y z : Int} (h : Trio w b x y z) (hb : Below w.heap.size w w1) : Trio w1 b x y z := by
  obtain ⟨hc, hf⟩ := bcell hb
  exact ⟨Nat.lt_of_lt_of_le h.lt hb.size, (hc _ _ h.lt).trans h.c0, (hc _ _ h.lt).trans h.c1, (hc _ _ h.lt).trans h.c2, (hf _ _ h.lt).trans h.f0, (hf _ _ h.lt).trans h.f1, (hf _ _ h.lt).trans h.f2⟩
theorem Trio.new (w : World) (x y z : Int) (t : TypeId) : Trio (w.alloc (.cells #[.int .i64 x, .int .i64 y, .int .i64 z] t)) w.heap.size x y z := by
  refine ⟨by simp, ?_, ?_, ?_, ?_, ?_, ?_⟩ <;> simp
theorem Trio.other {w : World} {b b' o : Nat} {x y z : Int} (h : Trio w b x y z) (v : Value) (hne : b' ≠ b) : Trio (w.setCell ⟨b', o, none⟩ v) b x y z :=
  ⟨by simpa using h.lt, cell_apart h.c0 (Or.inl hne), cell_apart h.c1 (Or.inl hne), cell_apart h.c2 (Or.inl hne), by rw [World.frozen?_setCell]; exact h.f0, by rw [World.frozen?_setCell]; exact h.f1, by rw [World.frozen?_setCell]; exact h.f2⟩
theorem Trio.put0 {w : World} {b : Nat} {x y z : Int} (h : Trio w b x y z) (u : Int) : Trio (w.setCell ⟨b, 0, none⟩ (.int .i64 u)) b u y z :=
  ⟨by simpa using h.lt, World.cell?_setCell_same _ _ _ h.c0, cell_apart h.c1 (by omega), cell_apart h.c2 (by omega), by rw [World.frozen?_setCell]; exact h.f0, by rw [World.frozen?_setCell]; exact h.f1, by rw [World.frozen?_setCell]; exact h.f2⟩
theorem Trio.put1 {w : World} {b : Nat} {x y z : Int} (h : Trio w b x y z) (u : Int) : Trio (w.setCell ⟨b, 1, none⟩ (.int .i64 u)) b x u z :=
  ⟨by simpa using h.lt, cell_apart h.c0 (by omega), World.cell?_setCell_same _ _ _ h.c1, cell_apart h.c2 (by omega), by rw [World.frozen?_setCell]; exact h.f0, by rw [World.frozen?_setCell]; exact h.f1, by rw [World.frozen?_setCell]; exact h.f2⟩
theorem Trio.put2 {w : World} {b : Nat} {x y z : Int} (h : Trio w b x y z) (u : Int) : Trio (w.setCell ⟨b, 2, none⟩ (.int .i64 u)) b x y u :=
  ⟨by simpa using h.lt, cell_apart h.c0 (by omega), cell_apart h.c1 (by omega), World.cell?_setCell_same _ _ _ h.c2, by rw [World.frozen?_setCell]; exact h.f0, by rw [World.frozen?_setCell]; exact h.f1, by rw [World.frozen?_setCell]; exact h.f2⟩
theorem Trio.alloc {w : World} {b : Nat} {x y z : Int} (h : Trio w b x y z) (o : Obj) : Trio (w.alloc o) b x y z := h.later ((Below.refl _ _).alloc (Nat.le_refl _) _)
def ofV (n : Int) : Value := if dayB n then dateV (yearI n) (monthI n) (dayI n) else dateV 0 0 0
def ofE (n : Int) : Int := if dayB n then 0 else 8
theorem of_bad {n : Int} (h : dayB n = false) : ofV n = dateV 0 0 0 ∧ ofE n = 8 := by unfold ofV ofE; rw [h]; exact ⟨rfl, rfl⟩
theorem of_ok {n : Int} (h : dayB n = true) : ofV n = dateV (yearI n) (monthI n) (dayI n) ∧ ofE n = 0 := by unfold ofV ofE; rw [h]; exact ⟨rfl, rfl⟩
theorem dayB_iff (n : Int) : dayB n = true ↔ 1 ≤ n ∧ n ≤ 3652059 := by unfold dayB; rw [decide_eq_true_iff]
theorem ret_datei {a b c a' b' c' e e' : Int} (h1 : a = a') (h2 : b = b') (h3 : c = c') (h4 : e = e') : Ending.returned (.tuple #[.agg #[.int .i64 a, .int .i64 b, .int .i64 c], .int .i64 e]) = .returned (.tuple #[dateV a' b' c', .int .i64 e']) := by rw [h1, h2, h3, h4]; rfl
end Go.Proofs.YtdfhfjkcafchiaaDoor
namespace Go.Proofs.YtdfhfjkcafchiaaDoor
open Go.RowKit

theorem yearI_b {n : Int} (h1 : 1 ≤ n) (h2 : n ≤ 3652059) : 1 ≤ yearI n ∧ yearI n ≤ 9999 := by
  obtain ⟨a, b⟩ := dateI_right h1
  exact ⟨a.y1, year_b a (by omega)⟩
theorem ret_dv {a b : Value} {x y : Value} (h : a = b) (h2 : x = y) : Ending.returned (.tuple #[a, x]) = .returned (.tuple #[b, y]) := by rw [h, h2]
theorem ret_iv {a b : Int} {x y : Value} (h : a = b) (h2 : x = y) : Ending.returned (.tuple #[.int .i64 a, x]) = .returned (.tuple #[.int .i64 b, y]) := by rw [h, h2]
theorem ret_iiv {a b c d : Int} {x y : Value} (h : a = b) (h1 : c = d) (h2 : x = y) : Ending.returned (.tuple #[.int .i64 a, .int .i64 c, x]) = .returned (.tuple #[.int .i64 b, .int .i64 d, y]) := by rw [h, h1, h2]
/-- The day of the week, 0 where there is no day. -/
def wdV (n : Int) : Int := if dayB n then (n - 1) % 7 else 0
theorem wd_bad {n : Int} (h : dayB n = false) : wdV n = 0 := by unfold wdV; rw [h]; rfl
theorem wd_ok {n : Int} (h : dayB n = true) : wdV n = (n - 1) % 7 := by unfold wdV; rw [h]; rfl
/-- The Thursday of a day's week. -/
def midI (n : Int) : Int := n - (n - 1) % 7 + 3
theorem mid_b {n : Int} (h1 : 1 ≤ n) (h2 : n ≤ 3652059) : 4 ≤ midI n ∧ midI n ≤ 3652059 := by unfold midI; omega
def wyV (n : Int) : Int := if dayB n then yearI (midI n) else 0
def wkV (n : Int) : Int := if dayB n then (midI n - aheadY (yearI (midI n)) - 1) / 7 + 1 else 0
theorem wk_bad {n : Int} (h : dayB n = false) : wyV n = 0 ∧ wkV n = 0 := by unfold wyV wkV; rw [h]; exact ⟨rfl, rfl⟩
theorem wk_ok {n : Int} (h : dayB n = true) : wyV n = yearI (midI n) ∧ wkV n = (midI n - aheadY (yearI (midI n)) - 1) / 7 + 1 := by unfold wyV wkV; rw [h]; exact ⟨rfl, rfl⟩
end Go.Proofs.YtdfhfjkcafchiaaDoor
