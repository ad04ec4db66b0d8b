/-
  My own text: layer 23: the mathematics of the document's order: counted edges, the best of what may stand.
-/
import Derived.Test.YtieinnhiaomliaaDoorLO2
namespace Go.Proofs.YtieinnhiaomliaaDoor
open Go.RowKit

theorem awt_take {E : List (Nat × Nat)} {i : Nat} {p : Nat × Nat} (h : E[i]? = some p) (y : Nat) : awt (E.take (i + 1)) [] y = awt (E.take i) [] y + (if p.2 = y then 1 else 0) := by
  unfold awt
  rw [List.take_add_one, h, List.countP_append]
  by_cases e : p.2 = y
  · simp [e]
  · simp [e]
theorem awt_whole (E : List (Nat × Nat)) (y : Nat) : awt (E.take E.length) [] y = awt E [] y := by rw [List.take_length]
theorem awt_none (y : Nat) (E : List (Nat × Nat)) : awt (E.take 0) [] y = 0 := by simp [awt]
/-- What a thing waits for while x is being put in: i edges are looked at. -/
def dF (E : List (Nat × Nat)) (row : List Nat) (x i y : Nat) : Int := (awt E row y : Int) - (((E.take i).countP fun p => p.1 == x && p.2 == y : Nat) : Int)
theorem dF_zero (E : List (Nat × Nat)) (row : List Nat) (x y : Nat) : dF E row x 0 y = (awt E row y : Int) := by simp [dF]
theorem dF_hit {E : List (Nat × Nat)} {row : List Nat} {x i : Nat} {p : Nat × Nat} (h : E[i]? = some p) (hx : p.1 = x) (y : Nat) : dF E row x (i + 1) y = dF E row x i y - (if p.2 = y then 1 else 0) := by
  unfold dF
  rw [List.take_add_one, h, List.countP_append]
  by_cases e : p.2 = y
  · simp [e, hx]; omega
  · simp [e, hx]
theorem dF_miss {E : List (Nat × Nat)} {row : List Nat} {x i : Nat} {p : Nat × Nat} (h : E[i]? = some p) (hx : p.1 ≠ x) (y : Nat) : dF E row x (i + 1) y = dF E row x i y := by
  unfold dF
  rw [List.take_add_one, h, List.countP_append]
  simp [hx]
theorem dF_end {E : List (Nat × Nat)} {row : List Nat} {x : Nat} (hx : x ∉ row) (y : Nat) : dF E row x E.length y = (awt E (row ++ [x]) y : Int) := by
  unfold dF
  rw [List.take_length, awt_snoc E row x y hx]
  omega
theorem dF_bound (E : List (Nat × Nat)) (row : List Nat) (x i y : Nat) : -(E.length : Int) ≤ dF E row x i y ∧ dF E row x i y ≤ E.length := by
  unfold dF awt
  have h1 := List.countP_le_length (p := fun p : Nat × Nat => p.2 == y && !(row.contains p.1)) (l := E)
  have h2 := List.countP_le_length (p := fun p : Nat × Nat => p.1 == x && p.2 == y) (l := E.take i)
  have h3 : (E.take i).length ≤ E.length := by rw [List.length_take]; omega
  omega
/-- The best of the first i things. -/
def BestOk (n : Nat) (E : List (Nat × Nat)) (pr : Nat → Int) (row : List Nat) (i : Nat) (b : Option Nat) : Prop :=
  match b with
  | none => ∀ y, y < i → ¬ Av n E row y
  | some x => x < i ∧ Av n E row x ∧ ∀ y, y < i → Av n E row y → y ≠ x → bf pr x y
def bV (b : Option Nat) : Int := match b with | none => -1 | some x => (x : Int)
theorem BestOk.start (n : Nat) (E : List (Nat × Nat)) (pr : Nat → Int) (row : List Nat) : BestOk n E pr row 0 none := fun y h => absurd h (Nat.not_lt_zero y)
theorem BestOk.skip {n : Nat} {E : List (Nat × Nat)} {pr : Nat → Int} {row : List Nat} {i : Nat} {b : Option Nat} (h : BestOk n E pr row i b) (k : ¬ Av n E row i) : BestOk n E pr row (i + 1) b := by
  cases b with
  | none =>
    intro y hy
    by_cases e : y = i
    · subst e; exact k
    · exact h y (by omega)
  | some x =>
    obtain ⟨h1, h2, h3⟩ := h
    refine ⟨by omega, h2, fun y hy ha hne => ?_⟩
    by_cases e : y = i
    · subst e; exact absurd ha k
    · exact h3 y (by omega) ha hne
theorem BestOk.first {n : Nat} {E : List (Nat × Nat)} {pr : Nat → Int} {row : List Nat} {i : Nat} (h : BestOk n E pr row i none) (k : Av n E row i) : BestOk n E pr row (i + 1) (some i) :=
  ⟨by omega, k, fun y hy ha hne => absurd ha (h y (by omega))⟩
theorem BestOk.more {n : Nat} {E : List (Nat × Nat)} {pr : Nat → Int} {row : List Nat} {i x : Nat} (h : BestOk n E pr row i (some x)) (k : Av n E row i) (hp : pr x < pr i) : BestOk n E pr row (i + 1) (some i) := by
  obtain ⟨h1, h2, h3⟩ := h
  refine ⟨by omega, k, fun y hy ha hne => ?_⟩
  by_cases e : y = x
  · subst e; exact .inl hp
  · rcases h3 y (by omega) ha e with q | ⟨q, _⟩
    · exact .inl (by omega)
    · exact .inl (by omega)
theorem BestOk.keep {n : Nat} {E : List (Nat × Nat)} {pr : Nat → Int} {row : List Nat} {i x : Nat} (h : BestOk n E pr row i (some x)) (hp : ¬ pr x < pr i) : BestOk n E pr row (i + 1) (some x) := by
  obtain ⟨h1, h2, h3⟩ := h
  refine ⟨by omega, h2, fun y hy ha hne => ?_⟩
  by_cases e : y = i
  · subst e
    by_cases q : pr y < pr x
    · exact .inl q
    · exact .inr ⟨by omega, h1⟩
  · exact h3 y (by omega) ha hne
theorem BestOk.nxt {n : Nat} {E : List (Nat × Nat)} {pr : Nat → Int} {row : List Nat} {x : Nat} (h : BestOk n E pr row n (some x)) : Nxt n E pr row x := ⟨h.2.1, fun y ha hne => h.2.2 y ha.1 ha hne⟩
theorem BestOk.none_ {n : Nat} {E : List (Nat × Nat)} {pr : Nat → Int} {row : List Nat} (h : BestOk n E pr row n none) : ∀ y, ¬ Av n E row y := fun _ ha => h _ ha.1 ha
/-- When all stand nothing more may. -/
theorem Gr'.all_stand {n : Nat} {E : List (Nat × Nat)} {pr : Nat → Int} {row : List Nat} (h : Gr' n E pr row) (hl : row.length = n) : ∀ y, ¬ Av n E row y := fun _ ha => ha.2.1 (all_in h.low.1 hl h.low.2 ha.1)
theorem Gr'.len_le {n : Nat} {E : List (Nat × Nat)} {pr : Nat → Int} {row : List Nat} (h : Gr' n E pr row) : row.length ≤ n := pigeon n row h.low.1 h.low.2
end Go.Proofs.YtieinnhiaomliaaDoor
