/-
  My own text: parts and moneys by the document; the laws on them.
-/
import Derived.Test.YtmojckejjjlkjabY2
import Derived.Test.YtmojckejjjlkjabG0
namespace Go.Proofs.Ytmojckejjjlkjab
open Go.RowKit

theorem four_cells {w : World} {o : Obj} {a b c d : Value} {t : TypeId} {g : Nat} (h : w.heap[g]? = some o) (ho : o = .cells #[a, b, c, d] t (0, 0)) : w.cell? ⟨g, 0, none⟩ = some a ∧ w.cell? ⟨g, 1, none⟩ = some b ∧ w.cell? ⟨g, 2, none⟩ = some c ∧ w.cell? ⟨g, 3, none⟩ = some d := by
  subst ho
  exact ⟨by rw [cell_of_row _ _ 0 _ _ _ h]; rfl, by rw [cell_of_row _ _ 1 _ _ _ h]; rfl, by rw [cell_of_row _ _ 2 _ _ _ h]; rfl, by rw [cell_of_row _ _ 3 _ _ _ h]; rfl⟩
/-- A box of four behind a call. -/
theorem four_kept {w w1 : World} {a b c d : Value} {t : TypeId} (hb : Below (w.alloc (.cells #[a, b, c, d] t)).heap.size (w.alloc (.cells #[a, b, c, d] t)) w1) :
    Below w.heap.size w w1 ∧ w.heap.size < w1.heap.size ∧ w1.heap[w.heap.size]? = some (.cells #[a, b, c, d] t (0, 0)) ∧ w1.cell? ⟨w.heap.size, 0, none⟩ = some a ∧ w1.cell? ⟨w.heap.size, 1, none⟩ = some b ∧ w1.cell? ⟨w.heap.size, 2, none⟩ = some c ∧ w1.cell? ⟨w.heap.size, 3, none⟩ = some d := by
  have h0 := alloc_new w (.cells #[a, b, c, d] t)
  have hl := (Array.getElem?_eq_some_iff.1 h0).1
  have h1 := (hb.block w.heap.size hl).trans h0
  exact ⟨((Below.refl w.heap.size w).alloc (Nat.le_refl _) _).trans (hb.mono ((Below.refl w.heap.size w).alloc (Nat.le_refl _) _).size), Nat.lt_of_lt_of_le hl hb.size, h1, four_cells h1 rfl⟩
/-! what all laws ask first -/
theorem part_90 (w : World) : Calls Try.prog 10 #[.int .i64 100, .int .i64 30, .int .i64 0, .int .i64 99] w fun e w' => e = .returned (.tuple #[.int .i64 90, .nilIface]) ∧ Below w.heap.size w w' := part_any 100 30 0 99 w (by decide) (by decide)
theorem money_4 (w : World) : Calls Try.prog 6 #[.int .i64 3, .int .i64 10, .int .i64 2, .int .i64 1] w fun e w' => e = .returned (.tuple #[.int .i64 4, .nilIface]) ∧ Below w.heap.size w w' := money_any 3 10 2 1 w (by decide) (by decide) (by decide)
set_option maxHeartbeats 1000000 in
theorem works_any (w : World) : Calls Try.prog 7 #[] w fun e w' => e = .returned (.bool true) ∧ Below w.heap.size w w' := by
  go_enter Try.func7, Try.ntmps7
  go_wp2_with fail
  refine (part_90 _).mono ?_
  rintro e w1 ⟨rfl, hb1⟩
  go_wp2_with fail
  refine (money_4 _).mono ?_
  rintro e w2 ⟨rfl, hb2⟩
  go_wp2_with fail
  go_ret
  exact ⟨rfl, hb1.trans (hb2.mono hb1.size)⟩
end Go.Proofs.Ytmojckejjjlkjab
