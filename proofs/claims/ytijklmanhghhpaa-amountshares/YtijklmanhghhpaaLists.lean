/-
  My own text: lists lent with marks behind them, and looked at again.
-/
import Derived.Test.YtijklmanhghhpaaInts
import Derived.Deep.AppendLies
namespace Go.Proofs.Ytijklmanhghhpaa
open Go.RowKit

theorem Try.infoLong : (Try.prog.info? 2).map (fun i => (i.zero, i.size, i.bytes)) = some (some (.int .i64 0), 1, 8) := by kernel_rfl
/-- The marks behind a list that is lent. -/
def marks : List Int := (List.range 16).map (fun i : Nat => (91000273 : Int) + (i : Int))
theorem marks_len : marks.length = 16 := by simp [marks]
theorem marks_at {j : Nat} (h : j < 16) : marks[j]? = some (91000273 + (j : Int)) := by
  unfold marks; rw [List.getElem?_map, List.getElem?_range h]; rfl
/-- A list of numbers of a kind, as cells. -/
def lv (K : IntKind) (l : List Int) : List Value := l.map (Value.int K)
theorem lv_nil (K : IntKind) : lv K [] = [] := rfl
theorem lv_len (K : IntKind) (l : List Int) : (lv K l).length = l.length := by simp [lv]
theorem lv_snoc {K : IntKind} {l : List Int} {k : Nat} {x : Int} (h : l[k]? = some x) : lv K (l.take (k + 1)) = lv K (l.take k) ++ [.int K x] := by
  unfold lv; rw [List.take_add_one, h]; simp
theorem lv_app (K : IntKind) (l m : List Int) : lv K (l ++ m) = lv K l ++ lv K m := by simp [lv]
theorem len_take {l : List Int} {k : Nat} (h : k ≤ l.length) : (l.take k).length = k := by simp; omega



/-- A list that was lent: its cells and its marks. -/
structure Lent (w : World) (B g cap : Nat) (l : List Int) : Prop where
  base : B ≤ g
  lt : g < w.heap.size
  cap : l.length + 16 ≤ cap
  cell : ∀ j x, (l ++ marks)[j]? = some x → w.cell? ⟨g, j, none⟩ = some (.int .i64 x)
theorem Lent.later {w w1 : World} {B g cap : Nat} {l : List Int} (h : Lent w B g cap l) (hb : Below w.heap.size w w1) : Lent w1 B g cap l :=
  ⟨h.base, Nat.lt_of_lt_of_le h.lt hb.size, h.cap, fun j x hx => (hb.cell (p := ⟨g, j, none⟩) h.lt).trans (h.cell j x hx)⟩
theorem Lent.ri {w : World} {B g cap : Nat} {l : List Int} (h : Lent w B g cap l) : RI w .i64 (.slice (some ⟨g, 0, none⟩) l.length cap) l :=
  ⟨_, _, rfl, .inr ⟨g, 0, rfl, h.lt, fun j x hx => by rw [Nat.zero_add]; exact h.cell j x (by rw [List.getElem?_append_left (by have := List.getElem?_eq_some_iff.1 hx; exact this.1)]; exact hx)⟩⟩
theorem lent_of_owns {w : World} {B : Nat} {v : Value} {l : List Int} (h : w.ownsRow B 2 1 v (l.length + 16) (lv .i64 (l ++ marks))) :
    ∃ g cap, v = .slice (some ⟨g, 0, none⟩) (l.length + 16) cap ∧ Lent w B g cap l := by
  obtain ⟨g, cap, rfl, hb, hlt⟩ := h.form (by omega)
  refine ⟨g, cap, rfl, hb, hlt, ?_, fun j x hx => ?_⟩
  · rcases h.2 with ⟨_, h0⟩ | ⟨g', cap', cur, hv, _, _, hn, _⟩
    · omega
    · cases hv; exact hn
  · have hj : j < l.length + 16 := by have := (List.getElem?_eq_some_iff.1 hx).1; rw [List.length_append, marks_len] at this; exact this
    rw [World.ownsRow.cellAt h j (by omega)]
    unfold lv; rw [List.getElem?_map, hx]; rfl



end Go.Proofs.Ytijklmanhghhpaa
