/-
  My own text: dealing out: the document's answer: its first loop.
-/
import Derived.Test.YtijklmanhghhpaaSplit
import Derived.Test.YtijklmanhghhpaaSelMath
import Derived.Test.YtijklmanhghhpaaRefMulDiv
import Derived.Test.YtijklmanhghhpaaLists
import Derived.RegionTactic
import Derived.WalkSmall
import Derived.Deep.QuietTactic
namespace Go.Proofs.Ytijklmanhghhpaa
open Go.RowKit

theorem Try.infoBool : (Try.prog.info? 4).map (fun i => (i.zero, i.size, i.bytes)) = some (some (.bool false), 1, 1) := by kernel_rfl
/-- A row of one's own, of another type of cells than the one that has grown, is as it was. -/
theorem keep_other {w w' : World} {row : Option Nat} {B n : Nat} {e e' : TypeId} {v : Value} {xs : List Value} (hg : w.grownBy w' row) (hrow : ∀ g, row = some g → ∃ c fz, w.heap[g]? = some (.cells c e fz))
    (h : w.ownsRow B e' 1 v n xs) (hne : e ≠ e') : w'.ownsRow B e' 1 v n xs := by
  refine ⟨h.1, ?_⟩
  rcases h.2 with h2 | ⟨g, cap, cur, hv, hb, hh, h3⟩
  · exact .inl h2
  · have hlt : g < w.heap.size := by
      by_cases hc : g < w.heap.size
      · exact hc
      · rw [Array.getElem?_eq_none (by omega)] at hh; cases hh
    refine .inr ⟨g, cap, cur, hv, hb, ?_, h3⟩
    rw [hg.block g hlt ?_]; exact hh
    intro hr
    obtain ⟨c, fz, hc⟩ := hrow g hr.symm
    rw [hh] at hc
    cases hc
    exact hne rfl
theorem keep_block {w w' : World} {row : Option Nat} {e t : TypeId} {b : Nat} {cs : Array Value} {fz : Nat × Nat} (hg : w.grownBy w' row) (hrow : ∀ g, row = some g → ∃ c fz, w.heap[g]? = some (.cells c e fz))
    (hh : w.heap[b]? = some (.cells cs t fz)) (hne : e ≠ t) : w'.heap[b]? = some (.cells cs t fz) := by
  have hlt : b < w.heap.size := by
    by_cases hc : b < w.heap.size
    · exact hc
    · rw [Array.getElem?_eq_none (by omega)] at hh; cases hh
  rw [hg.block b hlt ?_]; exact hh
  intro hr
  obtain ⟨c, fz', hc⟩ := hrow b hr.symm
  rw [hh] at hc
  cases hc
  exact hne rfl
theorem block_alloc {w : World} {b : Nat} {o x : Obj} (hh : w.heap[b]? = some x) : (w.alloc o).heap[b]? = some x := by
  have hlt : b < w.heap.size := by
    by_cases hc : b < w.heap.size
    · exact hc
    · rw [Array.getElem?_eq_none (by omega)] at hh; cases hh
  rw [Below.heap_alloc _ _ _ hlt]; exact hh
theorem block_new (w : World) (o : Obj) : (w.alloc o).heap[w.heap.size]? = some o := (MapKept.heap_alloc w o).1
theorem cell_of_block {w : World} {b : Nat} {x y : Value} {t : TypeId} (hh : w.heap[b]? = some (.cells #[x, y] t)) : w.cell? ⟨b, 1, none⟩ = some y := by simp [World.cell?, hh]
theorem own_kind {w : World} {B n : Nat} {e : TypeId} {v : Value} {xs : List Value} (h : w.ownsRow B e 1 v n xs) : ∀ g, v.ownBlock = some g → ∃ c fz, w.heap[g]? = some (.cells c e fz) := by
  intro g hg
  rcases h.2 with ⟨rfl, _⟩ | ⟨g', cap, cur, rfl, hb, hh, h3⟩
  · cases hg
  · cases hg; exact ⟨cur, (0, 0), hh⟩
theorem own_later {w w' : World} {B n : Nat} {e : TypeId} {v : Value} {xs : List Value} (h : w.ownsRow B e 1 v n xs) (hb : Below w.heap.size w w') : w'.ownsRow B e 1 v n xs := by
  refine ⟨h.1, ?_⟩
  rcases h.2 with h2 | ⟨g, cap, cur, hv, hg, hh, h3⟩
  · exact .inl h2
  · have hlt : g < w.heap.size := by
      by_cases hc : g < w.heap.size
      · exact hc
      · rw [Array.getElem?_eq_none (by omega)] at hh; cases hh
    exact .inr ⟨g, cap, cur, hv, hg, (hb.block g hlt).trans hh, h3⟩

/-- The first n cells of a block, none frozen. -/
def RowC (w : World) (g n : Nat) (f : Nat → Value) : Prop := g < w.heap.size ∧ ∀ j, j < n → w.cell? ⟨g, j, none⟩ = some (f j) ∧ w.frozen? ⟨g, j, none⟩ = false
theorem RowC.drewN {w : World} {g n : Nat} {f : Nat → Value} (h : RowC w g n f) (k : Nat) : RowC (w.drewN k) g n f := h
theorem RowC.other {w : World} {g n g' i : Nat} {f : Nat → Value} {v : Value} (h : RowC w g n f) (hne : g' ≠ g) : RowC (w.setCell ⟨g', i, none⟩ v) g n f :=
  ⟨by simpa using h.1, fun j hj => ⟨cell_other (h.2 j hj).1 (Or.inl hne), by rw [World.frozen?_setCell]; exact (h.2 j hj).2⟩⟩
theorem RowC.set {w : World} {g n i : Nat} {f f' : Nat → Value} {v : Value} (h : RowC w g n f) (hf : ∀ j, j < n → (if j = i then v else f j) = f' j) : RowC (w.setCell ⟨g, i, none⟩ v) g n f' := by
  refine ⟨by simpa using h.1, fun j hj => ⟨?_, by rw [World.frozen?_setCell]; exact (h.2 j hj).2⟩⟩
  rw [← hf j hj]
  by_cases e : j = i
  · subst e; rw [if_pos rfl]; exact World.cell?_setCell_same _ _ _ (h.2 j hj).1
  · rw [if_neg e]; exact cell_other (h.2 j hj).1 (Or.inr (fun h => e h.symm))
theorem rowC_of_owns {w : World} {B n : Nat} {e : TypeId} {v : Value} {xs : List Value} {f : Nat → Value} (h : w.ownsRow B e 1 v n xs) (h0 : 0 < n) (hf : ∀ j, j < n → xs[j]? = some (f j)) :
    ∃ g cap cs, v = .slice (some ⟨g, 0, none⟩) n cap ∧ B ≤ g ∧ RowC w g n f ∧ w.heap[g]? = some (.cells cs e) := by
  obtain ⟨g, cap, rfl, hb, hlt⟩ := h.form h0
  rcases h.2 with ⟨_, h2⟩ | ⟨g', cap', cur, hv, _, hh, hn, _⟩
  · omega
  · cases hv
    exact ⟨g, cap, cur, rfl, hb, ⟨hlt, fun j hj => ⟨by rw [World.ownsRow.cellAt h j (by omega)]; exact hf j hj, by simp [World.frozen?, hh]⟩⟩, hh⟩
theorem blocks_ne {w : World} {g g' : Nat} {cs cs' : Array Value} {e e' : TypeId} (h : w.heap[g]? = some (.cells cs e)) (h' : w.heap[g']? = some (.cells cs' e')) (hne : e ≠ e') : g ≠ g' := by
  intro hg; subst hg; rw [h] at h'; cases h'; exact hne rfl
def splitL (n S : Int) (l : List Int) (D : List Nat) : List Int := (List.range l.length).map fun j => dealt (fun j => n * l.getD j 0 / S) D j

end Go.Proofs.Ytijklmanhghhpaa
