/-
  My own text: the closed law on amounts: parts.
-/
import Derived.Test.YthmbfdjbjljaiaaGreatDoorSplitLaw
import Derived.Test.YthmbfdjbjljaiaaGreatDoorShares
import Derived.Test.YthmbfdjbjljaiaaGreatDoorAK2
namespace Go.Proofs.YthmbfdjbjljaiaaGreatDoor
open Go.RowKit

/-- Lists laid one behind the other. -/
def allocs (t : TypeId) : World → List (List Int) → World
  | w, [] => w
  | w, l :: r => allocs t (w.alloc (.cells (l.map (Value.int .i64)).toArray t)) r
theorem allocs_below (t : TypeId) : ∀ (L : List (List Int)) (w : World), Below w.heap.size w (allocs t w L)
  | [], w => Below.refl _ _
  | l :: r, w => by
    have h := allocs_below t r (w.alloc (.cells (l.map (Value.int .i64)).toArray t))
    exact below_on ((Below.refl _ _).alloc (Nat.le_refl _) _) h (Nat.le_refl _)
theorem allocs_size (t : TypeId) : ∀ (L : List (List Int)) (w : World), (allocs t w L).heap.size = w.heap.size + L.length
  | [], w => rfl
  | l :: r, w => by show (allocs t (w.alloc _) r).heap.size = _; rw [allocs_size t r]; simp; omega
theorem RI.new (w : World) (L : List Int) (t : TypeId) (c : Nat) : RI (w.alloc (.cells (L.map (Value.int .i64)).toArray t)) .i64 (.slice (some ⟨w.heap.size, 0, none⟩) L.length c) L := by
  have h := (MapKept.heap_alloc w (.cells (L.map (Value.int .i64)).toArray t)).1
  refine ⟨_, _, rfl, .inr ⟨w.heap.size, 0, rfl, by simp, fun j x hx => ?_⟩⟩
  unfold World.cell?
  rw [Nat.zero_add, h]
  have hj := (List.getElem?_eq_some_iff.1 hx).1
  simp [hx]
theorem allocs_ri (t : TypeId) : ∀ (L : List (List Int)) (w : World) (i : Nat) (l : List Int) (c : Nat), L[i]? = some l → RI (allocs t w L) .i64 (.slice (some ⟨w.heap.size + i, 0, none⟩) l.length c) l
  | [], w, i, l, c, h => by simp at h
  | l0 :: r, w, 0, l, c, h => by
    have e : l0 = l := by simpa using h
    subst e
    exact (RI.new w l0 t c).later (allocs_below t r _)
  | l0 :: r, w, i + 1, l, c, h => by
    have h2 := allocs_ri t r (w.alloc (.cells (l0.map (Value.int .i64)).toArray t)) i l c (by simpa using h)
    rw [show (w.alloc (.cells (l0.map (Value.int .i64)).toArray t)).heap.size + i = w.heap.size + (i + 1) by simp; omega] at h2
    exact h2
/-- Lists behind slices in a block's first cells. -/
def SL (W : World) (g n : Nat) : Prop := g < W.heap.size ∧ ∀ j, j < n → ∃ (a : Option Addr) (c : Nat) (l : List Int), W.cell? ⟨g, j, none⟩ = some (.slice a l.length c) ∧ RI W .i64 (.slice a l.length c) l ∧ l.length ≤ 1000 ∧ ∀ x ∈ l, -9223372036854775808 ≤ x ∧ x ≤ 9223372036854775807
theorem SL.low {w w' : World} {g n : Nat} (h : SL w g n) (hb : Below w.heap.size w w') : SL w' g n :=
  ⟨Nat.lt_of_lt_of_le h.1 hb.size, fun j hj => by
    obtain ⟨a, c, l, hx, hr, h2⟩ := h.2 j hj
    exact ⟨a, c, l, (hb.cell (p := ⟨g, j, none⟩) h.1).trans hx, hr.later hb, h2⟩⟩
def prtL : List (List Int) := [[0], [0, 0], [1], [-1], [1, -1], [1, 1, 1], [3, 2, 1], [0, 5, 5], [9223372036854775807], [9223372036854775807, 0], [9223372036854775807, 1], [4611686018427387904, 4611686018427387904], [4611686018427387904, 4611686018427387903], [9223372036854775807, 1, -1]]
def slc (w : World) (i n : Nat) : Value := .slice (some ⟨w.heap.size + i, 0, none⟩) n n
def outerA (w : World) : Array Value := #[.slice none 0 0, slc w 0 1, slc w 1 2, slc w 2 1, slc w 3 1, slc w 4 2, slc w 5 3, slc w 6 3, slc w 7 3, slc w 8 1, slc w 9 2, slc w 10 2, slc w 11 2, slc w 12 2, slc w 13 3]
theorem SL.parts (w : World) (t u : TypeId) : SL ((allocs t w prtL).alloc (.cells (outerA w) u)) (w.heap.size + 14) 15 := by
  have hs : (allocs t w prtL).heap.size = w.heap.size + 14 := allocs_size t prtL w
  have h := (MapKept.heap_alloc (allocs t w prtL) (.cells (outerA w) u)).1
  have hb : Below (allocs t w prtL).heap.size (allocs t w prtL) ((allocs t w prtL).alloc (.cells (outerA w) u)) := (Below.refl _ _).alloc (Nat.le_refl _) _
  have hc : ∀ j : Nat, ((allocs t w prtL).alloc (.cells (outerA w) u)).cell? ⟨w.heap.size + 14, j, none⟩ = (outerA w)[j]? := fun j => by
    rw [hs] at h
    unfold World.cell?
    rw [h]
    rfl
  refine ⟨by simp [hs], fun j hj => ?_⟩
  match j, hj with
  | 0, _ => exact ⟨none, 0, [], hc 0, ⟨_, _, rfl, .inl rfl⟩, by decide, by decide⟩
  | 1, _ => exact ⟨_, _, [0], hc 1, (allocs_ri t prtL w 0 [0] 1 rfl).later hb, by decide, by decide⟩
  | 2, _ => exact ⟨_, _, [0, 0], hc 2, (allocs_ri t prtL w 1 [0, 0] 2 rfl).later hb, by decide, by decide⟩
  | 3, _ => exact ⟨_, _, [1], hc 3, (allocs_ri t prtL w 2 [1] 1 rfl).later hb, by decide, by decide⟩
  | 4, _ => exact ⟨_, _, [-1], hc 4, (allocs_ri t prtL w 3 [-1] 1 rfl).later hb, by decide, by decide⟩
  | 5, _ => exact ⟨_, _, [1, -1], hc 5, (allocs_ri t prtL w 4 [1, -1] 2 rfl).later hb, by decide, by decide⟩
  | 6, _ => exact ⟨_, _, [1, 1, 1], hc 6, (allocs_ri t prtL w 5 [1, 1, 1] 3 rfl).later hb, by decide, by decide⟩
  | 7, _ => exact ⟨_, _, [3, 2, 1], hc 7, (allocs_ri t prtL w 6 [3, 2, 1] 3 rfl).later hb, by decide, by decide⟩
  | 8, _ => exact ⟨_, _, [0, 5, 5], hc 8, (allocs_ri t prtL w 7 [0, 5, 5] 3 rfl).later hb, by decide, by decide⟩
  | 9, _ => exact ⟨_, _, [9223372036854775807], hc 9, (allocs_ri t prtL w 8 [9223372036854775807] 1 rfl).later hb, by decide, by decide⟩
  | 10, _ => exact ⟨_, _, [9223372036854775807, 0], hc 10, (allocs_ri t prtL w 9 [9223372036854775807, 0] 2 rfl).later hb, by decide, by decide⟩
  | 11, _ => exact ⟨_, _, [9223372036854775807, 1], hc 11, (allocs_ri t prtL w 10 [9223372036854775807, 1] 2 rfl).later hb, by decide, by decide⟩
  | 12, _ => exact ⟨_, _, [4611686018427387904, 4611686018427387904], hc 12, (allocs_ri t prtL w 11 [4611686018427387904, 4611686018427387904] 2 rfl).later hb, by decide, by decide⟩
  | 13, _ => exact ⟨_, _, [4611686018427387904, 4611686018427387903], hc 13, (allocs_ri t prtL w 12 [4611686018427387904, 4611686018427387903] 2 rfl).later hb, by decide, by decide⟩
  | 14, _ => exact ⟨_, _, [9223372036854775807, 1, -1], hc 14, (allocs_ri t prtL w 13 [9223372036854775807, 1, -1] 3 rfl).later hb, by decide, by decide⟩
end Go.Proofs.YthmbfdjbjljaiaaGreatDoor
