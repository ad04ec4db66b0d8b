/-
  My own text: layer 22: the face of a notice : its memory (printed by mkmfb.py).
-/
import Derived.Test.YtdfhfjkcafchiaaDoorMFm
import Derived.Test.YtdfhfjkcafchiaaDoorMF7a
import Derived.Test.YtdfhfjkcafchiaaDoorQRs
import Derived.Laws.CopyOwn
namespace Go.Proofs.YtdfhfjkcafchiaaDoor
open Go.RowKit LC

theorem Tryd.sizeFace : (Tryd.prog.info? 44).map (·.size) = some 27 := by kernel_rfl
def FB (W : World) (B : Nat) (f : Fc) : Prop := W.heap[B]? = some (.cells (fC f) 44 (0, 0))
theorem FB.frozen {W : World} {B : Nat} {f : Fc} (h : FB W B f) (j : Nat) : W.frozen? ⟨B, j, none⟩ = false := by unfold FB at h; unfold World.frozen?; simp [h]
theorem FB.lt {W : World} {B : Nat} {f : Fc} (h : FB W B f) : B < W.heap.size := (Array.getElem?_eq_some_iff.1 h).1
theorem FB.later {W W' : World} {B : Nat} {f : Fc} (h : FB W B f) (hb : Below W.heap.size W W') : FB W' B f := (hb.block B h.lt).trans h
theorem fC_size (f : Fc) (h : f.code.length = 12) : (fC f).size = 27 := by
  obtain ⟨c0, c1, c2, c3, c4, c5, c6, c7, c8, c9, c10, c11, e⟩ := LC.len12 h
  unfold fC; rw [e]; rfl
theorem fC_one (f : Fc) (h : f.code.length = 12) : (fC f).all (·.oneCell') = true := by
  obtain ⟨c0, c1, c2, c3, c4, c5, c6, c7, c8, c9, c10, c11, e⟩ := LC.len12 h
  unfold fC; rw [e]; simp [cel, q4, Value.oneCell']
theorem FB.cells {W : World} {B : Nat} {f : Fc} (h : FB W B f) (hc : f.code.length = 12) : W.cell? ⟨B, 16, none⟩ = some (.string ⟨f.cur.toArray⟩) ∧ W.cell? ⟨B, 17, none⟩ = some (.string ⟨f.a0.toArray⟩) ∧ W.cell? ⟨B, 18, none⟩ = some (.string ⟨f.a1.toArray⟩) ∧ W.cell? ⟨B, 19, none⟩ = some (.string ⟨f.q0.1.toArray⟩) ∧ W.cell? ⟨B, 20, none⟩ = some (.string ⟨f.q0.2.1.toArray⟩) ∧ W.cell? ⟨B, 21, none⟩ = some (.string ⟨f.q0.2.2.1.toArray⟩) ∧ W.cell? ⟨B, 22, none⟩ = some (.string ⟨f.q0.2.2.2.toArray⟩) ∧ W.cell? ⟨B, 23, none⟩ = some (.string ⟨f.q1.1.toArray⟩) ∧ W.cell? ⟨B, 24, none⟩ = some (.string ⟨f.q1.2.1.toArray⟩) ∧ W.cell? ⟨B, 25, none⟩ = some (.string ⟨f.q1.2.2.1.toArray⟩) ∧ W.cell? ⟨B, 26, none⟩ = some (.string ⟨f.q1.2.2.2.toArray⟩) := by
  obtain ⟨c0, c1, c2, c3, c4, c5, c6, c7, c8, c9, c10, c11, e⟩ := LC.len12 hc
  unfold FB fC at h
  rw [e] at h
  refine ⟨?_, ?_, ?_, ?_, ?_, ?_, ?_, ?_, ?_, ?_, ?_⟩ <;> (rw [cell_of_row _ _ _ _ _ _ h]; rfl)
theorem FB.range {W : World} {B : Nat} {f : Fc} (h : FB W B f) : W.rangeAt B 0 (fC f).toList := fun j u hj => by
  rw [Nat.zero_add, cell_of_row _ _ j _ _ _ h]; simpa using hj
theorem FB.cur {W : World} {B : Nat} {f : Fc} (h : FB W B f) (hc : f.code.length = 12) (x : List UInt8) : FB (W.setCell ⟨B, 16, none⟩ (.string ⟨x.toArray⟩)) B { f with cur := x } := by
  obtain ⟨c0, c1, c2, c3, c4, c5, c6, c7, c8, c9, c10, c11, e⟩ := LC.len12 hc
  unfold FB fC at h ⊢
  rw [e] at h
  dsimp only
  rw [e, heap_setCell_same _ _ _ _ _ _ h]
  rfl
theorem FB.two {W : World} {B : Nat} {f : Fc} (h : FB W B f) (hc : f.code.length = 12) (x y : List UInt8) : FB ((W.setCell ⟨B, 17, none⟩ (.string ⟨x.toArray⟩)).setCell ⟨B, 18, none⟩ (.string ⟨y.toArray⟩)) B { f with a0 := x, a1 := y } := by
  obtain ⟨c0, c1, c2, c3, c4, c5, c6, c7, c8, c9, c10, c11, e⟩ := LC.len12 hc
  unfold FB fC at h ⊢
  rw [e] at h
  dsimp only
  rw [e, heap_setCell_same _ _ _ _ _ _ (by rw [heap_setCell_same _ _ _ _ _ _ h])]
  rfl
def zF : Fc := ⟨0, 0, [0, 0, 0, 0, 0, 0, 0, 0, 0, 0, 0, 0], 0, false, [], [], [], ([], [], [], []), ([], [], [], [])⟩
def s8 (W : World) (B : Nat) (q r : Q4) : World := (((((((W.setCell ⟨B, 19, none⟩ (.string ⟨q.1.toArray⟩)).setCell ⟨B, 20, none⟩ (.string ⟨q.2.1.toArray⟩)).setCell ⟨B, 21, none⟩ (.string ⟨q.2.2.1.toArray⟩)).setCell ⟨B, 22, none⟩ (.string ⟨q.2.2.2.toArray⟩)).setCell ⟨B, 23, none⟩ (.string ⟨r.1.toArray⟩)).setCell ⟨B, 24, none⟩ (.string ⟨r.2.1.toArray⟩)).setCell ⟨B, 25, none⟩ (.string ⟨r.2.2.1.toArray⟩)).setCell ⟨B, 26, none⟩ (.string ⟨r.2.2.2.toArray⟩)
theorem FB.eight {W : World} {B : Nat} {f : Fc} (h : FB W B f) (hc : f.code.length = 12) (q r : Q4) : FB (s8 W B q r) B { f with q0 := q, q1 := r } := by
  obtain ⟨c0, c1, c2, c3, c4, c5, c6, c7, c8, c9, c10, c11, e⟩ := LC.len12 hc
  unfold FB fC at h ⊢
  rw [e] at h
  dsimp only
  unfold s8
  rw [e, heap_setCell_same _ _ _ _ _ _ (by rw [heap_setCell_same _ _ _ _ _ _ (by rw [heap_setCell_same _ _ _ _ _ _ (by rw [heap_setCell_same _ _ _ _ _ _ (by rw [heap_setCell_same _ _ _ _ _ _ (by rw [heap_setCell_same _ _ _ _ _ _ (by rw [heap_setCell_same _ _ _ _ _ _ (by rw [heap_setCell_same _ _ _ _ _ _ h])])])])])])])]
  simp only [cel, q4, List.map_cons, List.map_nil, List.cons_append, List.nil_append, List.setIfInBounds_toArray, List.set_cons_zero, List.set_cons_succ]
theorem one_other {W : World} {B b : Nat} (h : b ≠ B) (x : Value) : (W.setCell ⟨B, 16, none⟩ x).heap[b]? = W.heap[b]? := Below.heap_setCell _ _ _ b h
theorem two_other {W : World} {B b : Nat} (h : b ≠ B) (x y : Value) : ((W.setCell ⟨B, 17, none⟩ x).setCell ⟨B, 18, none⟩ y).heap[b]? = W.heap[b]? := by
  rw [Below.heap_setCell _ _ _ b h, Below.heap_setCell _ _ _ b h]
theorem s8_other {W : World} {B b : Nat} (h : b ≠ B) (q r : Q4) : (s8 W B q r).heap[b]? = W.heap[b]? := by
  unfold s8
  rw [Below.heap_setCell _ _ _ b h, Below.heap_setCell _ _ _ b h, Below.heap_setCell _ _ _ b h, Below.heap_setCell _ _ _ b h, Below.heap_setCell _ _ _ b h, Below.heap_setCell _ _ _ b h, Below.heap_setCell _ _ _ b h, Below.heap_setCell _ _ _ b h]
theorem s8_below {w W : World} {B b : Nat} (h : Below B w W) (hb : B ≤ b) (q r : Q4) : Below B w (s8 W b q r) :=
  (((((((h.setCell (p := ⟨b, 19, none⟩) hb _).setCell (p := ⟨b, 20, none⟩) hb _).setCell (p := ⟨b, 21, none⟩) hb _).setCell (p := ⟨b, 22, none⟩) hb _).setCell (p := ⟨b, 23, none⟩) hb _).setCell (p := ⟨b, 24, none⟩) hb _).setCell (p := ⟨b, 25, none⟩) hb _).setCell (p := ⟨b, 26, none⟩) hb _
end Go.Proofs.YtdfhfjkcafchiaaDoor
