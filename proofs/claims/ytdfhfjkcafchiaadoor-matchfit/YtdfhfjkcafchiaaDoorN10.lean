/-
  My own text: the law of Check of a notice.
-/
import Derived.Test.YtdfhfjkcafchiaaDoorN7
import Derived.Test.YtdfhfjkcafchiaaDoorN9
import Derived.Test.YtdfhfjkcafchiaaDoorGr0
namespace Go.Proofs.YtdfhfjkcafchiaaDoor
open Go.RowKit LC

theorem in_ite {c : Prop} [Decidable c] {a b : Int} (ha : 0 ≤ a ∧ a ≤ 24) (hb : 0 ≤ b ∧ b ≤ 24) : 0 ≤ (if c then a else b) ∧ (if c then a else b) ≤ 24 := by
  split
  · exact ha
  · exact hb
theorem tE_in (r1 cn r2 pe d1 d2 lt ci ql ac bi ot py al cu az ce pl pg : Bool) : 0 ≤ tE r1 cn r2 pe d1 d2 lt ci ql ac bi ot py al cu az ce pl pg ∧ tE r1 cn r2 pe d1 d2 lt ci ql ac bi ot py al cu az ce pl pg ≤ 24 := by
  unfold tE
  repeat (first | (refine in_ite (by decide) ?_) | exact ⟨by decide, by decide⟩)
theorem linkE_in (ref : List UInt8) : ∀ ls : List Lnk, 0 ≤ linkE ref ls ∧ linkE ref ls ≤ 24
  | [] => by show (0 : Int) ≤ 0 ∧ (0 : Int) ≤ 24; decide
  | (k, r) :: t => by
    show 0 ≤ (if decide (k < 1) || decide (3 < k) then (24 : Int) else if !refB r then 6 else if decide (r = ref) then 17 else linkE ref t) ∧ (if decide (k < 1) || decide (3 < k) then (24 : Int) else if !refB r then 6 else if decide (r = ref) then 17 else linkE ref t) ≤ 24
    exact in_ite (by decide) (in_ite (by decide) (in_ite (by decide) (linkE_in ref t)))
theorem noticeE_in (n : Ntc) (ls : List Lnk) : 0 ≤ noticeE n ls ∧ noticeE n ls ≤ 24 := by
  unfold noticeE
  split
  · exact tE_in ..
  · unfold linksE
    split
    · decide
    · exact linkE_in ..
theorem Bx.range {w : World} {g : Nat} {n : Ntc} {v : Value} (h : Bx w g n v) : w.rangeAt g 0 (nC n v).toList := fun j u hj => by
  rw [Nat.zero_add, cell_of_row _ _ j _ _ _ h]; simpa using hj
theorem nC_set (n : Ntc) (v v' : Value) (hc : n.code.length = 12) : (nC n v).setIfInBounds 26 v' = nC n v' := by
  obtain ⟨c0, c1, c2, c3, c4, c5, c6, c7, c8, c9, c10, c11, he⟩ := nC_cases hc
  unfold nC nb; rw [he]; rfl
theorem Bx.set {w : World} {g : Nat} {n : Ntc} {v : Value} (h : Bx w g n v) (hc : n.code.length = 12) (v' : Value) : Bx (w.setCell ⟨g, 26, none⟩ v') g n v' := by
  have e := setCell_eq_setRow w g 26 _ _ _ v' h
  rw [nC_set n v v' hc] at e
  unfold Bx
  rw [e]
  exact setRow_heap w g _ (nC n v') _ _ h
theorem frozen_blk {w : World} {g : Nat} {cs : Array Value} {t : TypeId} (h : w.heap[g]? = some (.cells cs t (0, 0))) (j : Nat) : w.frozen? ⟨g, j, none⟩ = false := by
  unfold World.frozen?; simp [h]
theorem alloc2_new (w : World) (a b : Obj) : ((w.alloc a).alloc b).heap[w.heap.size + 1]? = some b := by
  have := LC.alloc_new (w.alloc a) b
  simpa using this
theorem setRow2 (w : World) (a : Obj) (c c' : Array Value) (t : TypeId) : ((w.alloc a).alloc (.cells c t)).setRow (w.heap.size + 1) c' = (w.alloc a).alloc (.cells c' t) := by
  have := World.setRow_alloc_new (w.alloc a) c c' t
  rw [show (w.alloc a).heap.size = w.heap.size + 1 by simp] at this
  exact this
theorem LentL.block {w w' : World} {B g cap : Nat} {l : List Lnk} (h : LentL w B g cap l) (hb : w'.heap[g]? = w.heap[g]?) : LentL w' B g cap l := by
  refine ⟨h.base, h.own.1, ?_⟩
  rcases h.own.2 with ⟨h0, _⟩ | ⟨g', cap', cur, hv, hg, hh, h3⟩
  · cases h0
  · cases hv
    exact .inr ⟨g, cap, cur, rfl, hg, hb.trans hh, h3⟩
end Go.Proofs.YtdfhfjkcafchiaaDoor
