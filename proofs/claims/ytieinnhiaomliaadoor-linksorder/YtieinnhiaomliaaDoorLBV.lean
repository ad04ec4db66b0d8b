/-
  My own text: layer 23: rows of answers written in place (as LW3 has them; for seats without LinksLeast).
-/
import Derived.Test.YtieinnhiaomliaaDoorLO2
namespace Go.Proofs.YtieinnhiaomliaaDoor
open Go.RowKit

theorem Tryd.infoBo : (Tryd.prog.info? 4).map (fun i => (i.zero, i.size, i.bytes)) = some (some (.bool false), 1, 1) := by kernel_rfl
/-- Block P is a row of these answers. -/
def BV (w : World) (P : Nat) (L : List Bool) : Prop := w.rowIs P 4 L.length (fun j => .bool (L.getD j false))
theorem BV.cell {w : World} {P : Nat} {L : List Bool} (h : BV w P L) {j : Nat} {x : Bool} (hx : L[j]? = some x) : w.cell? ⟨P, j, none⟩ = some (.bool x) := by
  have hj := (List.getElem?_eq_some_iff.1 hx).1
  rw [World.rowIs.cell h hj, List.getD_eq_getElem?_getD, hx]; rfl
theorem BV.frozen {w : World} {P : Nat} {L : List Bool} (h : BV w P L) (j : Nat) : w.frozen? ⟨P, j, none⟩ = false := World.rowIs.frozen h j
theorem BV.lt {w : World} {P : Nat} {L : List Bool} (h : BV w P L) : P < w.heap.size := World.rowIs.lt h
theorem BV.set {w : World} {P : Nat} {L : List Bool} (h : BV w P L) (k : Nat) (x : Bool) : BV (w.setCell ⟨P, k, none⟩ (.bool x)) P (L.set k x) := by
  have h2 := World.rowIs.set h k (.bool x)
  unfold BV
  rw [List.length_set]
  refine World.rowIs.congr h2 fun i hi => ?_
  by_cases e : i = k
  · subst e; rw [if_pos rfl, List.getD_eq_getElem?_getD, List.getElem?_set_self hi]; rfl
  · rw [if_neg e, List.getD_eq_getElem?_getD, List.getD_eq_getElem?_getD, List.getElem?_set_ne (fun q => e q.symm)]
theorem BV.made (w : World) (n : Nat) : BV (w.alloc (.cells (madeCells #[.bool false] n) 4)) w.heap.size (List.replicate n false) := by
  have h := World.rowIs_made w (.bool false) n 4
  unfold BV
  rw [List.length_replicate]
  refine World.rowIs.congr h fun i hi => ?_
  rw [List.getD_eq_getElem?_getD, List.getElem?_replicate, if_pos hi]; rfl
end Go.Proofs.YtieinnhiaomliaaDoor
