/-
  My own text: layer 11: tell: the document's answers to calls that change nothing (printed by mktl1.py).
-/
import Derived.Test.YtgeholiagcckoaaGreatDoorRF14
import Derived.Deep.DeepCutAuto
namespace Go.Proofs.YtgeholiagcckoaaGreatDoor
open Go.RowKit

theorem Tryz.sizeSaidT : (Tryz.prog.info? 84).map (·.size) = some 3 := by kernel_rfl
theorem set3_blkT {W : World} {b : Nat} {t : TypeId} {x0 x1 x2 : Value} (h : W.heap[b]? = some (.cells #[x0, x1, x2] t (0, 0))) (y0 y1 y2 : Value) : (((W.setCell ⟨b, 0, none⟩ y0).setCell ⟨b, 1, none⟩ y1).setCell ⟨b, 2, none⟩ y2).heap[b]? = some (.cells #[y0, y1, y2] t (0, 0)) := by
  have a0 : (W.setCell ⟨b, 0, none⟩ y0).heap[b]? = some (.cells #[y0, x1, x2] t (0, 0)) := by rw [setCell_eq_setRow W b 0 _ _ _ y0 h]; exact setRow_heap W b _ _ _ _ h
  have a1 : ((W.setCell ⟨b, 0, none⟩ y0).setCell ⟨b, 1, none⟩ y1).heap[b]? = some (.cells #[y0, y1, x2] t (0, 0)) := by rw [setCell_eq_setRow _ b 1 _ _ _ y1 a0]; exact setRow_heap _ b _ _ _ _ a0
  rw [setCell_eq_setRow _ b 2 _ _ _ y2 a1]; exact setRow_heap _ b _ _ _ _ a1
theorem below3T {w W : World} {b : Nat} (h : Below w.heap.size w W) (hb : w.heap.size ≤ b) (y0 y1 y2 : Value) : Below w.heap.size w (((W.setCell ⟨b, 0, none⟩ y0).setCell ⟨b, 1, none⟩ y1).setCell ⟨b, 2, none⟩ y2) :=
  ((h.setCell (p := ⟨b, 0, none⟩) hb y0).setCell (p := ⟨b, 1, none⟩) hb y1).setCell (p := ⟨b, 2, none⟩) hb y2
set_option maxRecDepth 100000 in
set_option maxHeartbeats 1000000 in
theorem tell_at (on : Int) (k : Ky) (N : Int) (V : List UInt8) (B rb : Nat) (sh : Int) (R : List Rw) (D : List (Int × Bool)) (vr vd : Value) (kk : Nat) (H : Nat → Prop) (w : World) (h : RF B w rb sh R D vr vd kk H) (hl : kk ≤ 4611686018427387904) :
    Calls Tryz.prog 47 #[.pointer (some ⟨rb, 0, none⟩), .agg #[.int .i64 on, .int .i64 1, .int .i64 k.1, .int .i64 k.2, .int .i64 N, .string ⟨V.toArray⟩]] w fun e w' => e = .returned (.agg #[.string ⟨(atS N (rgo R k)).toArray⟩, .int .i64 0, .bool (atB N (rgo R k))]) ∧ Below w.heap.size w w' := by
  obtain ⟨W1, hW1⟩ : ∃ W1, w.alloc (.cells #[.int .i64 on, .int .i64 1, .int .i64 k.1, .int .i64 k.2, .int .i64 N, .string ⟨V.toArray⟩] 47) = W1 := ⟨_, rfl⟩
  have hb1 : Below w.heap.size w W1 := by rw [← hW1]; exact (Below.refl _ _).alloc (Nat.le_refl _) _
  have hk1 : W1.heap[w.heap.size]? = some (.cells #[.int .i64 on, .int .i64 1, .int .i64 k.1, .int .i64 k.2, .int .i64 N, .string ⟨V.toArray⟩] 47 (0, 0)) := by rw [← hW1]; exact alloc_newV w _
  have z1 : w.heap.size < W1.heap.size := (Array.getElem?_eq_some_iff.1 hk1).1
  have hb2 : Below W1.heap.size W1 (W1.alloc (.cells #[.string ⟨#[]⟩, .int .i64 0, .bool false] 84)) := (Below.refl _ _).alloc (Nat.le_refl _) _
  have hr2 := alloc_newV W1 (.cells #[.string ⟨#[]⟩, .int .i64 0, .bool false] 84)
  have hk2 := (hb2.block _ z1).trans hk1
  have d1 : (W1.alloc (.cells #[.string ⟨#[]⟩, .int .i64 0, .bool false] 84)).cell? ⟨w.heap.size, 1, none⟩ = some (.int .i64 1) := by rw [cell_of_row _ _ 1 _ _ _ hk2]; rfl
  have d2 : (W1.alloc (.cells #[.string ⟨#[]⟩, .int .i64 0, .bool false] 84)).cell? ⟨w.heap.size, 2, none⟩ = some (.int .i64 k.1) := by rw [cell_of_row _ _ 2 _ _ _ hk2]; rfl
  have d3 : (W1.alloc (.cells #[.string ⟨#[]⟩, .int .i64 0, .bool false] 84)).cell? ⟨w.heap.size, 3, none⟩ = some (.int .i64 k.2) := by rw [cell_of_row _ _ 3 _ _ _ hk2]; rfl
  have d4 : (W1.alloc (.cells #[.string ⟨#[]⟩, .int .i64 0, .bool false] 84)).cell? ⟨w.heap.size, 4, none⟩ = some (.int .i64 N) := by rw [cell_of_row _ _ 4 _ _ _ hk2]; rfl
  have HB2 := hide (hb1.trans (hb2.mono (Nat.le_of_lt z1)))
  have HR2 := hide hr2
  have HP := hide (rSAt_any k N B rb sh R D vr vd kk H _ (h.later HB2.out) hl)
  have HZ1 := hide (Nat.le_of_lt z1)
  have HZ2 := hide (Array.getElem?_eq_some_iff.1 hr2).1
  clear h hk1 hb1 hb2 hr2 hk2 z1
  generalize atS N (rgo R k) = S at *
  generalize atB N (rgo R k) = T at *
  go_enter Tryz.func47, Tryz.ntmps47
  go_wp2_with fail
  generalize W1.alloc (.cells #[.string ⟨#[]⟩, .int .i64 0, .bool false] 84) = W2 at *
  generalize W1.heap.size = bx at *
  refine HP.out.mono ?_
  rintro e w5 ⟨rfl, hb3⟩
  have R5 := hide ((hb3.block bx HZ2.out).trans HR2.out)
  have HB5 := hide (HB2.out.trans (hb3.mono HB2.out.size))
  clear HP hb3 d1 d2 d3 d4
  have g0 : w5.cell? ⟨bx, 0, none⟩ = some (.string ⟨#[]⟩) := by rw [cell_of_row _ _ 0 _ _ _ R5.out]; rfl
  have g1 : w5.cell? ⟨bx, 1, none⟩ = some (.int .i64 0) := by rw [cell_of_row _ _ 1 _ _ _ R5.out]; rfl
  have g2 : w5.cell? ⟨bx, 2, none⟩ = some (.bool false) := by rw [cell_of_row _ _ 2 _ _ _ R5.out]; rfl
  have gf : ∀ j, w5.frozen? ⟨bx, j, none⟩ = false := fun j => by unfold World.frozen?; simp [R5.out]
  have gf0 := gf 0
  have gf1 := gf 1
  have gf2 := gf 2
  clear gf
  go_wp2_with fail
  exact bodyPost_ret (results_cell_row rfl _ _ bx 84 _ (0, 0) _ rfl (set3_blkT R5.out _ _ _) Tryz.underlying84 rfl Tryz.sizeSaidT) rfl ⟨rfl, below3T HB5.out HZ1.out _ _ _⟩
set_option maxRecDepth 100000 in
set_option maxHeartbeats 1000000 in
theorem tell_last (on : Int) (k : Ky) (N : Int) (V : List UInt8) (B rb : Nat) (sh : Int) (R : List Rw) (D : List (Int × Bool)) (vr vd : Value) (kk : Nat) (H : Nat → Prop) (w : World) (h : RF B w rb sh R D vr vd kk H) (hl : kk ≤ 4611686018427387904) :
    Calls Tryz.prog 47 #[.pointer (some ⟨rb, 0, none⟩), .agg #[.int .i64 on, .int .i64 2, .int .i64 k.1, .int .i64 k.2, .int .i64 N, .string ⟨V.toArray⟩]] w fun e w' => e = .returned (.agg #[.string ⟨(laP (rgo R k)).2.toArray⟩, .int .i64 (laP (rgo R k)).1, .bool (laB (rgo R k))]) ∧ Below w.heap.size w w' := by
  obtain ⟨W1, hW1⟩ : ∃ W1, w.alloc (.cells #[.int .i64 on, .int .i64 2, .int .i64 k.1, .int .i64 k.2, .int .i64 N, .string ⟨V.toArray⟩] 47) = W1 := ⟨_, rfl⟩
  have hb1 : Below w.heap.size w W1 := by rw [← hW1]; exact (Below.refl _ _).alloc (Nat.le_refl _) _
  have hk1 : W1.heap[w.heap.size]? = some (.cells #[.int .i64 on, .int .i64 2, .int .i64 k.1, .int .i64 k.2, .int .i64 N, .string ⟨V.toArray⟩] 47 (0, 0)) := by rw [← hW1]; exact alloc_newV w _
  have z1 : w.heap.size < W1.heap.size := (Array.getElem?_eq_some_iff.1 hk1).1
  have hb2 : Below W1.heap.size W1 (W1.alloc (.cells #[.string ⟨#[]⟩, .int .i64 0, .bool false] 84)) := (Below.refl _ _).alloc (Nat.le_refl _) _
  have hr2 := alloc_newV W1 (.cells #[.string ⟨#[]⟩, .int .i64 0, .bool false] 84)
  have hk2 := (hb2.block _ z1).trans hk1
  have d1 : (W1.alloc (.cells #[.string ⟨#[]⟩, .int .i64 0, .bool false] 84)).cell? ⟨w.heap.size, 1, none⟩ = some (.int .i64 2) := by rw [cell_of_row _ _ 1 _ _ _ hk2]; rfl
  have d2 : (W1.alloc (.cells #[.string ⟨#[]⟩, .int .i64 0, .bool false] 84)).cell? ⟨w.heap.size, 2, none⟩ = some (.int .i64 k.1) := by rw [cell_of_row _ _ 2 _ _ _ hk2]; rfl
  have d3 : (W1.alloc (.cells #[.string ⟨#[]⟩, .int .i64 0, .bool false] 84)).cell? ⟨w.heap.size, 3, none⟩ = some (.int .i64 k.2) := by rw [cell_of_row _ _ 3 _ _ _ hk2]; rfl
  have HB2 := hide (hb1.trans (hb2.mono (Nat.le_of_lt z1)))
  have HR2 := hide hr2
  have HP := hide (rSLast_any k B rb sh R D vr vd kk H _ (h.later HB2.out) hl)
  have HZ1 := hide (Nat.le_of_lt z1)
  have HZ2 := hide (Array.getElem?_eq_some_iff.1 hr2).1
  clear h hk1 hb1 hb2 hr2 hk2 z1
  generalize laP (rgo R k) = S at *
  generalize laB (rgo R k) = T at *
  go_enter Tryz.func47, Tryz.ntmps47
  go_wp2_with fail
  generalize W1.alloc (.cells #[.string ⟨#[]⟩, .int .i64 0, .bool false] 84) = W2 at *
  generalize W1.heap.size = bx at *
  refine HP.out.mono ?_
  rintro e w5 ⟨rfl, hb3⟩
  have R5 := hide ((hb3.block bx HZ2.out).trans HR2.out)
  have HB5 := hide (HB2.out.trans (hb3.mono HB2.out.size))
  clear HP hb3 d1 d2 d3
  have g0 : w5.cell? ⟨bx, 0, none⟩ = some (.string ⟨#[]⟩) := by rw [cell_of_row _ _ 0 _ _ _ R5.out]; rfl
  have g1 : w5.cell? ⟨bx, 1, none⟩ = some (.int .i64 0) := by rw [cell_of_row _ _ 1 _ _ _ R5.out]; rfl
  have g2 : w5.cell? ⟨bx, 2, none⟩ = some (.bool false) := by rw [cell_of_row _ _ 2 _ _ _ R5.out]; rfl
  have gf : ∀ j, w5.frozen? ⟨bx, j, none⟩ = false := fun j => by unfold World.frozen?; simp [R5.out]
  have gf0 := gf 0
  have gf1 := gf 1
  have gf2 := gf 2
  clear gf
  go_wp2_with fail
  exact bodyPost_ret (results_cell_row rfl _ _ bx 84 _ (0, 0) _ rfl (set3_blkT R5.out _ _ _) Tryz.underlying84 rfl Tryz.sizeSaidT) rfl ⟨rfl, below3T HB5.out HZ1.out _ _ _⟩
set_option maxRecDepth 100000 in
set_option maxHeartbeats 1000000 in
theorem tell_old (on : Int) (k : Ky) (N : Int) (V : List UInt8) (B rb : Nat) (sh : Int) (R : List Rw) (D : List (Int × Bool)) (vr vd : Value) (kk : Nat) (H : Nat → Prop) (w : World) (h : RF B w rb sh R D vr vd kk H) (hl : kk ≤ 4611686018427387904) :
    Calls Tryz.prog 47 #[.pointer (some ⟨rb, 0, none⟩), .agg #[.int .i64 on, .int .i64 6, .int .i64 k.1, .int .i64 k.2, .int .i64 N, .string ⟨V.toArray⟩]] w fun e w' => e = .returned (.agg #[.string ⟨#[]⟩, .int .i64 (oldD N D), .bool false]) ∧ Below w.heap.size w w' := by
  obtain ⟨W1, hW1⟩ : ∃ W1, w.alloc (.cells #[.int .i64 on, .int .i64 6, .int .i64 k.1, .int .i64 k.2, .int .i64 N, .string ⟨V.toArray⟩] 47) = W1 := ⟨_, rfl⟩
  have hb1 : Below w.heap.size w W1 := by rw [← hW1]; exact (Below.refl _ _).alloc (Nat.le_refl _) _
  have hk1 : W1.heap[w.heap.size]? = some (.cells #[.int .i64 on, .int .i64 6, .int .i64 k.1, .int .i64 k.2, .int .i64 N, .string ⟨V.toArray⟩] 47 (0, 0)) := by rw [← hW1]; exact alloc_newV w _
  have z1 : w.heap.size < W1.heap.size := (Array.getElem?_eq_some_iff.1 hk1).1
  have hb2 : Below W1.heap.size W1 (W1.alloc (.cells #[.string ⟨#[]⟩, .int .i64 0, .bool false] 84)) := (Below.refl _ _).alloc (Nat.le_refl _) _
  have hr2 := alloc_newV W1 (.cells #[.string ⟨#[]⟩, .int .i64 0, .bool false] 84)
  have hk2 := (hb2.block _ z1).trans hk1
  have d1 : (W1.alloc (.cells #[.string ⟨#[]⟩, .int .i64 0, .bool false] 84)).cell? ⟨w.heap.size, 1, none⟩ = some (.int .i64 6) := by rw [cell_of_row _ _ 1 _ _ _ hk2]; rfl
  have d4 : (W1.alloc (.cells #[.string ⟨#[]⟩, .int .i64 0, .bool false] 84)).cell? ⟨w.heap.size, 4, none⟩ = some (.int .i64 N) := by rw [cell_of_row _ _ 4 _ _ _ hk2]; rfl
  have HB2 := hide (hb1.trans (hb2.mono (Nat.le_of_lt z1)))
  have HR2 := hide hr2
  have HP := hide (rOld_any N B rb sh R D vr vd kk H _ (h.later HB2.out) hl)
  have HZ1 := hide (Nat.le_of_lt z1)
  have HZ2 := hide (Array.getElem?_eq_some_iff.1 hr2).1
  clear h hk1 hb1 hb2 hr2 hk2 z1
  generalize oldD N D = S at *
  go_enter Tryz.func47, Tryz.ntmps47
  go_wp2_with fail
  generalize W1.alloc (.cells #[.string ⟨#[]⟩, .int .i64 0, .bool false] 84) = W2 at *
  generalize W1.heap.size = bx at *
  refine HP.out.mono ?_
  rintro e w5 ⟨rfl, hb3⟩
  have R5 := hide ((hb3.block bx HZ2.out).trans HR2.out)
  have HB5 := hide (HB2.out.trans (hb3.mono HB2.out.size))
  clear HP hb3 d1 d4
  have g0 : w5.cell? ⟨bx, 0, none⟩ = some (.string ⟨#[]⟩) := by rw [cell_of_row _ _ 0 _ _ _ R5.out]; rfl
  have g1 : w5.cell? ⟨bx, 1, none⟩ = some (.int .i64 0) := by rw [cell_of_row _ _ 1 _ _ _ R5.out]; rfl
  have g2 : w5.cell? ⟨bx, 2, none⟩ = some (.bool false) := by rw [cell_of_row _ _ 2 _ _ _ R5.out]; rfl
  have gf : ∀ j, w5.frozen? ⟨bx, j, none⟩ = false := fun j => by unfold World.frozen?; simp [R5.out]
  have gf0 := gf 0
  have gf1 := gf 1
  have gf2 := gf 2
  clear gf
  go_wp2_with fail
  exact bodyPost_ret (results_cell_row rfl _ _ bx 84 _ (0, 0) _ rfl (set3_blkT R5.out _ _ _) Tryz.underlying84 rfl Tryz.sizeSaidT) rfl ⟨rfl, below3T HB5.out HZ1.out _ _ _⟩
set_option maxRecDepth 100000 in
set_option maxHeartbeats 1000000 in
theorem tell_ver (on : Int) (k : Ky) (N : Int) (V : List UInt8) (B rb : Nat) (sh : Int) (R : List Rw) (D : List (Int × Bool)) (vr vd : Value) (kk : Nat) (H : Nat → Prop) (w : World) (h : RF B w rb sh R D vr vd kk H) (hl : kk ≤ 4611686018427387904) (ht : rwl R ≤ 4611686018427387904) :
    Calls Tryz.prog 47 #[.pointer (some ⟨rb, 0, none⟩), .agg #[.int .i64 on, .int .i64 8, .int .i64 k.1, .int .i64 k.2, .int .i64 N, .string ⟨V.toArray⟩]] w fun e w' => e = .returned (.agg #[.string ⟨#[]⟩, .int .i64 (rwl R : Int), .bool false]) ∧ Below w.heap.size w w' := by
  obtain ⟨W1, hW1⟩ : ∃ W1, w.alloc (.cells #[.int .i64 on, .int .i64 8, .int .i64 k.1, .int .i64 k.2, .int .i64 N, .string ⟨V.toArray⟩] 47) = W1 := ⟨_, rfl⟩
  have hb1 : Below w.heap.size w W1 := by rw [← hW1]; exact (Below.refl _ _).alloc (Nat.le_refl _) _
  have hk1 : W1.heap[w.heap.size]? = some (.cells #[.int .i64 on, .int .i64 8, .int .i64 k.1, .int .i64 k.2, .int .i64 N, .string ⟨V.toArray⟩] 47 (0, 0)) := by rw [← hW1]; exact alloc_newV w _
  have z1 : w.heap.size < W1.heap.size := (Array.getElem?_eq_some_iff.1 hk1).1
  have hb2 : Below W1.heap.size W1 (W1.alloc (.cells #[.string ⟨#[]⟩, .int .i64 0, .bool false] 84)) := (Below.refl _ _).alloc (Nat.le_refl _) _
  have hr2 := alloc_newV W1 (.cells #[.string ⟨#[]⟩, .int .i64 0, .bool false] 84)
  have hk2 := (hb2.block _ z1).trans hk1
  have d1 : (W1.alloc (.cells #[.string ⟨#[]⟩, .int .i64 0, .bool false] 84)).cell? ⟨w.heap.size, 1, none⟩ = some (.int .i64 8) := by rw [cell_of_row _ _ 1 _ _ _ hk2]; rfl
  have HB2 := hide (hb1.trans (hb2.mono (Nat.le_of_lt z1)))
  have HR2 := hide hr2
  have HP := hide (rVers_any B rb sh R D vr vd kk H _ (h.later HB2.out) hl ht)
  have HZ1 := hide (Nat.le_of_lt z1)
  have HZ2 := hide (Array.getElem?_eq_some_iff.1 hr2).1
  clear h hk1 hb1 hb2 hr2 hk2 z1
  generalize (rwl R : Int) = S at *
  go_enter Tryz.func47, Tryz.ntmps47
  go_wp2_with fail
  generalize W1.alloc (.cells #[.string ⟨#[]⟩, .int .i64 0, .bool false] 84) = W2 at *
  generalize W1.heap.size = bx at *
  refine HP.out.mono ?_
  rintro e w5 ⟨rfl, hb3⟩
  have R5 := hide ((hb3.block bx HZ2.out).trans HR2.out)
  have HB5 := hide (HB2.out.trans (hb3.mono HB2.out.size))
  clear HP hb3 d1
  have g0 : w5.cell? ⟨bx, 0, none⟩ = some (.string ⟨#[]⟩) := by rw [cell_of_row _ _ 0 _ _ _ R5.out]; rfl
  have g1 : w5.cell? ⟨bx, 1, none⟩ = some (.int .i64 0) := by rw [cell_of_row _ _ 1 _ _ _ R5.out]; rfl
  have g2 : w5.cell? ⟨bx, 2, none⟩ = some (.bool false) := by rw [cell_of_row _ _ 2 _ _ _ R5.out]; rfl
  have gf : ∀ j, w5.frozen? ⟨bx, j, none⟩ = false := fun j => by unfold World.frozen?; simp [R5.out]
  have gf0 := gf 0
  have gf1 := gf 1
  have gf2 := gf 2
  clear gf
  go_wp2_with fail
  exact bodyPost_ret (results_cell_row rfl _ _ bx 84 _ (0, 0) _ rfl (set3_blkT R5.out _ _ _) Tryz.underlying84 rfl Tryz.sizeSaidT) rfl ⟨rfl, below3T HB5.out HZ1.out _ _ _⟩
set_option maxRecDepth 100000 in
set_option maxHeartbeats 1000000 in
theorem tell_rest (on kind : Int) (k : Ky) (N : Int) (V : List UInt8) (B rb : Nat) (sh : Int) (R : List Rw) (D : List (Int × Bool)) (vr vd : Value) (kk : Nat) (H : Nat → Prop) (w : World) (h : RF B w rb sh R D vr vd kk H) (_hl : kk ≤ 4611686018427387904) (h9 : kind ≠ 0 ∧ kind ≠ 1 ∧ kind ≠ 2 ∧ kind ≠ 4 ∧ kind ≠ 5 ∧ kind ≠ 6 ∧ kind ≠ 7 ∧ kind ≠ 8) :
    Calls Tryz.prog 47 #[.pointer (some ⟨rb, 0, none⟩), .agg #[.int .i64 on, .int .i64 kind, .int .i64 k.1, .int .i64 k.2, .int .i64 N, .string ⟨V.toArray⟩]] w fun e w' => e = .returned (.agg #[.string ⟨#[]⟩, .int .i64 sh, .bool false]) ∧ Below w.heap.size w w' := by
  obtain ⟨W1, hW1⟩ : ∃ W1, w.alloc (.cells #[.int .i64 on, .int .i64 kind, .int .i64 k.1, .int .i64 k.2, .int .i64 N, .string ⟨V.toArray⟩] 47) = W1 := ⟨_, rfl⟩
  have hb1 : Below w.heap.size w W1 := by rw [← hW1]; exact (Below.refl _ _).alloc (Nat.le_refl _) _
  have hk1 : W1.heap[w.heap.size]? = some (.cells #[.int .i64 on, .int .i64 kind, .int .i64 k.1, .int .i64 k.2, .int .i64 N, .string ⟨V.toArray⟩] 47 (0, 0)) := by rw [← hW1]; exact alloc_newV w _
  have z1 : w.heap.size < W1.heap.size := (Array.getElem?_eq_some_iff.1 hk1).1
  have hb2 : Below W1.heap.size W1 (W1.alloc (.cells #[.string ⟨#[]⟩, .int .i64 0, .bool false] 84)) := (Below.refl _ _).alloc (Nat.le_refl _) _
  have hr2 := alloc_newV W1 (.cells #[.string ⟨#[]⟩, .int .i64 0, .bool false] 84)
  have hk2 := (hb2.block _ z1).trans hk1
  have d1 : (W1.alloc (.cells #[.string ⟨#[]⟩, .int .i64 0, .bool false] 84)).cell? ⟨w.heap.size, 1, none⟩ = some (.int .i64 kind) := by rw [cell_of_row _ _ 1 _ _ _ hk2]; rfl
  have HB2 := hide (hb1.trans (hb2.mono (Nat.le_of_lt z1)))
  have HR2 := hide hr2
  have s0 : (W1.alloc (.cells #[.string ⟨#[]⟩, .int .i64 0, .bool false] 84)).cell? ⟨rb, 0, none⟩ = some (.int .i64 sh) := by rw [cell_of_row _ _ 0 _ _ _ (h.later HB2.out).hdr]; rfl
  have HZ1 := hide (Nat.le_of_lt z1)
  have HZ2 := hide (Array.getElem?_eq_some_iff.1 hr2).1
  clear h hk1 hb1 hb2 hr2 hk2 z1
  have q0 : ¬ kind = 0 := by omega
  have p0 : (kind == 0) = false := by simpa using q0
  have q1 : ¬ kind = 1 := by omega
  have p1 : (kind == 1) = false := by simpa using q1
  have q2 : ¬ kind = 2 := by omega
  have p2 : (kind == 2) = false := by simpa using q2
  have q4 : ¬ kind = 4 := by omega
  have p4 : (kind == 4) = false := by simpa using q4
  have q5 : ¬ kind = 5 := by omega
  have p5 : (kind == 5) = false := by simpa using q5
  have q6 : ¬ kind = 6 := by omega
  have p6 : (kind == 6) = false := by simpa using q6
  have q7 : ¬ kind = 7 := by omega
  have p7 : (kind == 7) = false := by simpa using q7
  have q8 : ¬ kind = 8 := by omega
  have p8 : (kind == 8) = false := by simpa using q8
  go_enter Tryz.func47, Tryz.ntmps47
  go_upto_region 1 with fail
  generalize W1.alloc (.cells #[.string ⟨#[]⟩, .int .i64 0, .bool false] 84) = w5 at *
  generalize W1.heap.size = bx at *
  have R5 := HR2
  have HB5 := HB2
  have g0 : w5.cell? ⟨bx, 0, none⟩ = some (.string ⟨#[]⟩) := by rw [cell_of_row _ _ 0 _ _ _ R5.out]; rfl
  have g1 : w5.cell? ⟨bx, 1, none⟩ = some (.int .i64 0) := by rw [cell_of_row _ _ 1 _ _ _ R5.out]; rfl
  have g2 : w5.cell? ⟨bx, 2, none⟩ = some (.bool false) := by rw [cell_of_row _ _ 2 _ _ _ R5.out]; rfl
  have gf : ∀ j, w5.frozen? ⟨bx, j, none⟩ = false := fun j => by unfold World.frozen?; simp [R5.out]
  have gf0 := gf 0
  have gf1 := gf 1
  have gf2 := gf 2
  clear gf
  go_wp2_with fail
  exact bodyPost_ret (results_cell_row rfl _ _ bx 84 _ (0, 0) _ rfl (set3_blkT R5.out _ _ _) Tryz.underlying84 rfl Tryz.sizeSaidT) rfl ⟨rfl, below3T HB5.out HZ1.out _ _ _⟩
end Go.Proofs.YtgeholiagcckoaaGreatDoor
