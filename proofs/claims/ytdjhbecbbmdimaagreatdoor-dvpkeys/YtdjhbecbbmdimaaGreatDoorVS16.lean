/-
  My own text: layer 17: a refused operation's answer (printed by mkvs16.py).
-/
import Derived.Test.YtdjhbecbbmdimaaGreatDoorVE2
import Derived.Test.YtdjhbecbbmdimaaGreatDoorVS15
namespace Go.Proofs.YtdjhbecbbmdimaaGreatDoor
open Go.RowKit

theorem one_cell {w : World} {o : Obj} {a0 : Value} {t : TypeId} {g : Nat} (h : w.heap[g]? = some o) (ho : o = .cells #[a0] t (0, 0)) : w.cell? ⟨g, 0, none⟩ = some a0 := by
  subst ho
  rw [cell_of_row _ _ 0 _ _ _ h]; rfl
theorem three_cells {w : World} {o : Obj} {a0 a1 a2 : Value} {t : TypeId} {g : Nat} (h : w.heap[g]? = some o) (ho : o = .cells #[a0, a1, a2] t (0, 0)) : w.cell? ⟨g, 0, none⟩ = some a0 ∧ w.cell? ⟨g, 1, none⟩ = some a1 ∧ w.cell? ⟨g, 2, none⟩ = some a2 := by
  subst ho
  exact ⟨by rw [cell_of_row _ _ 0 _ _ _ h]; rfl, by rw [cell_of_row _ _ 1 _ _ _ h]; rfl, by rw [cell_of_row _ _ 2 _ _ _ h]; rfl⟩
theorem asHit_blk {g b : Nat} {no : Int} {w : World} {x : Obj} (h : w.heap[b]? = some x) (hne : b ≠ g) : (EN.asHit g no w).heap[b]? = some x := (Below.heap_setCell _ ⟨g, 0, none⟩ _ b hne).trans (alloc_block (EN.asMiss_block h))
theorem asHit_own {g : Nat} {no : Int} {w : World} {o : Value} {t : TypeId} (h : w.heap[g]? = some (.cells #[o] t (0, 0))) : (EN.asHit g no w).heap[g]? = some (.cells #[.int .i64 no] t (0, 0)) := setB (alloc_block (EN.asMiss_block h)) 0 (.int .i64 no) rfl
theorem asHitR_blk {g b : Nat} {s : List UInt8} {no : Int} {w : World} {x : Obj} (h : w.heap[b]? = some x) (hne : b ≠ g) : (EN.asHitR g s no w).heap[b]? = some x := (Below.heap_setCell _ ⟨g, 0, none⟩ _ b hne).trans (alloc_block (EN.asMissR_block h))
theorem asHitR_own {g : Nat} {s : List UInt8} {no : Int} {w : World} {o : Value} {t : TypeId} (h : w.heap[g]? = some (.cells #[o] t (0, 0))) : (EN.asHitR g s no w).heap[g]? = some (.cells #[.int .i64 no] t (0, 0)) := setB (alloc_block (EN.asMissR_block h)) 0 (.int .i64 no) rfl
set_option maxRecDepth 100000 in
set_option maxHeartbeats 1000000 in
theorem refused_n (no : Int) (w : World) (hE : ErrType w) :
    Calls Tryz.prog 37 #[.iface 52 (.int .i64 no)] w fun r w' => r = .returned (.tuple #[.agg #[.int .i64 no, .int .i64 0, .slice none 0 0], .slice none 0 0]) ∧ Below w.heap.size w w' := by
  have B0 := hide (two_below w (.cells #[.int .i64 0, .int .i64 0, .slice none 0 0] 55) (.cells #[.int .i64 0] 52))
  have N0 := two_new w (.cells #[.int .i64 0, .int .i64 0, .slice none 0 0] 55) (.cells #[.int .i64 0] 52)
  have hA := EN.as_hit no (w.heap.size + 1) (.int .i64 0) _ (hE.below B0.out) N0.2
  have HA := hide hA
  have hab := (EN.asHit_below (g := w.heap.size + 1) (B := w.heap.size) (no := no) (w := (w.alloc (.cells #[.int .i64 0, .int .i64 0, .slice none 0 0] 55)).alloc (.cells #[.int .i64 0] 52)) (by omega) B0.out.size)
  have HNA := hide (asHit_blk (no := no) N0.1 (show w.heap.size ≠ w.heap.size + 1 by omega))
  have HNE := hide (asHit_own (no := no) N0.2)
  have HAB := hide (B0.out.trans hab)
  clear hA hab N0 hE
  go_enter Tryz.func37, Tryz.ntmps37
  go_wp2_with fail
  refine HA.out.mono ?_
  rintro r w1 ⟨rfl, hw1⟩
  rw [← hw1] at HNA HNE HAB
  have r0 := one_cell HNE.out rfl
  obtain ⟨a0, a1, a2⟩ := three_cells HNA.out rfl
  obtain ⟨V0, hV0⟩ : ∃ x, w1.setCell ⟨w.heap.size, 0, none⟩ (.int .i64 no) = x := ⟨_, rfl⟩
  have M0 := setB HNA.out 0 (.int .i64 no) rfl
  have b0 := HAB.out.setCell (p := ⟨w.heap.size, 0, none⟩) (Nat.le_refl _) (.int .i64 no)
  rw [hV0] at M0 b0
  obtain ⟨V1, hV1⟩ : ∃ x, V0.setCell ⟨w.heap.size, 1, none⟩ (.int .i64 0) = x := ⟨_, rfl⟩
  have M1 := setB M0 1 (.int .i64 0) rfl
  have b1 := b0.setCell (p := ⟨w.heap.size, 1, none⟩) (Nat.le_refl _) (.int .i64 0)
  rw [hV1] at M1 b1
  obtain ⟨V2, hV2⟩ : ∃ x, V1.setCell ⟨w.heap.size, 2, none⟩ (.slice none 0 0) = x := ⟨_, rfl⟩
  have M2 := setB M1 2 (.slice none 0 0) rfl
  have b2 := b1.setCell (p := ⟨w.heap.size, 2, none⟩) (Nat.le_refl _) (.slice none 0 0)
  rw [hV2] at M2 b2
  obtain ⟨u0, u1, u2⟩ := three_cells M0 rfl
  obtain ⟨v0, v1, v2⟩ := three_cells M1 rfl
  obtain ⟨d0, d1, d2⟩ := three_cells M2 rfl
  have f0 := nofz HNA.out 0
  have f1 := nofz M0 1
  have f2 := nofz M1 2
  have HB := hide b2
  clear hw1 HA HNA HNE HAB M0 M1 M2 b0 b1 b2
  go_wp2_with fail
  exact bodyPost_ret (v := .tuple #[.agg #[.int .i64 no, .int .i64 0, .slice none 0 0], .slice none 0 0]) (by simp [results, Tryz.results37, go_sem, d0, d1, d2]) rfl ⟨rfl, HB.out⟩
set_option maxRecDepth 100000 in
set_option maxHeartbeats 1000000 in
theorem refused_r (s : List UInt8) (no : Int) (w : World) (hE : ErrType w) :
    Calls Tryz.prog 37 #[.iface 197 (.agg #[.string ⟨s.toArray⟩, .iface 52 (.int .i64 no)])] w fun r w' => r = .returned (.tuple #[.agg #[.int .i64 no, .int .i64 0, .slice none 0 0], .slice none 0 0]) ∧ Below w.heap.size w w' := by
  have B0 := hide (two_below w (.cells #[.int .i64 0, .int .i64 0, .slice none 0 0] 55) (.cells #[.int .i64 0] 52))
  have N0 := two_new w (.cells #[.int .i64 0, .int .i64 0, .slice none 0 0] 55) (.cells #[.int .i64 0] 52)
  have hA := EN.as_rf s no (w.heap.size + 1) (.int .i64 0) _ (hE.below B0.out) N0.2
  unfold BL.refV at hA
  have HA := hide hA
  have hab := (EN.asHitR_below (s := s) (g := w.heap.size + 1) (B := w.heap.size) (no := no) (w := (w.alloc (.cells #[.int .i64 0, .int .i64 0, .slice none 0 0] 55)).alloc (.cells #[.int .i64 0] 52)) (by omega) B0.out.size)
  have HNA := hide (asHitR_blk (s := s) (no := no) N0.1 (show w.heap.size ≠ w.heap.size + 1 by omega))
  have HNE := hide (asHitR_own (s := s) (no := no) N0.2)
  have HAB := hide (B0.out.trans hab)
  clear hA hab N0 hE
  go_enter Tryz.func37, Tryz.ntmps37
  go_wp2_with fail
  refine HA.out.mono ?_
  rintro r w1 ⟨rfl, hw1⟩
  rw [← hw1] at HNA HNE HAB
  have r0 := one_cell HNE.out rfl
  obtain ⟨a0, a1, a2⟩ := three_cells HNA.out rfl
  obtain ⟨V0, hV0⟩ : ∃ x, w1.setCell ⟨w.heap.size, 0, none⟩ (.int .i64 no) = x := ⟨_, rfl⟩
  have M0 := setB HNA.out 0 (.int .i64 no) rfl
  have b0 := HAB.out.setCell (p := ⟨w.heap.size, 0, none⟩) (Nat.le_refl _) (.int .i64 no)
  rw [hV0] at M0 b0
  obtain ⟨V1, hV1⟩ : ∃ x, V0.setCell ⟨w.heap.size, 1, none⟩ (.int .i64 0) = x := ⟨_, rfl⟩
  have M1 := setB M0 1 (.int .i64 0) rfl
  have b1 := b0.setCell (p := ⟨w.heap.size, 1, none⟩) (Nat.le_refl _) (.int .i64 0)
  rw [hV1] at M1 b1
  obtain ⟨V2, hV2⟩ : ∃ x, V1.setCell ⟨w.heap.size, 2, none⟩ (.slice none 0 0) = x := ⟨_, rfl⟩
  have M2 := setB M1 2 (.slice none 0 0) rfl
  have b2 := b1.setCell (p := ⟨w.heap.size, 2, none⟩) (Nat.le_refl _) (.slice none 0 0)
  rw [hV2] at M2 b2
  obtain ⟨u0, u1, u2⟩ := three_cells M0 rfl
  obtain ⟨v0, v1, v2⟩ := three_cells M1 rfl
  obtain ⟨d0, d1, d2⟩ := three_cells M2 rfl
  have f0 := nofz HNA.out 0
  have f1 := nofz M0 1
  have f2 := nofz M1 2
  have HB := hide b2
  clear hw1 HA HNA HNE HAB M0 M1 M2 b0 b1 b2
  go_wp2_with fail
  exact bodyPost_ret (v := .tuple #[.agg #[.int .i64 no, .int .i64 0, .slice none 0 0], .slice none 0 0]) (by simp [results, Tryz.results37, go_sem, d0, d1, d2]) rfl ⟨rfl, HB.out⟩
end Go.Proofs.YtdjhbecbbmdimaaGreatDoor
