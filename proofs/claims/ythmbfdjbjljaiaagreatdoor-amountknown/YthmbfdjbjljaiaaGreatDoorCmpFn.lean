/-
  My own text: the closure by which the rests are ordered.
-/
import Derived.Test.YthmbfdjbjljaiaaGreatDoorCmp
import Derived.Deep.RegionWith
import Derived.BigRegion
namespace Go.Proofs.YthmbfdjbjljaiaaGreatDoor
open Go.RowKit Go.Sort

theorem alloc_drew_grow (W : World) (o : Obj) : (W.alloc o).drew = grow (W.drewN 1) #[o] := by rw [alloc_eq_grow]; rfl
set_option maxRecDepth 100000 in
set_option maxHeartbeats 2000000 in
theorem rest_cmp (u v : Int) (n rb b off cap i j : Nat) (W : World) (hi : i < n) (hj : j < n) (_hn : n ≤ 140737488355328)
    (c0 : W.cell? ⟨rb, 0, none⟩ = some (.slice (some ⟨b, off, none⟩) n cap)) (ci : W.cell? ⟨b, off + i, none⟩ = some (.int .u64 u)) (cj : W.cell? ⟨b, off + j, none⟩ = some (.int .u64 v)) :
    Calls Tryz.prog 72 #[.int .i64 i, .int .i64 j, .pointer (some ⟨rb, 0, none⟩)] W fun e w' => e = .returned (.int .i64 (orI (sgn v u) (sgn i j))) ∧ ∃ q os, w' = grow (W.drewN q) os := by
  obtain ⟨s, Hs⟩ : ∃ s, Hid (sgn v u = s) := ⟨_, hide rfl⟩
  obtain ⟨t, Ht⟩ : ∃ t, Hid (sgn i j = t) := ⟨_, hide rfl⟩
  rw [Hs.out, Ht.out]
  go_enter Tryz.func72, Tryz.ntmps72
  go_wp2_with fail
  go_region_with (first
    | (go_at_call 74; refine (compareU v u _).mono ?_; rw [Hs.out]; rintro e w1 ⟨rfl, rfl⟩)
    | (go_at_call 75; refine (compareI i j _).mono ?_; rw [Ht.out]; rintro e w1 ⟨rfl, rfl⟩)
    | (go_at_call 73; refine (or_two s t _ 2 _ (by simp) (by simp)).mono ?_; rintro e w1 ⟨rfl, rfl⟩))
  all_goals
    go_wp2_with fail
    go_ret
    exact ⟨rfl, 1, _, alloc_drew_grow _ _⟩
end Go.Proofs.YthmbfdjbjljaiaaGreatDoor
