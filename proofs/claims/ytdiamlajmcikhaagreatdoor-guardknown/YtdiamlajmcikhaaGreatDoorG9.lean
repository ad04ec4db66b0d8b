/-
  My own text: rows of numbers read as operations: held, identified, marked (printed by mkg9.py).
-/
import Derived.Test.YtdiamlajmcikhaaGreatDoorG5
namespace Go.Proofs.YtdiamlajmcikhaaGreatDoor
open Go.RowKit

/-- The i-th number of a row. -/
def nth (N : List Int) (i : Nat) : Int := (N[i]?).getD 0
theorem nth_at {N : List Int} {i : Nat} (h : i < N.length) : N[i]? = some (nth N i) := by
  unfold nth; rw [List.getElem?_eq_getElem h]; rfl
/-- A row that isn't empty lies somewhere. -/
theorem row_some {w : World} {v : Value} {N : List Int} (h : LN.RM w v N) (hn : 0 < N.length) : ∃ g off cap, v = .slice (some ⟨g, off, none⟩) N.length cap ∧ N.length ≤ cap ∧ g < w.heap.size ∧ ∀ j, j < N.length → w.cell? ⟨g, off + j, none⟩ = some (.int .i64 (nth N j)) := by
  obtain ⟨g, a, cap, hv, hc, h⟩ := h
  rcases h with h | ⟨off, rfl, hlt, hcc⟩
  · rw [h] at hn; cases hn
  · exact ⟨g, off, cap, hv, hc, hlt, fun j hj => hcc j _ (nth_at hj)⟩
set_option maxRecDepth 100000 in
set_option maxHeartbeats 2000000 in
theorem heldR_any (v : Value) (N : List Int) (w : World) (hv : LN.RM w v N) (hn : 3 ≤ N.length) (hl : N.length ≤ 17592186044416) :
    Calls Tryz.prog 63 #[v] w fun e w' => e = .returned (.agg #[.int .i64 0, .int .i64 (nth N 0), .int .i64 (nth N 1), .int .i64 (nth N 2), .int .i64 0, .int .i64 0, .slice none 0 0, .slice none 0 0]) ∧ Below w.heap.size w w' := by
  obtain ⟨g, off, cap, rfl, hcap, hg, hc⟩ := row_some hv (by omega)
  have HB := hide ((Below.refl w.heap.size w).alloc (Nat.le_refl _) (.cells #[.int .i64 0, .int .i64 0, .int .i64 0, .int .i64 0, .int .i64 0, .int .i64 0, .slice none 0 0, .slice none 0 0] 26))
  have Z0 := hide (alloc_new w (.cells #[.int .i64 0, .int .i64 0, .int .i64 0, .int .i64 0, .int .i64 0, .int .i64 0, .slice none 0 0, .slice none 0 0] 26))
  have c0 := hide (hc 0 (by omega))
  have c1 := hide (hc 1 (by omega))
  have c2 := hide (hc 2 (by omega))
  generalize nth N 0 = a0 at *
  generalize nth N 1 = a1 at *
  generalize nth N 2 = a2 at *
  have HG := hide hg
  clear hc hv hg
  go_enter Tryz.func63, Tryz.ntmps63
  go_wp2_with fail
  generalize w.alloc (.cells #[.int .i64 0, .int .i64 0, .int .i64 0, .int .i64 0, .int .i64 0, .int .i64 0, .slice none 0 0, .slice none 0 0] 26) = V at *
  have HX0 := hide ((Below.refl V.heap.size V).drew)
  haveI : Nonempty (Gr V) := ⟨⟨_, HX0.out⟩⟩
  have z0 : ∀ x : Gr V, x.1.cell? ⟨g, off, none⟩ = some (.int .i64 a0) := fun x => ((HB.out.trans (x.2.mono HB.out.size)).cell (p := ⟨g, _, none⟩) HG.out).trans c0.out
  have k0 : (0 : Int) < (N.length : Int) := by omega
  have z1 : ∀ x : Gr V, x.1.cell? ⟨g, off + 1, none⟩ = some (.int .i64 a1) := fun x => ((HB.out.trans (x.2.mono HB.out.size)).cell (p := ⟨g, _, none⟩) HG.out).trans c1.out
  have k1 : (1 : Int) < (N.length : Int) := by omega
  have z2 : ∀ x : Gr V, x.1.cell? ⟨g, off + 2, none⟩ = some (.int .i64 a2) := fun x => ((HB.out.trans (x.2.mono HB.out.size)).cell (p := ⟨g, _, none⟩) HG.out).trans c2.out
  have k2 : (2 : Int) < (N.length : Int) := by omega
  refine region_qtails (C := fun w' => ∃ x : Gr V, w' = x.1) 10 0 rfl (by kernel_rfl) (by kernel_rfl) ⟨⟨_, HX0.out⟩, rfl⟩ ?_
  simp only [List.take_succ_cons, List.take_zero, List.drop_succ_cons, List.drop_zero]
  repeat (first
    | go_big_quiet_skip
    | (go_big_quiet_want; (go_big_quiet_op; first
        | go_big_quiet_on)))
  refine wpQuiet_nil ?_
  rintro w5 ⟨x5, rfl⟩
  obtain ⟨w5, hx⟩ := x5
  dsimp only
  have Z1 := hide (blk_later Z0.out hx)
  have HB1 := hide (HB.out.trans (hx.mono HB.out.size))
  clear hx this z0 z1 z2
  go_wp2_with (first
    | (refine wpList_store_row rfl 26 _ _ rfl w.heap.size #[.int .i64 0, .int .i64 a0, .int .i64 a1, .int .i64 a2, .int .i64 0, .int .i64 0, .slice none 0 0, .slice none 0 0] rfl rfl 26 _ Z1.out ?s2 ?s3 ?s4 ?_)
    | go_in)
  case s2 => kernel_rfl
  case s3 => rfl
  case s4 => first | rfl | kernel_rfl | simp [Value.oneCell']
  refine bodyPost_ret (v := .agg #[.int .i64 0, .int .i64 a0, .int .i64 a1, .int .i64 a2, .int .i64 0, .int .i64 0, .slice none 0 0, .slice none 0 0]) ?_ rfl ⟨rfl, below_row HB1.out (Nat.le_refl _)⟩
  exact results_cell_row rfl _ _ w.heap.size 26 _ (0, 0) _ rfl (setRow_heap _ _ _ _ _ _ Z1.out) Tryz.underlying26 rfl (by kernel_rfl)
set_option maxRecDepth 100000 in
set_option maxHeartbeats 2000000 in
theorem identR_any (v : Value) (N : List Int) (w : World) (hv : LN.RM w v N) (hn : 1 ≤ N.length) (hl : N.length ≤ 17592186044416) :
    Calls Tryz.prog 72 #[v] w fun e w' => e = .returned (.agg #[.int .i64 0, .int .i64 0, .int .i64 0, .int .i64 0, .int .i64 0, .int .i64 (nth N 0), .slice none 0 0, .slice none 0 0]) ∧ Below w.heap.size w w' := by
  obtain ⟨g, off, cap, rfl, hcap, hg, hc⟩ := row_some hv (by omega)
  have HB := hide ((Below.refl w.heap.size w).alloc (Nat.le_refl _) (.cells #[.int .i64 0, .int .i64 0, .int .i64 0, .int .i64 0, .int .i64 0, .int .i64 0, .slice none 0 0, .slice none 0 0] 26))
  have Z0 := hide (alloc_new w (.cells #[.int .i64 0, .int .i64 0, .int .i64 0, .int .i64 0, .int .i64 0, .int .i64 0, .slice none 0 0, .slice none 0 0] 26))
  have c0 : _ := (HB.out.cell (p := ⟨g, off, none⟩) hg).trans (hc 0 (by omega))
  generalize nth N 0 = a0 at *
  have k0 : (0 : Int) < (N.length : Int) := by omega
  clear hc hv hg
  go_enter Tryz.func72, Tryz.ntmps72
  go_wp2_with (first
    | (refine wpList_store_row rfl 26 _ _ rfl w.heap.size #[.int .i64 0, .int .i64 0, .int .i64 0, .int .i64 0, .int .i64 0, .int .i64 a0, .slice none 0 0, .slice none 0 0] rfl rfl 26 _ Z0.out ?s2 ?s3 ?s4 ?_)
    | go_in)
  case s2 => kernel_rfl
  case s3 => rfl
  case s4 => first | rfl | kernel_rfl | simp [Value.oneCell']
  refine bodyPost_ret (v := .agg #[.int .i64 0, .int .i64 0, .int .i64 0, .int .i64 0, .int .i64 0, .int .i64 a0, .slice none 0 0, .slice none 0 0]) ?_ rfl ⟨rfl, below_row HB.out (Nat.le_refl _)⟩
  exact results_cell_row rfl _ _ w.heap.size 26 _ (0, 0) _ rfl (setRow_heap _ _ _ _ _ _ Z0.out) Tryz.underlying26 rfl (by kernel_rfl)
set_option maxRecDepth 100000 in
set_option maxHeartbeats 2000000 in
theorem markedR_any (v : Value) (N : List Int) (w : World) (hv : LN.RM w v N) (hn : 4 ≤ N.length) (hl : N.length ≤ 17592186044416) :
    Calls Tryz.prog 66 #[v] w fun e w' => e = .returned (.agg #[.int .i64 0, .int .i64 (nth N 0), .int .i64 (nth N 1), .int .i64 (nth N 2), .int .i64 (nth N 3), .int .i64 0, .slice none 0 0, .slice none 0 0]) ∧ Below w.heap.size w w' := by
  have HH := hide (fun (W : World) (hb : Below w.heap.size w W) => heldR_any v N W (hv.later hb) (by omega) hl)
  obtain ⟨g, off, cap, rfl, hcap, hg, hc⟩ := row_some hv (by omega)
  have HB := hide ((Below.refl w.heap.size w).alloc (Nat.le_refl _) (.cells #[.int .i64 0, .int .i64 0, .int .i64 0, .int .i64 0, .int .i64 0, .int .i64 0, .slice none 0 0, .slice none 0 0] 26))
  have Z0 := hide (alloc_new w (.cells #[.int .i64 0, .int .i64 0, .int .i64 0, .int .i64 0, .int .i64 0, .int .i64 0, .slice none 0 0, .slice none 0 0] 26))
  have c3 := hide (hc 3 (by omega))
  have HG := hide hg
  generalize nth N 0 = a0 at *
  generalize nth N 1 = a1 at *
  generalize nth N 2 = a2 at *
  generalize nth N 3 = a3 at *
  clear hc hv hg
  go_enter Tryz.func66, Tryz.ntmps66
  go_wp2_with fail
  refine (HH.out _ HB.out).mono ?_
  rintro e w1 ⟨rfl, hb⟩
  have HB1 := hide (HB.out.trans (hb.mono HB.out.size))
  have HB2 := hide (HB1.out.alloc HB1.out.size (.cells #[.int .i64 0, .int .i64 a0, .int .i64 a1, .int .i64 a2, .int .i64 0, .int .i64 0, .slice none 0 0, .slice none 0 0] 26))
  have HB3 := hide (HB1.out.alloc HB1.out.size (.cells #[.int .i64 0, .int .i64 a0, .int .i64 a1, .int .i64 a2, .int .i64 a3, .int .i64 0, .slice none 0 0, .slice none 0 0] 26))
  have Z3 := hide (alloc_block (o := .cells #[.int .i64 0, .int .i64 a0, .int .i64 a1, .int .i64 a2, .int .i64 a3, .int .i64 0, .slice none 0 0, .slice none 0 0] 26) (blk_later Z0.out hb))
  have c3' := (HB2.out.cell (p := ⟨g, off + 3, none⟩) HG.out).trans c3.out
  clear hb
  have k3 : (3 : Int) < (N.length : Int) := by omega
  go_wp2_with (first
    | (refine wpList_store_row rfl 26 (.tmp 2) _ rfl w.heap.size #[.int .i64 0, .int .i64 a0, .int .i64 a1, .int .i64 a2, .int .i64 a3, .int .i64 0, .slice none 0 0, .slice none 0 0] rfl rfl 26 _ Z3.out ?s2 ?s3 ?s4 ?_)
    | go_in)
  case s2 => kernel_rfl
  case s3 => rfl
  case s4 => first | rfl | kernel_rfl | simp [Value.oneCell']
  refine bodyPost_ret (v := .agg #[.int .i64 0, .int .i64 a0, .int .i64 a1, .int .i64 a2, .int .i64 a3, .int .i64 0, .slice none 0 0, .slice none 0 0]) ?_ rfl ⟨rfl, below_row HB3.out (Nat.le_refl _)⟩
  exact results_cell_row rfl _ _ w.heap.size 26 _ (0, 0) _ rfl (setRow_heap _ _ _ _ _ _ Z3.out) Tryz.underlying26 rfl (by kernel_rfl)
end Go.Proofs.YtdiamlajmcikhaaGreatDoor
