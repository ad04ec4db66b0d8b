/-
  My own text: the document's Decode (printed by mkg16.py).
-/
import Derived.Test.YtdiamlajmcikhaaGreatDoorG12
namespace Go.Proofs.YtdiamlajmcikhaaGreatDoor
open Go.RowKit

/-- What the document's Decode answers. -/
def RcP (w : World) (raw : List Int) (e : Ending) (w' : World) : Prop := ∃ lv pv, e = .returned (.tuple #[opV (dcO raw) lv pv, .int .i64 (dcE raw)]) ∧ LG.OM w' w.heap.size lv (dcO raw).legs ∧ KY.OM w' w.heap.size pv (dcO raw).pairs ∧ Below w.heap.size w w'
theorem rcP_plain {w : World} {raw : List Int} {e0 : Int} {o0 : OpX} {f : FuncId} {args : Array Value} (hE : dcE raw = e0) (hO : dcO raw = o0) (h1 : o0.legs = []) (h2 : o0.pairs = []) (h : Calls Tryz.prog f args w fun e w' => e = .returned (.tuple #[opV o0 (.slice none 0 0) (.slice none 0 0), .int .i64 e0]) ∧ Below w.heap.size w w') :
    Calls Tryz.prog f args w (RcP w raw) := by
  refine h.mono ?_
  rintro e w' ⟨rfl, hb⟩
  exact ⟨.slice none 0 0, .slice none 0 0, by rw [hE, hO], by rw [hO, h1]; exact LG.OM.nil _ _, by rw [hO, h2]; exact KY.OM.nil _ _, hb⟩
theorem fixed_any (c : Int) (w : World) (h1 : 1 ≤ c) (h2 : c ≤ 8) :
    Calls Tryz.prog 49 #[.int .i64 c] w fun e w' => e = .returned (.int .i64 (if c ≤ 2 then 3 else if c ≤ 4 then 4 else if c = 5 ∨ c = 8 then -1 else 1)) ∧ w' = w := by
  obtain rfl | rfl | rfl | rfl | rfl | rfl | rfl | rfl : c = 1 ∨ c = 2 ∨ c = 3 ∨ c = 4 ∨ c = 5 ∨ c = 6 ∨ c = 7 ∨ c = 8 := by omega
  all_goals
    go_enter Tryz.func49, Tryz.ntmps49
    go_wp2_with fail
    go_ret
    exact ⟨rfl, rfl⟩
set_option maxRecDepth 100000 in
set_option maxHeartbeats 4000000 in
theorem rdec_nil (v : Value) (w : World) (hv : LN.RM w v []) :
    Calls Tryz.prog 25 #[v] w fun e w' => e = .returned (.tuple #[opV opZ (.slice none 0 0) (.slice none 0 0), .int .i64 2]) ∧ Below w.heap.size w w' := by
  obtain ⟨_, a, cap, rfl, _, _⟩ := hv
  go_enter Tryz.func25, Tryz.ntmps25
  go_wp2_with fail
  have hld := run_loadVar_row (P := Tryz.prog) _ _ 26 26 _ (0, 0) _ (alloc_new w (.cells #[.int .i64 0, .int .i64 0, .int .i64 0, .int .i64 0, .int .i64 0, .int .i64 0, .slice none 0 0, .slice none 0 0] 26)) Tryz.underlying26 rfl (by kernel_rfl)
  refine bodyPost_ret (v := .tuple #[.agg #[.int .i64 0, .int .i64 0, .int .i64 0, .int .i64 0, .int .i64 0, .int .i64 0, .slice none 0 0, .slice none 0 0], .int .i64 2]) ?_ rfl ⟨rfl, (Below.refl w.heap.size w).alloc (Nat.le_refl _) _⟩
  rw [results_cell_tmp rfl]
  simp [asAddr, Result.andThen, hld]
set_option maxRecDepth 100000 in
set_option maxHeartbeats 4000000 in
theorem rdec_1 (v : Value) (x0 x1 x2 : Int) (w : World) (hv : LN.RM w v [1, x0, x1, x2]) :
    Calls Tryz.prog 25 #[v] w fun e w' => e = .returned (.tuple #[opV ⟨1, x0, x1, x2, 0, 0, [], []⟩ (.slice none 0 0) (.slice none 0 0), .int .i64 0]) ∧ Below w.heap.size w w' := by
  obtain ⟨g, off, cap, rfl, hcap, hg, hc⟩ := row_some hv (by simp)
  have HF := hide (fun W : World => fixed_any 1 W (by omega) (by omega))
  rw [show (if (1 : Int) ≤ 2 then (3 : Int) else if (1 : Int) ≤ 4 then 4 else if (1 : Int) = 5 ∨ (1 : Int) = 8 then -1 else 1) = 3 by decide] at HF
  have HB := hide ((Below.refl w.heap.size w).alloc (Nat.le_refl _) (.cells #[.int .i64 0, .int .i64 0, .int .i64 0, .int .i64 0, .int .i64 0, .int .i64 0, .slice none 0 0, .slice none 0 0] 26))
  have c0 : w.cell? ⟨g, off, none⟩ = some (.int .i64 1) := hc 0 (by simp)
  have c1 : w.cell? ⟨g, off + 1, none⟩ = some (.int .i64 x0) := hc 1 (by simp)
  have c2 : w.cell? ⟨g, off + 2, none⟩ = some (.int .i64 x1) := hc 2 (by simp)
  have c3 : w.cell? ⟨g, off + 3, none⟩ = some (.int .i64 x2) := hc 3 (by simp)
  have HG := hide hg
  have d0 := (HB.out.cell (p := ⟨g, off, none⟩) hg).trans c0
  have d1 := ((two_below w (.cells #[.int .i64 0, .int .i64 0, .int .i64 0, .int .i64 0, .int .i64 0, .int .i64 0, .slice none 0 0, .slice none 0 0] 26) (.cells #[.int .i64 1, .int .i64 0, .int .i64 0, .int .i64 0, .int .i64 0, .int .i64 0, .slice none 0 0, .slice none 0 0] 26)).cell (p := ⟨g, off + 1, none⟩) hg).trans c1
  have d2 := ((two_below w (.cells #[.int .i64 0, .int .i64 0, .int .i64 0, .int .i64 0, .int .i64 0, .int .i64 0, .slice none 0 0, .slice none 0 0] 26) (.cells #[.int .i64 1, .int .i64 x0, .int .i64 0, .int .i64 0, .int .i64 0, .int .i64 0, .slice none 0 0, .slice none 0 0] 26)).cell (p := ⟨g, off + 2, none⟩) hg).trans c2
  have d3 := ((two_below w (.cells #[.int .i64 0, .int .i64 0, .int .i64 0, .int .i64 0, .int .i64 0, .int .i64 0, .slice none 0 0, .slice none 0 0] 26) (.cells #[.int .i64 1, .int .i64 x0, .int .i64 x1, .int .i64 0, .int .i64 0, .int .i64 0, .slice none 0 0, .slice none 0 0] 26)).cell (p := ⟨g, off + 3, none⟩) hg).trans c3
  clear hc hv hg
  show Calls _ _ #[.slice (some ⟨g, off, none⟩) 4 cap] _ _
  go_enter Tryz.func25, Tryz.ntmps25
  go_wp2_with fail
  refine (HF.out _).mono ?_
  rintro e w1 ⟨rfl, rfl⟩
  go_wp2_with fail
  have hld := run_loadVar_row (P := Tryz.prog) _ _ 26 26 _ (0, 0) _ (two_new w (.cells #[.int .i64 1, .int .i64 x0, .int .i64 x1, .int .i64 x2, .int .i64 0, .int .i64 0, .slice none 0 0, .slice none 0 0] 26) (.cells #[.int .i64 1, .int .i64 x0, .int .i64 x1, .int .i64 x2, .int .i64 0, .int .i64 0, .slice none 0 0, .slice none 0 0] 26)).1 Tryz.underlying26 rfl (by kernel_rfl)
  refine bodyPost_ret (v := .tuple #[.agg #[.int .i64 1, .int .i64 x0, .int .i64 x1, .int .i64 x2, .int .i64 0, .int .i64 0, .slice none 0 0, .slice none 0 0], .int .i64 0]) ?_ rfl ⟨rfl, two_below w _ _⟩
  rw [results_cell_tmp rfl]
  simp [asAddr, Result.andThen, hld]
set_option maxRecDepth 100000 in
set_option maxHeartbeats 4000000 in
theorem rdec_2 (v : Value) (x0 x1 x2 : Int) (w : World) (hv : LN.RM w v [2, x0, x1, x2]) :
    Calls Tryz.prog 25 #[v] w fun e w' => e = .returned (.tuple #[opV ⟨2, x0, x1, x2, 0, 0, [], []⟩ (.slice none 0 0) (.slice none 0 0), .int .i64 0]) ∧ Below w.heap.size w w' := by
  obtain ⟨g, off, cap, rfl, hcap, hg, hc⟩ := row_some hv (by simp)
  have HF := hide (fun W : World => fixed_any 2 W (by omega) (by omega))
  rw [show (if (2 : Int) ≤ 2 then (3 : Int) else if (2 : Int) ≤ 4 then 4 else if (2 : Int) = 5 ∨ (2 : Int) = 8 then -1 else 1) = 3 by decide] at HF
  have HB := hide ((Below.refl w.heap.size w).alloc (Nat.le_refl _) (.cells #[.int .i64 0, .int .i64 0, .int .i64 0, .int .i64 0, .int .i64 0, .int .i64 0, .slice none 0 0, .slice none 0 0] 26))
  have c0 : w.cell? ⟨g, off, none⟩ = some (.int .i64 2) := hc 0 (by simp)
  have c1 : w.cell? ⟨g, off + 1, none⟩ = some (.int .i64 x0) := hc 1 (by simp)
  have c2 : w.cell? ⟨g, off + 2, none⟩ = some (.int .i64 x1) := hc 2 (by simp)
  have c3 : w.cell? ⟨g, off + 3, none⟩ = some (.int .i64 x2) := hc 3 (by simp)
  have HG := hide hg
  have d0 := (HB.out.cell (p := ⟨g, off, none⟩) hg).trans c0
  have d1 := ((two_below w (.cells #[.int .i64 0, .int .i64 0, .int .i64 0, .int .i64 0, .int .i64 0, .int .i64 0, .slice none 0 0, .slice none 0 0] 26) (.cells #[.int .i64 2, .int .i64 0, .int .i64 0, .int .i64 0, .int .i64 0, .int .i64 0, .slice none 0 0, .slice none 0 0] 26)).cell (p := ⟨g, off + 1, none⟩) hg).trans c1
  have d2 := ((two_below w (.cells #[.int .i64 0, .int .i64 0, .int .i64 0, .int .i64 0, .int .i64 0, .int .i64 0, .slice none 0 0, .slice none 0 0] 26) (.cells #[.int .i64 2, .int .i64 x0, .int .i64 0, .int .i64 0, .int .i64 0, .int .i64 0, .slice none 0 0, .slice none 0 0] 26)).cell (p := ⟨g, off + 2, none⟩) hg).trans c2
  have d3 := ((two_below w (.cells #[.int .i64 0, .int .i64 0, .int .i64 0, .int .i64 0, .int .i64 0, .int .i64 0, .slice none 0 0, .slice none 0 0] 26) (.cells #[.int .i64 2, .int .i64 x0, .int .i64 x1, .int .i64 0, .int .i64 0, .int .i64 0, .slice none 0 0, .slice none 0 0] 26)).cell (p := ⟨g, off + 3, none⟩) hg).trans c3
  clear hc hv hg
  show Calls _ _ #[.slice (some ⟨g, off, none⟩) 4 cap] _ _
  go_enter Tryz.func25, Tryz.ntmps25
  go_wp2_with fail
  refine (HF.out _).mono ?_
  rintro e w1 ⟨rfl, rfl⟩
  go_wp2_with fail
  have hld := run_loadVar_row (P := Tryz.prog) _ _ 26 26 _ (0, 0) _ (two_new w (.cells #[.int .i64 2, .int .i64 x0, .int .i64 x1, .int .i64 x2, .int .i64 0, .int .i64 0, .slice none 0 0, .slice none 0 0] 26) (.cells #[.int .i64 2, .int .i64 x0, .int .i64 x1, .int .i64 x2, .int .i64 0, .int .i64 0, .slice none 0 0, .slice none 0 0] 26)).1 Tryz.underlying26 rfl (by kernel_rfl)
  refine bodyPost_ret (v := .tuple #[.agg #[.int .i64 2, .int .i64 x0, .int .i64 x1, .int .i64 x2, .int .i64 0, .int .i64 0, .slice none 0 0, .slice none 0 0], .int .i64 0]) ?_ rfl ⟨rfl, two_below w _ _⟩
  rw [results_cell_tmp rfl]
  simp [asAddr, Result.andThen, hld]
set_option maxRecDepth 100000 in
set_option maxHeartbeats 4000000 in
theorem rdec_3 (v : Value) (x0 x1 x2 x3 : Int) (w : World) (hv : LN.RM w v [3, x0, x1, x2, x3]) :
    Calls Tryz.prog 25 #[v] w fun e w' => e = .returned (.tuple #[opV ⟨3, x0, x1, x2, x3, 0, [], []⟩ (.slice none 0 0) (.slice none 0 0), .int .i64 0]) ∧ Below w.heap.size w w' := by
  obtain ⟨g, off, cap, rfl, hcap, hg, hc⟩ := row_some hv (by simp)
  have HF := hide (fun W : World => fixed_any 3 W (by omega) (by omega))
  rw [show (if (3 : Int) ≤ 2 then (3 : Int) else if (3 : Int) ≤ 4 then 4 else if (3 : Int) = 5 ∨ (3 : Int) = 8 then -1 else 1) = 4 by decide] at HF
  have HB := hide ((Below.refl w.heap.size w).alloc (Nat.le_refl _) (.cells #[.int .i64 0, .int .i64 0, .int .i64 0, .int .i64 0, .int .i64 0, .int .i64 0, .slice none 0 0, .slice none 0 0] 26))
  have c0 : w.cell? ⟨g, off, none⟩ = some (.int .i64 3) := hc 0 (by simp)
  have c1 : w.cell? ⟨g, off + 1, none⟩ = some (.int .i64 x0) := hc 1 (by simp)
  have c2 : w.cell? ⟨g, off + 2, none⟩ = some (.int .i64 x1) := hc 2 (by simp)
  have c3 : w.cell? ⟨g, off + 3, none⟩ = some (.int .i64 x2) := hc 3 (by simp)
  have c4 : w.cell? ⟨g, off + 4, none⟩ = some (.int .i64 x3) := hc 4 (by simp)
  have HG := hide hg
  have d0 := (HB.out.cell (p := ⟨g, off, none⟩) hg).trans c0
  have d1 := ((two_below w (.cells #[.int .i64 0, .int .i64 0, .int .i64 0, .int .i64 0, .int .i64 0, .int .i64 0, .slice none 0 0, .slice none 0 0] 26) (.cells #[.int .i64 3, .int .i64 0, .int .i64 0, .int .i64 0, .int .i64 0, .int .i64 0, .slice none 0 0, .slice none 0 0] 26)).cell (p := ⟨g, off + 1, none⟩) hg).trans c1
  have d2 := ((two_below w (.cells #[.int .i64 0, .int .i64 0, .int .i64 0, .int .i64 0, .int .i64 0, .int .i64 0, .slice none 0 0, .slice none 0 0] 26) (.cells #[.int .i64 3, .int .i64 x0, .int .i64 0, .int .i64 0, .int .i64 0, .int .i64 0, .slice none 0 0, .slice none 0 0] 26)).cell (p := ⟨g, off + 2, none⟩) hg).trans c2
  have d3 := ((two_below w (.cells #[.int .i64 0, .int .i64 0, .int .i64 0, .int .i64 0, .int .i64 0, .int .i64 0, .slice none 0 0, .slice none 0 0] 26) (.cells #[.int .i64 3, .int .i64 x0, .int .i64 x1, .int .i64 0, .int .i64 0, .int .i64 0, .slice none 0 0, .slice none 0 0] 26)).cell (p := ⟨g, off + 3, none⟩) hg).trans c3
  have d4 := ((two_below w (.cells #[.int .i64 0, .int .i64 0, .int .i64 0, .int .i64 0, .int .i64 0, .int .i64 0, .slice none 0 0, .slice none 0 0] 26) (.cells #[.int .i64 3, .int .i64 x0, .int .i64 x1, .int .i64 x2, .int .i64 0, .int .i64 0, .slice none 0 0, .slice none 0 0] 26)).cell (p := ⟨g, off + 4, none⟩) hg).trans c4
  clear hc hv hg
  show Calls _ _ #[.slice (some ⟨g, off, none⟩) 5 cap] _ _
  go_enter Tryz.func25, Tryz.ntmps25
  go_wp2_with fail
  refine (HF.out _).mono ?_
  rintro e w1 ⟨rfl, rfl⟩
  go_wp2_with fail
  have hld := run_loadVar_row (P := Tryz.prog) _ _ 26 26 _ (0, 0) _ (two_new w (.cells #[.int .i64 3, .int .i64 x0, .int .i64 x1, .int .i64 x2, .int .i64 x3, .int .i64 0, .slice none 0 0, .slice none 0 0] 26) (.cells #[.int .i64 3, .int .i64 x0, .int .i64 x1, .int .i64 x2, .int .i64 x3, .int .i64 0, .slice none 0 0, .slice none 0 0] 26)).1 Tryz.underlying26 rfl (by kernel_rfl)
  refine bodyPost_ret (v := .tuple #[.agg #[.int .i64 3, .int .i64 x0, .int .i64 x1, .int .i64 x2, .int .i64 x3, .int .i64 0, .slice none 0 0, .slice none 0 0], .int .i64 0]) ?_ rfl ⟨rfl, two_below w _ _⟩
  rw [results_cell_tmp rfl]
  simp [asAddr, Result.andThen, hld]
set_option maxRecDepth 100000 in
set_option maxHeartbeats 4000000 in
theorem rdec_4 (v : Value) (x0 x1 x2 x3 : Int) (w : World) (hv : LN.RM w v [4, x0, x1, x2, x3]) :
    Calls Tryz.prog 25 #[v] w fun e w' => e = .returned (.tuple #[opV ⟨4, x0, x1, x2, x3, 0, [], []⟩ (.slice none 0 0) (.slice none 0 0), .int .i64 0]) ∧ Below w.heap.size w w' := by
  obtain ⟨g, off, cap, rfl, hcap, hg, hc⟩ := row_some hv (by simp)
  have HF := hide (fun W : World => fixed_any 4 W (by omega) (by omega))
  rw [show (if (4 : Int) ≤ 2 then (3 : Int) else if (4 : Int) ≤ 4 then 4 else if (4 : Int) = 5 ∨ (4 : Int) = 8 then -1 else 1) = 4 by decide] at HF
  have HB := hide ((Below.refl w.heap.size w).alloc (Nat.le_refl _) (.cells #[.int .i64 0, .int .i64 0, .int .i64 0, .int .i64 0, .int .i64 0, .int .i64 0, .slice none 0 0, .slice none 0 0] 26))
  have c0 : w.cell? ⟨g, off, none⟩ = some (.int .i64 4) := hc 0 (by simp)
  have c1 : w.cell? ⟨g, off + 1, none⟩ = some (.int .i64 x0) := hc 1 (by simp)
  have c2 : w.cell? ⟨g, off + 2, none⟩ = some (.int .i64 x1) := hc 2 (by simp)
  have c3 : w.cell? ⟨g, off + 3, none⟩ = some (.int .i64 x2) := hc 3 (by simp)
  have c4 : w.cell? ⟨g, off + 4, none⟩ = some (.int .i64 x3) := hc 4 (by simp)
  have HG := hide hg
  have d0 := (HB.out.cell (p := ⟨g, off, none⟩) hg).trans c0
  have d1 := ((two_below w (.cells #[.int .i64 0, .int .i64 0, .int .i64 0, .int .i64 0, .int .i64 0, .int .i64 0, .slice none 0 0, .slice none 0 0] 26) (.cells #[.int .i64 4, .int .i64 0, .int .i64 0, .int .i64 0, .int .i64 0, .int .i64 0, .slice none 0 0, .slice none 0 0] 26)).cell (p := ⟨g, off + 1, none⟩) hg).trans c1
  have d2 := ((two_below w (.cells #[.int .i64 0, .int .i64 0, .int .i64 0, .int .i64 0, .int .i64 0, .int .i64 0, .slice none 0 0, .slice none 0 0] 26) (.cells #[.int .i64 4, .int .i64 x0, .int .i64 0, .int .i64 0, .int .i64 0, .int .i64 0, .slice none 0 0, .slice none 0 0] 26)).cell (p := ⟨g, off + 2, none⟩) hg).trans c2
  have d3 := ((two_below w (.cells #[.int .i64 0, .int .i64 0, .int .i64 0, .int .i64 0, .int .i64 0, .int .i64 0, .slice none 0 0, .slice none 0 0] 26) (.cells #[.int .i64 4, .int .i64 x0, .int .i64 x1, .int .i64 0, .int .i64 0, .int .i64 0, .slice none 0 0, .slice none 0 0] 26)).cell (p := ⟨g, off + 3, none⟩) hg).trans c3
  have d4 := ((two_below w (.cells #[.int .i64 0, .int .i64 0, .int .i64 0, .int .i64 0, .int .i64 0, .int .i64 0, .slice none 0 0, .slice none 0 0] 26) (.cells #[.int .i64 4, .int .i64 x0, .int .i64 x1, .int .i64 x2, .int .i64 0, .int .i64 0, .slice none 0 0, .slice none 0 0] 26)).cell (p := ⟨g, off + 4, none⟩) hg).trans c4
  clear hc hv hg
  show Calls _ _ #[.slice (some ⟨g, off, none⟩) 5 cap] _ _
  go_enter Tryz.func25, Tryz.ntmps25
  go_wp2_with fail
  refine (HF.out _).mono ?_
  rintro e w1 ⟨rfl, rfl⟩
  go_wp2_with fail
  have hld := run_loadVar_row (P := Tryz.prog) _ _ 26 26 _ (0, 0) _ (two_new w (.cells #[.int .i64 4, .int .i64 x0, .int .i64 x1, .int .i64 x2, .int .i64 x3, .int .i64 0, .slice none 0 0, .slice none 0 0] 26) (.cells #[.int .i64 4, .int .i64 x0, .int .i64 x1, .int .i64 x2, .int .i64 x3, .int .i64 0, .slice none 0 0, .slice none 0 0] 26)).1 Tryz.underlying26 rfl (by kernel_rfl)
  refine bodyPost_ret (v := .tuple #[.agg #[.int .i64 4, .int .i64 x0, .int .i64 x1, .int .i64 x2, .int .i64 x3, .int .i64 0, .slice none 0 0, .slice none 0 0], .int .i64 0]) ?_ rfl ⟨rfl, two_below w _ _⟩
  rw [results_cell_tmp rfl]
  simp [asAddr, Result.andThen, hld]
set_option maxRecDepth 100000 in
set_option maxHeartbeats 4000000 in
theorem rdec_6 (v : Value) (x0 : Int) (w : World) (hv : LN.RM w v [6, x0]) :
    Calls Tryz.prog 25 #[v] w fun e w' => e = .returned (.tuple #[opV ⟨6, 0, 0, 0, 0, x0, [], []⟩ (.slice none 0 0) (.slice none 0 0), .int .i64 0]) ∧ Below w.heap.size w w' := by
  obtain ⟨g, off, cap, rfl, hcap, hg, hc⟩ := row_some hv (by simp)
  have HF := hide (fun W : World => fixed_any 6 W (by omega) (by omega))
  rw [show (if (6 : Int) ≤ 2 then (3 : Int) else if (6 : Int) ≤ 4 then 4 else if (6 : Int) = 5 ∨ (6 : Int) = 8 then -1 else 1) = 1 by decide] at HF
  have HB := hide ((Below.refl w.heap.size w).alloc (Nat.le_refl _) (.cells #[.int .i64 0, .int .i64 0, .int .i64 0, .int .i64 0, .int .i64 0, .int .i64 0, .slice none 0 0, .slice none 0 0] 26))
  have c0 : w.cell? ⟨g, off, none⟩ = some (.int .i64 6) := hc 0 (by simp)
  have c1 : w.cell? ⟨g, off + 1, none⟩ = some (.int .i64 x0) := hc 1 (by simp)
  have HG := hide hg
  have d0 := (HB.out.cell (p := ⟨g, off, none⟩) hg).trans c0
  have d1 := ((two_below w (.cells #[.int .i64 0, .int .i64 0, .int .i64 0, .int .i64 0, .int .i64 0, .int .i64 0, .slice none 0 0, .slice none 0 0] 26) (.cells #[.int .i64 6, .int .i64 0, .int .i64 0, .int .i64 0, .int .i64 0, .int .i64 0, .slice none 0 0, .slice none 0 0] 26)).cell (p := ⟨g, off + 1, none⟩) hg).trans c1
  clear hc hv hg
  show Calls _ _ #[.slice (some ⟨g, off, none⟩) 2 cap] _ _
  go_enter Tryz.func25, Tryz.ntmps25
  go_wp2_with fail
  refine (HF.out _).mono ?_
  rintro e w1 ⟨rfl, rfl⟩
  go_wp2_with fail
  have hld := run_loadVar_row (P := Tryz.prog) _ _ 26 26 _ (0, 0) _ (two_new w (.cells #[.int .i64 6, .int .i64 0, .int .i64 0, .int .i64 0, .int .i64 0, .int .i64 x0, .slice none 0 0, .slice none 0 0] 26) (.cells #[.int .i64 6, .int .i64 0, .int .i64 0, .int .i64 0, .int .i64 0, .int .i64 x0, .slice none 0 0, .slice none 0 0] 26)).1 Tryz.underlying26 rfl (by kernel_rfl)
  refine bodyPost_ret (v := .tuple #[.agg #[.int .i64 6, .int .i64 0, .int .i64 0, .int .i64 0, .int .i64 0, .int .i64 x0, .slice none 0 0, .slice none 0 0], .int .i64 0]) ?_ rfl ⟨rfl, two_below w _ _⟩
  rw [results_cell_tmp rfl]
  simp [asAddr, Result.andThen, hld]
set_option maxRecDepth 100000 in
set_option maxHeartbeats 4000000 in
theorem rdec_7 (v : Value) (x0 : Int) (w : World) (hv : LN.RM w v [7, x0]) :
    Calls Tryz.prog 25 #[v] w fun e w' => e = .returned (.tuple #[opV ⟨7, 0, 0, 0, 0, x0, [], []⟩ (.slice none 0 0) (.slice none 0 0), .int .i64 0]) ∧ Below w.heap.size w w' := by
  obtain ⟨g, off, cap, rfl, hcap, hg, hc⟩ := row_some hv (by simp)
  have HF := hide (fun W : World => fixed_any 7 W (by omega) (by omega))
  rw [show (if (7 : Int) ≤ 2 then (3 : Int) else if (7 : Int) ≤ 4 then 4 else if (7 : Int) = 5 ∨ (7 : Int) = 8 then -1 else 1) = 1 by decide] at HF
  have HB := hide ((Below.refl w.heap.size w).alloc (Nat.le_refl _) (.cells #[.int .i64 0, .int .i64 0, .int .i64 0, .int .i64 0, .int .i64 0, .int .i64 0, .slice none 0 0, .slice none 0 0] 26))
  have c0 : w.cell? ⟨g, off, none⟩ = some (.int .i64 7) := hc 0 (by simp)
  have c1 : w.cell? ⟨g, off + 1, none⟩ = some (.int .i64 x0) := hc 1 (by simp)
  have HG := hide hg
  have d0 := (HB.out.cell (p := ⟨g, off, none⟩) hg).trans c0
  have d1 := ((two_below w (.cells #[.int .i64 0, .int .i64 0, .int .i64 0, .int .i64 0, .int .i64 0, .int .i64 0, .slice none 0 0, .slice none 0 0] 26) (.cells #[.int .i64 7, .int .i64 0, .int .i64 0, .int .i64 0, .int .i64 0, .int .i64 0, .slice none 0 0, .slice none 0 0] 26)).cell (p := ⟨g, off + 1, none⟩) hg).trans c1
  clear hc hv hg
  show Calls _ _ #[.slice (some ⟨g, off, none⟩) 2 cap] _ _
  go_enter Tryz.func25, Tryz.ntmps25
  go_wp2_with fail
  refine (HF.out _).mono ?_
  rintro e w1 ⟨rfl, rfl⟩
  go_wp2_with fail
  have hld := run_loadVar_row (P := Tryz.prog) _ _ 26 26 _ (0, 0) _ (two_new w (.cells #[.int .i64 7, .int .i64 0, .int .i64 0, .int .i64 0, .int .i64 0, .int .i64 x0, .slice none 0 0, .slice none 0 0] 26) (.cells #[.int .i64 7, .int .i64 0, .int .i64 0, .int .i64 0, .int .i64 0, .int .i64 x0, .slice none 0 0, .slice none 0 0] 26)).1 Tryz.underlying26 rfl (by kernel_rfl)
  refine bodyPost_ret (v := .tuple #[.agg #[.int .i64 7, .int .i64 0, .int .i64 0, .int .i64 0, .int .i64 0, .int .i64 x0, .slice none 0 0, .slice none 0 0], .int .i64 0]) ?_ rfl ⟨rfl, two_below w _ _⟩
  rw [results_cell_tmp rfl]
  simp [asAddr, Result.andThen, hld]
set_option maxRecDepth 100000 in
set_option maxHeartbeats 4000000 in
theorem rdec_bad (v : Value) (c : Int) (N : List Int) (w : World) (hv : LN.RM w v (c :: N)) (hl : N.length ≤ 17592186044000) (h : ¬ (1 ≤ c ∧ c ≤ 8)) :
    Calls Tryz.prog 25 #[v] w fun e w' => e = .returned (.tuple #[opV opZ (.slice none 0 0) (.slice none 0 0), .int .i64 13]) ∧ Below w.heap.size w w' := by
  obtain ⟨g, off, cap, rfl, hcap, hg, hc⟩ := row_some hv (by simp)
  have HB := hide ((Below.refl w.heap.size w).alloc (Nat.le_refl _) (.cells #[.int .i64 0, .int .i64 0, .int .i64 0, .int .i64 0, .int .i64 0, .int .i64 0, .slice none 0 0, .slice none 0 0] 26))
  have c0 := (HB.out.cell (p := ⟨g, off, none⟩) hg).trans (hc 0 (by simp))
  rw [show nth (c :: N) 0 = c from rfl] at c0
  have hnn : (c :: N).length = N.length + 1 := rfl
  rw [hnn] at hcap ⊢
  obtain ⟨m, hm⟩ : ∃ m : Int, (N.length : Int) = m := ⟨_, rfl⟩
  obtain ⟨nn, hn2⟩ : ∃ n, n = N.length + 1 := ⟨_, rfl⟩
  rw [← hn2] at hcap ⊢
  have k0 : (0 : Int) < (nn : Int) := by omega
  have hw : wrap64 ((nn : Int) - 1) = m := by unfold wrap64; omega
  have hw2 : IntKind.i64.wrap ((nn : Int) - 1) = m := by rw [IntKind.wrap_i64]; omega
  have dm : decide (m < 0) = false := by rw [decide_eq_false_iff_not]; omega
  cases h1 : decide (c < 1)
  case true =>
    clear hc hv hg hm hn2 hnn h
    go_enter Tryz.func25, Tryz.ntmps25
    go_wp2_with fail
    have hld := run_loadVar_row (P := Tryz.prog) _ _ 26 26 _ (0, 0) _ (alloc_new w (.cells #[.int .i64 0, .int .i64 0, .int .i64 0, .int .i64 0, .int .i64 0, .int .i64 0, .slice none 0 0, .slice none 0 0] 26)) Tryz.underlying26 rfl (by kernel_rfl)
    refine bodyPost_ret (v := .tuple #[.agg #[.int .i64 0, .int .i64 0, .int .i64 0, .int .i64 0, .int .i64 0, .int .i64 0, .slice none 0 0, .slice none 0 0], .int .i64 13]) ?_ rfl ⟨rfl, (Below.refl w.heap.size w).alloc (Nat.le_refl _) _⟩
    rw [results_cell_tmp rfl]
    simp [asAddr, Result.andThen, hld]
  case false =>
    have h2 : decide (8 < c) = true := by rw [decide_eq_true_eq]; have := of_decide_eq_false h1; omega
    clear hc hv hg hm hn2 hnn h
    go_enter Tryz.func25, Tryz.ntmps25
    go_wp2_with fail
    have hld := run_loadVar_row (P := Tryz.prog) _ _ 26 26 _ (0, 0) _ (alloc_new w (.cells #[.int .i64 0, .int .i64 0, .int .i64 0, .int .i64 0, .int .i64 0, .int .i64 0, .slice none 0 0, .slice none 0 0] 26)) Tryz.underlying26 rfl (by kernel_rfl)
    refine bodyPost_ret (v := .tuple #[.agg #[.int .i64 0, .int .i64 0, .int .i64 0, .int .i64 0, .int .i64 0, .int .i64 0, .slice none 0 0, .slice none 0 0], .int .i64 13]) ?_ rfl ⟨rfl, (Below.refl w.heap.size w).alloc (Nat.le_refl _) _⟩
    rw [results_cell_tmp rfl]
    simp [asAddr, Result.andThen, hld]
set_option maxRecDepth 100000 in
set_option maxHeartbeats 4000000 in
theorem rdec_long1 (v : Value) (N : List Int) (w : World) (hv : LN.RM w v (1 :: N)) (hl : N.length ≤ 17592186044000) (h : 3 < N.length) :
    Calls Tryz.prog 25 #[v] w fun e w' => e = .returned (.tuple #[opV opZ (.slice none 0 0) (.slice none 0 0), .int .i64 3]) ∧ Below w.heap.size w w' := by
  have HF := hide (fun W : World => fixed_any 1 W (by omega) (by omega))
  rw [show (if (1 : Int) ≤ 2 then (3 : Int) else if (1 : Int) ≤ 4 then 4 else if (1 : Int) = 5 ∨ (1 : Int) = 8 then -1 else 1) = 3 by decide] at HF
  obtain ⟨g, off, cap, rfl, hcap, hg, hc⟩ := row_some hv (by simp)
  have HB := hide ((Below.refl w.heap.size w).alloc (Nat.le_refl _) (.cells #[.int .i64 0, .int .i64 0, .int .i64 0, .int .i64 0, .int .i64 0, .int .i64 0, .slice none 0 0, .slice none 0 0] 26))
  have c0 := (HB.out.cell (p := ⟨g, off, none⟩) hg).trans (hc 0 (by simp))
  rw [show nth (1 :: N) 0 = 1 from rfl] at c0
  have hnn : (1 :: N).length = N.length + 1 := rfl
  rw [hnn] at hcap ⊢
  obtain ⟨m, hm⟩ : ∃ m : Int, (N.length : Int) = m := ⟨_, rfl⟩
  obtain ⟨nn, hn2⟩ : ∃ n, n = N.length + 1 := ⟨_, rfl⟩
  rw [← hn2] at hcap ⊢
  have k0 : (0 : Int) < (nn : Int) := by omega
  have hw : wrap64 ((nn : Int) - 1) = m := by unfold wrap64; omega
  have hw2 : IntKind.i64.wrap ((nn : Int) - 1) = m := by rw [IntKind.wrap_i64]; omega
  have dm : decide (m < 0) = false := by rw [decide_eq_false_iff_not]; omega
  have d1 : decide (3 < m) = true := by rw [decide_eq_true_eq]; omega
  clear hc hv hg hm hn2 hnn h
  go_enter Tryz.func25, Tryz.ntmps25
  go_wp2_with fail
  refine (HF.out _).mono ?_
  rintro e w1 ⟨rfl, rfl⟩
  go_wp2_with fail
  have hld := run_loadVar_row (P := Tryz.prog) _ _ 26 26 _ (0, 0) _ (two_new w (.cells #[.int .i64 0, .int .i64 0, .int .i64 0, .int .i64 0, .int .i64 0, .int .i64 0, .slice none 0 0, .slice none 0 0] 26) (.cells #[.int .i64 1, .int .i64 0, .int .i64 0, .int .i64 0, .int .i64 0, .int .i64 0, .slice none 0 0, .slice none 0 0] 26)).1 Tryz.underlying26 rfl (by kernel_rfl)
  refine bodyPost_ret (v := .tuple #[.agg #[.int .i64 0, .int .i64 0, .int .i64 0, .int .i64 0, .int .i64 0, .int .i64 0, .slice none 0 0, .slice none 0 0], .int .i64 3]) ?_ rfl ⟨rfl, two_below w _ _⟩
  rw [results_cell_tmp rfl]
  simp [asAddr, Result.andThen, hld]
set_option maxRecDepth 100000 in
set_option maxHeartbeats 4000000 in
theorem rdec_short1 (v : Value) (N : List Int) (w : World) (hv : LN.RM w v (1 :: N)) (hl : N.length ≤ 17592186044000) (h : N.length < 3) :
    Calls Tryz.prog 25 #[v] w fun e w' => e = .returned (.tuple #[opV opZ (.slice none 0 0) (.slice none 0 0), .int .i64 2]) ∧ Below w.heap.size w w' := by
  have HF := hide (fun W : World => fixed_any 1 W (by omega) (by omega))
  rw [show (if (1 : Int) ≤ 2 then (3 : Int) else if (1 : Int) ≤ 4 then 4 else if (1 : Int) = 5 ∨ (1 : Int) = 8 then -1 else 1) = 3 by decide] at HF
  obtain ⟨g, off, cap, rfl, hcap, hg, hc⟩ := row_some hv (by simp)
  have HB := hide ((Below.refl w.heap.size w).alloc (Nat.le_refl _) (.cells #[.int .i64 0, .int .i64 0, .int .i64 0, .int .i64 0, .int .i64 0, .int .i64 0, .slice none 0 0, .slice none 0 0] 26))
  have c0 := (HB.out.cell (p := ⟨g, off, none⟩) hg).trans (hc 0 (by simp))
  rw [show nth (1 :: N) 0 = 1 from rfl] at c0
  have hnn : (1 :: N).length = N.length + 1 := rfl
  rw [hnn] at hcap ⊢
  obtain ⟨m, hm⟩ : ∃ m : Int, (N.length : Int) = m := ⟨_, rfl⟩
  obtain ⟨nn, hn2⟩ : ∃ n, n = N.length + 1 := ⟨_, rfl⟩
  rw [← hn2] at hcap ⊢
  have k0 : (0 : Int) < (nn : Int) := by omega
  have hw : wrap64 ((nn : Int) - 1) = m := by unfold wrap64; omega
  have hw2 : IntKind.i64.wrap ((nn : Int) - 1) = m := by rw [IntKind.wrap_i64]; omega
  have dm : decide (m < 0) = false := by rw [decide_eq_false_iff_not]; omega
  have d1 : decide (3 < m) = false := by rw [decide_eq_false_iff_not]; omega
  have d2 : decide (m < 3) = true := by rw [decide_eq_true_eq]; omega
  clear hc hv hg hm hn2 hnn h
  go_enter Tryz.func25, Tryz.ntmps25
  go_wp2_with fail
  refine (HF.out _).mono ?_
  rintro e w1 ⟨rfl, rfl⟩
  go_wp2_with fail
  have hld := run_loadVar_row (P := Tryz.prog) _ _ 26 26 _ (0, 0) _ (two_new w (.cells #[.int .i64 0, .int .i64 0, .int .i64 0, .int .i64 0, .int .i64 0, .int .i64 0, .slice none 0 0, .slice none 0 0] 26) (.cells #[.int .i64 1, .int .i64 0, .int .i64 0, .int .i64 0, .int .i64 0, .int .i64 0, .slice none 0 0, .slice none 0 0] 26)).1 Tryz.underlying26 rfl (by kernel_rfl)
  refine bodyPost_ret (v := .tuple #[.agg #[.int .i64 0, .int .i64 0, .int .i64 0, .int .i64 0, .int .i64 0, .int .i64 0, .slice none 0 0, .slice none 0 0], .int .i64 2]) ?_ rfl ⟨rfl, two_below w _ _⟩
  rw [results_cell_tmp rfl]
  simp [asAddr, Result.andThen, hld]
set_option maxRecDepth 100000 in
set_option maxHeartbeats 4000000 in
theorem rdec_long2 (v : Value) (N : List Int) (w : World) (hv : LN.RM w v (2 :: N)) (hl : N.length ≤ 17592186044000) (h : 3 < N.length) :
    Calls Tryz.prog 25 #[v] w fun e w' => e = .returned (.tuple #[opV opZ (.slice none 0 0) (.slice none 0 0), .int .i64 3]) ∧ Below w.heap.size w w' := by
  have HF := hide (fun W : World => fixed_any 2 W (by omega) (by omega))
  rw [show (if (2 : Int) ≤ 2 then (3 : Int) else if (2 : Int) ≤ 4 then 4 else if (2 : Int) = 5 ∨ (2 : Int) = 8 then -1 else 1) = 3 by decide] at HF
  obtain ⟨g, off, cap, rfl, hcap, hg, hc⟩ := row_some hv (by simp)
  have HB := hide ((Below.refl w.heap.size w).alloc (Nat.le_refl _) (.cells #[.int .i64 0, .int .i64 0, .int .i64 0, .int .i64 0, .int .i64 0, .int .i64 0, .slice none 0 0, .slice none 0 0] 26))
  have c0 := (HB.out.cell (p := ⟨g, off, none⟩) hg).trans (hc 0 (by simp))
  rw [show nth (2 :: N) 0 = 2 from rfl] at c0
  have hnn : (2 :: N).length = N.length + 1 := rfl
  rw [hnn] at hcap ⊢
  obtain ⟨m, hm⟩ : ∃ m : Int, (N.length : Int) = m := ⟨_, rfl⟩
  obtain ⟨nn, hn2⟩ : ∃ n, n = N.length + 1 := ⟨_, rfl⟩
  rw [← hn2] at hcap ⊢
  have k0 : (0 : Int) < (nn : Int) := by omega
  have hw : wrap64 ((nn : Int) - 1) = m := by unfold wrap64; omega
  have hw2 : IntKind.i64.wrap ((nn : Int) - 1) = m := by rw [IntKind.wrap_i64]; omega
  have dm : decide (m < 0) = false := by rw [decide_eq_false_iff_not]; omega
  have d1 : decide (3 < m) = true := by rw [decide_eq_true_eq]; omega
  clear hc hv hg hm hn2 hnn h
  go_enter Tryz.func25, Tryz.ntmps25
  go_wp2_with fail
  refine (HF.out _).mono ?_
  rintro e w1 ⟨rfl, rfl⟩
  go_wp2_with fail
  have hld := run_loadVar_row (P := Tryz.prog) _ _ 26 26 _ (0, 0) _ (two_new w (.cells #[.int .i64 0, .int .i64 0, .int .i64 0, .int .i64 0, .int .i64 0, .int .i64 0, .slice none 0 0, .slice none 0 0] 26) (.cells #[.int .i64 2, .int .i64 0, .int .i64 0, .int .i64 0, .int .i64 0, .int .i64 0, .slice none 0 0, .slice none 0 0] 26)).1 Tryz.underlying26 rfl (by kernel_rfl)
  refine bodyPost_ret (v := .tuple #[.agg #[.int .i64 0, .int .i64 0, .int .i64 0, .int .i64 0, .int .i64 0, .int .i64 0, .slice none 0 0, .slice none 0 0], .int .i64 3]) ?_ rfl ⟨rfl, two_below w _ _⟩
  rw [results_cell_tmp rfl]
  simp [asAddr, Result.andThen, hld]
set_option maxRecDepth 100000 in
set_option maxHeartbeats 4000000 in
theorem rdec_short2 (v : Value) (N : List Int) (w : World) (hv : LN.RM w v (2 :: N)) (hl : N.length ≤ 17592186044000) (h : N.length < 3) :
    Calls Tryz.prog 25 #[v] w fun e w' => e = .returned (.tuple #[opV opZ (.slice none 0 0) (.slice none 0 0), .int .i64 2]) ∧ Below w.heap.size w w' := by
  have HF := hide (fun W : World => fixed_any 2 W (by omega) (by omega))
  rw [show (if (2 : Int) ≤ 2 then (3 : Int) else if (2 : Int) ≤ 4 then 4 else if (2 : Int) = 5 ∨ (2 : Int) = 8 then -1 else 1) = 3 by decide] at HF
  obtain ⟨g, off, cap, rfl, hcap, hg, hc⟩ := row_some hv (by simp)
  have HB := hide ((Below.refl w.heap.size w).alloc (Nat.le_refl _) (.cells #[.int .i64 0, .int .i64 0, .int .i64 0, .int .i64 0, .int .i64 0, .int .i64 0, .slice none 0 0, .slice none 0 0] 26))
  have c0 := (HB.out.cell (p := ⟨g, off, none⟩) hg).trans (hc 0 (by simp))
  rw [show nth (2 :: N) 0 = 2 from rfl] at c0
  have hnn : (2 :: N).length = N.length + 1 := rfl
  rw [hnn] at hcap ⊢
  obtain ⟨m, hm⟩ : ∃ m : Int, (N.length : Int) = m := ⟨_, rfl⟩
  obtain ⟨nn, hn2⟩ : ∃ n, n = N.length + 1 := ⟨_, rfl⟩
  rw [← hn2] at hcap ⊢
  have k0 : (0 : Int) < (nn : Int) := by omega
  have hw : wrap64 ((nn : Int) - 1) = m := by unfold wrap64; omega
  have hw2 : IntKind.i64.wrap ((nn : Int) - 1) = m := by rw [IntKind.wrap_i64]; omega
  have dm : decide (m < 0) = false := by rw [decide_eq_false_iff_not]; omega
  have d1 : decide (3 < m) = false := by rw [decide_eq_false_iff_not]; omega
  have d2 : decide (m < 3) = true := by rw [decide_eq_true_eq]; omega
  clear hc hv hg hm hn2 hnn h
  go_enter Tryz.func25, Tryz.ntmps25
  go_wp2_with fail
  refine (HF.out _).mono ?_
  rintro e w1 ⟨rfl, rfl⟩
  go_wp2_with fail
  have hld := run_loadVar_row (P := Tryz.prog) _ _ 26 26 _ (0, 0) _ (two_new w (.cells #[.int .i64 0, .int .i64 0, .int .i64 0, .int .i64 0, .int .i64 0, .int .i64 0, .slice none 0 0, .slice none 0 0] 26) (.cells #[.int .i64 2, .int .i64 0, .int .i64 0, .int .i64 0, .int .i64 0, .int .i64 0, .slice none 0 0, .slice none 0 0] 26)).1 Tryz.underlying26 rfl (by kernel_rfl)
  refine bodyPost_ret (v := .tuple #[.agg #[.int .i64 0, .int .i64 0, .int .i64 0, .int .i64 0, .int .i64 0, .int .i64 0, .slice none 0 0, .slice none 0 0], .int .i64 2]) ?_ rfl ⟨rfl, two_below w _ _⟩
  rw [results_cell_tmp rfl]
  simp [asAddr, Result.andThen, hld]
set_option maxRecDepth 100000 in
set_option maxHeartbeats 4000000 in
theorem rdec_long3 (v : Value) (N : List Int) (w : World) (hv : LN.RM w v (3 :: N)) (hl : N.length ≤ 17592186044000) (h : 4 < N.length) :
    Calls Tryz.prog 25 #[v] w fun e w' => e = .returned (.tuple #[opV opZ (.slice none 0 0) (.slice none 0 0), .int .i64 3]) ∧ Below w.heap.size w w' := by
  have HF := hide (fun W : World => fixed_any 3 W (by omega) (by omega))
  rw [show (if (3 : Int) ≤ 2 then (3 : Int) else if (3 : Int) ≤ 4 then 4 else if (3 : Int) = 5 ∨ (3 : Int) = 8 then -1 else 1) = 4 by decide] at HF
  obtain ⟨g, off, cap, rfl, hcap, hg, hc⟩ := row_some hv (by simp)
  have HB := hide ((Below.refl w.heap.size w).alloc (Nat.le_refl _) (.cells #[.int .i64 0, .int .i64 0, .int .i64 0, .int .i64 0, .int .i64 0, .int .i64 0, .slice none 0 0, .slice none 0 0] 26))
  have c0 := (HB.out.cell (p := ⟨g, off, none⟩) hg).trans (hc 0 (by simp))
  rw [show nth (3 :: N) 0 = 3 from rfl] at c0
  have hnn : (3 :: N).length = N.length + 1 := rfl
  rw [hnn] at hcap ⊢
  obtain ⟨m, hm⟩ : ∃ m : Int, (N.length : Int) = m := ⟨_, rfl⟩
  obtain ⟨nn, hn2⟩ : ∃ n, n = N.length + 1 := ⟨_, rfl⟩
  rw [← hn2] at hcap ⊢
  have k0 : (0 : Int) < (nn : Int) := by omega
  have hw : wrap64 ((nn : Int) - 1) = m := by unfold wrap64; omega
  have hw2 : IntKind.i64.wrap ((nn : Int) - 1) = m := by rw [IntKind.wrap_i64]; omega
  have dm : decide (m < 0) = false := by rw [decide_eq_false_iff_not]; omega
  have d1 : decide (4 < m) = true := by rw [decide_eq_true_eq]; omega
  clear hc hv hg hm hn2 hnn h
  go_enter Tryz.func25, Tryz.ntmps25
  go_wp2_with fail
  refine (HF.out _).mono ?_
  rintro e w1 ⟨rfl, rfl⟩
  go_wp2_with fail
  have hld := run_loadVar_row (P := Tryz.prog) _ _ 26 26 _ (0, 0) _ (two_new w (.cells #[.int .i64 0, .int .i64 0, .int .i64 0, .int .i64 0, .int .i64 0, .int .i64 0, .slice none 0 0, .slice none 0 0] 26) (.cells #[.int .i64 3, .int .i64 0, .int .i64 0, .int .i64 0, .int .i64 0, .int .i64 0, .slice none 0 0, .slice none 0 0] 26)).1 Tryz.underlying26 rfl (by kernel_rfl)
  refine bodyPost_ret (v := .tuple #[.agg #[.int .i64 0, .int .i64 0, .int .i64 0, .int .i64 0, .int .i64 0, .int .i64 0, .slice none 0 0, .slice none 0 0], .int .i64 3]) ?_ rfl ⟨rfl, two_below w _ _⟩
  rw [results_cell_tmp rfl]
  simp [asAddr, Result.andThen, hld]
set_option maxRecDepth 100000 in
set_option maxHeartbeats 4000000 in
theorem rdec_short3 (v : Value) (N : List Int) (w : World) (hv : LN.RM w v (3 :: N)) (hl : N.length ≤ 17592186044000) (h : N.length < 4) :
    Calls Tryz.prog 25 #[v] w fun e w' => e = .returned (.tuple #[opV opZ (.slice none 0 0) (.slice none 0 0), .int .i64 2]) ∧ Below w.heap.size w w' := by
  have HF := hide (fun W : World => fixed_any 3 W (by omega) (by omega))
  rw [show (if (3 : Int) ≤ 2 then (3 : Int) else if (3 : Int) ≤ 4 then 4 else if (3 : Int) = 5 ∨ (3 : Int) = 8 then -1 else 1) = 4 by decide] at HF
  obtain ⟨g, off, cap, rfl, hcap, hg, hc⟩ := row_some hv (by simp)
  have HB := hide ((Below.refl w.heap.size w).alloc (Nat.le_refl _) (.cells #[.int .i64 0, .int .i64 0, .int .i64 0, .int .i64 0, .int .i64 0, .int .i64 0, .slice none 0 0, .slice none 0 0] 26))
  have c0 := (HB.out.cell (p := ⟨g, off, none⟩) hg).trans (hc 0 (by simp))
  rw [show nth (3 :: N) 0 = 3 from rfl] at c0
  have hnn : (3 :: N).length = N.length + 1 := rfl
  rw [hnn] at hcap ⊢
  obtain ⟨m, hm⟩ : ∃ m : Int, (N.length : Int) = m := ⟨_, rfl⟩
  obtain ⟨nn, hn2⟩ : ∃ n, n = N.length + 1 := ⟨_, rfl⟩
  rw [← hn2] at hcap ⊢
  have k0 : (0 : Int) < (nn : Int) := by omega
  have hw : wrap64 ((nn : Int) - 1) = m := by unfold wrap64; omega
  have hw2 : IntKind.i64.wrap ((nn : Int) - 1) = m := by rw [IntKind.wrap_i64]; omega
  have dm : decide (m < 0) = false := by rw [decide_eq_false_iff_not]; omega
  have d1 : decide (4 < m) = false := by rw [decide_eq_false_iff_not]; omega
  have d2 : decide (m < 4) = true := by rw [decide_eq_true_eq]; omega
  clear hc hv hg hm hn2 hnn h
  go_enter Tryz.func25, Tryz.ntmps25
  go_wp2_with fail
  refine (HF.out _).mono ?_
  rintro e w1 ⟨rfl, rfl⟩
  go_wp2_with fail
  have hld := run_loadVar_row (P := Tryz.prog) _ _ 26 26 _ (0, 0) _ (two_new w (.cells #[.int .i64 0, .int .i64 0, .int .i64 0, .int .i64 0, .int .i64 0, .int .i64 0, .slice none 0 0, .slice none 0 0] 26) (.cells #[.int .i64 3, .int .i64 0, .int .i64 0, .int .i64 0, .int .i64 0, .int .i64 0, .slice none 0 0, .slice none 0 0] 26)).1 Tryz.underlying26 rfl (by kernel_rfl)
  refine bodyPost_ret (v := .tuple #[.agg #[.int .i64 0, .int .i64 0, .int .i64 0, .int .i64 0, .int .i64 0, .int .i64 0, .slice none 0 0, .slice none 0 0], .int .i64 2]) ?_ rfl ⟨rfl, two_below w _ _⟩
  rw [results_cell_tmp rfl]
  simp [asAddr, Result.andThen, hld]
set_option maxRecDepth 100000 in
set_option maxHeartbeats 4000000 in
theorem rdec_long4 (v : Value) (N : List Int) (w : World) (hv : LN.RM w v (4 :: N)) (hl : N.length ≤ 17592186044000) (h : 4 < N.length) :
    Calls Tryz.prog 25 #[v] w fun e w' => e = .returned (.tuple #[opV opZ (.slice none 0 0) (.slice none 0 0), .int .i64 3]) ∧ Below w.heap.size w w' := by
  have HF := hide (fun W : World => fixed_any 4 W (by omega) (by omega))
  rw [show (if (4 : Int) ≤ 2 then (3 : Int) else if (4 : Int) ≤ 4 then 4 else if (4 : Int) = 5 ∨ (4 : Int) = 8 then -1 else 1) = 4 by decide] at HF
  obtain ⟨g, off, cap, rfl, hcap, hg, hc⟩ := row_some hv (by simp)
  have HB := hide ((Below.refl w.heap.size w).alloc (Nat.le_refl _) (.cells #[.int .i64 0, .int .i64 0, .int .i64 0, .int .i64 0, .int .i64 0, .int .i64 0, .slice none 0 0, .slice none 0 0] 26))
  have c0 := (HB.out.cell (p := ⟨g, off, none⟩) hg).trans (hc 0 (by simp))
  rw [show nth (4 :: N) 0 = 4 from rfl] at c0
  have hnn : (4 :: N).length = N.length + 1 := rfl
  rw [hnn] at hcap ⊢
  obtain ⟨m, hm⟩ : ∃ m : Int, (N.length : Int) = m := ⟨_, rfl⟩
  obtain ⟨nn, hn2⟩ : ∃ n, n = N.length + 1 := ⟨_, rfl⟩
  rw [← hn2] at hcap ⊢
  have k0 : (0 : Int) < (nn : Int) := by omega
  have hw : wrap64 ((nn : Int) - 1) = m := by unfold wrap64; omega
  have hw2 : IntKind.i64.wrap ((nn : Int) - 1) = m := by rw [IntKind.wrap_i64]; omega
  have dm : decide (m < 0) = false := by rw [decide_eq_false_iff_not]; omega
  have d1 : decide (4 < m) = true := by rw [decide_eq_true_eq]; omega
  clear hc hv hg hm hn2 hnn h
  go_enter Tryz.func25, Tryz.ntmps25
  go_wp2_with fail
  refine (HF.out _).mono ?_
  rintro e w1 ⟨rfl, rfl⟩
  go_wp2_with fail
  have hld := run_loadVar_row (P := Tryz.prog) _ _ 26 26 _ (0, 0) _ (two_new w (.cells #[.int .i64 0, .int .i64 0, .int .i64 0, .int .i64 0, .int .i64 0, .int .i64 0, .slice none 0 0, .slice none 0 0] 26) (.cells #[.int .i64 4, .int .i64 0, .int .i64 0, .int .i64 0, .int .i64 0, .int .i64 0, .slice none 0 0, .slice none 0 0] 26)).1 Tryz.underlying26 rfl (by kernel_rfl)
  refine bodyPost_ret (v := .tuple #[.agg #[.int .i64 0, .int .i64 0, .int .i64 0, .int .i64 0, .int .i64 0, .int .i64 0, .slice none 0 0, .slice none 0 0], .int .i64 3]) ?_ rfl ⟨rfl, two_below w _ _⟩
  rw [results_cell_tmp rfl]
  simp [asAddr, Result.andThen, hld]
set_option maxRecDepth 100000 in
set_option maxHeartbeats 4000000 in
theorem rdec_short4 (v : Value) (N : List Int) (w : World) (hv : LN.RM w v (4 :: N)) (hl : N.length ≤ 17592186044000) (h : N.length < 4) :
    Calls Tryz.prog 25 #[v] w fun e w' => e = .returned (.tuple #[opV opZ (.slice none 0 0) (.slice none 0 0), .int .i64 2]) ∧ Below w.heap.size w w' := by
  have HF := hide (fun W : World => fixed_any 4 W (by omega) (by omega))
  rw [show (if (4 : Int) ≤ 2 then (3 : Int) else if (4 : Int) ≤ 4 then 4 else if (4 : Int) = 5 ∨ (4 : Int) = 8 then -1 else 1) = 4 by decide] at HF
  obtain ⟨g, off, cap, rfl, hcap, hg, hc⟩ := row_some hv (by simp)
  have HB := hide ((Below.refl w.heap.size w).alloc (Nat.le_refl _) (.cells #[.int .i64 0, .int .i64 0, .int .i64 0, .int .i64 0, .int .i64 0, .int .i64 0, .slice none 0 0, .slice none 0 0] 26))
  have c0 := (HB.out.cell (p := ⟨g, off, none⟩) hg).trans (hc 0 (by simp))
  rw [show nth (4 :: N) 0 = 4 from rfl] at c0
  have hnn : (4 :: N).length = N.length + 1 := rfl
  rw [hnn] at hcap ⊢
  obtain ⟨m, hm⟩ : ∃ m : Int, (N.length : Int) = m := ⟨_, rfl⟩
  obtain ⟨nn, hn2⟩ : ∃ n, n = N.length + 1 := ⟨_, rfl⟩
  rw [← hn2] at hcap ⊢
  have k0 : (0 : Int) < (nn : Int) := by omega
  have hw : wrap64 ((nn : Int) - 1) = m := by unfold wrap64; omega
  have hw2 : IntKind.i64.wrap ((nn : Int) - 1) = m := by rw [IntKind.wrap_i64]; omega
  have dm : decide (m < 0) = false := by rw [decide_eq_false_iff_not]; omega
  have d1 : decide (4 < m) = false := by rw [decide_eq_false_iff_not]; omega
  have d2 : decide (m < 4) = true := by rw [decide_eq_true_eq]; omega
  clear hc hv hg hm hn2 hnn h
  go_enter Tryz.func25, Tryz.ntmps25
  go_wp2_with fail
  refine (HF.out _).mono ?_
  rintro e w1 ⟨rfl, rfl⟩
  go_wp2_with fail
  have hld := run_loadVar_row (P := Tryz.prog) _ _ 26 26 _ (0, 0) _ (two_new w (.cells #[.int .i64 0, .int .i64 0, .int .i64 0, .int .i64 0, .int .i64 0, .int .i64 0, .slice none 0 0, .slice none 0 0] 26) (.cells #[.int .i64 4, .int .i64 0, .int .i64 0, .int .i64 0, .int .i64 0, .int .i64 0, .slice none 0 0, .slice none 0 0] 26)).1 Tryz.underlying26 rfl (by kernel_rfl)
  refine bodyPost_ret (v := .tuple #[.agg #[.int .i64 0, .int .i64 0, .int .i64 0, .int .i64 0, .int .i64 0, .int .i64 0, .slice none 0 0, .slice none 0 0], .int .i64 2]) ?_ rfl ⟨rfl, two_below w _ _⟩
  rw [results_cell_tmp rfl]
  simp [asAddr, Result.andThen, hld]
set_option maxRecDepth 100000 in
set_option maxHeartbeats 4000000 in
theorem rdec_long6 (v : Value) (N : List Int) (w : World) (hv : LN.RM w v (6 :: N)) (hl : N.length ≤ 17592186044000) (h : 1 < N.length) :
    Calls Tryz.prog 25 #[v] w fun e w' => e = .returned (.tuple #[opV opZ (.slice none 0 0) (.slice none 0 0), .int .i64 3]) ∧ Below w.heap.size w w' := by
  have HF := hide (fun W : World => fixed_any 6 W (by omega) (by omega))
  rw [show (if (6 : Int) ≤ 2 then (3 : Int) else if (6 : Int) ≤ 4 then 4 else if (6 : Int) = 5 ∨ (6 : Int) = 8 then -1 else 1) = 1 by decide] at HF
  obtain ⟨g, off, cap, rfl, hcap, hg, hc⟩ := row_some hv (by simp)
  have HB := hide ((Below.refl w.heap.size w).alloc (Nat.le_refl _) (.cells #[.int .i64 0, .int .i64 0, .int .i64 0, .int .i64 0, .int .i64 0, .int .i64 0, .slice none 0 0, .slice none 0 0] 26))
  have c0 := (HB.out.cell (p := ⟨g, off, none⟩) hg).trans (hc 0 (by simp))
  rw [show nth (6 :: N) 0 = 6 from rfl] at c0
  have hnn : (6 :: N).length = N.length + 1 := rfl
  rw [hnn] at hcap ⊢
  obtain ⟨m, hm⟩ : ∃ m : Int, (N.length : Int) = m := ⟨_, rfl⟩
  obtain ⟨nn, hn2⟩ : ∃ n, n = N.length + 1 := ⟨_, rfl⟩
  rw [← hn2] at hcap ⊢
  have k0 : (0 : Int) < (nn : Int) := by omega
  have hw : wrap64 ((nn : Int) - 1) = m := by unfold wrap64; omega
  have hw2 : IntKind.i64.wrap ((nn : Int) - 1) = m := by rw [IntKind.wrap_i64]; omega
  have dm : decide (m < 0) = false := by rw [decide_eq_false_iff_not]; omega
  have d1 : decide (1 < m) = true := by rw [decide_eq_true_eq]; omega
  clear hc hv hg hm hn2 hnn h
  go_enter Tryz.func25, Tryz.ntmps25
  go_wp2_with fail
  refine (HF.out _).mono ?_
  rintro e w1 ⟨rfl, rfl⟩
  go_wp2_with fail
  have hld := run_loadVar_row (P := Tryz.prog) _ _ 26 26 _ (0, 0) _ (two_new w (.cells #[.int .i64 0, .int .i64 0, .int .i64 0, .int .i64 0, .int .i64 0, .int .i64 0, .slice none 0 0, .slice none 0 0] 26) (.cells #[.int .i64 6, .int .i64 0, .int .i64 0, .int .i64 0, .int .i64 0, .int .i64 0, .slice none 0 0, .slice none 0 0] 26)).1 Tryz.underlying26 rfl (by kernel_rfl)
  refine bodyPost_ret (v := .tuple #[.agg #[.int .i64 0, .int .i64 0, .int .i64 0, .int .i64 0, .int .i64 0, .int .i64 0, .slice none 0 0, .slice none 0 0], .int .i64 3]) ?_ rfl ⟨rfl, two_below w _ _⟩
  rw [results_cell_tmp rfl]
  simp [asAddr, Result.andThen, hld]
set_option maxRecDepth 100000 in
set_option maxHeartbeats 4000000 in
theorem rdec_short6 (v : Value) (N : List Int) (w : World) (hv : LN.RM w v (6 :: N)) (hl : N.length ≤ 17592186044000) (h : N.length < 1) :
    Calls Tryz.prog 25 #[v] w fun e w' => e = .returned (.tuple #[opV opZ (.slice none 0 0) (.slice none 0 0), .int .i64 2]) ∧ Below w.heap.size w w' := by
  have HF := hide (fun W : World => fixed_any 6 W (by omega) (by omega))
  rw [show (if (6 : Int) ≤ 2 then (3 : Int) else if (6 : Int) ≤ 4 then 4 else if (6 : Int) = 5 ∨ (6 : Int) = 8 then -1 else 1) = 1 by decide] at HF
  obtain ⟨g, off, cap, rfl, hcap, hg, hc⟩ := row_some hv (by simp)
  have HB := hide ((Below.refl w.heap.size w).alloc (Nat.le_refl _) (.cells #[.int .i64 0, .int .i64 0, .int .i64 0, .int .i64 0, .int .i64 0, .int .i64 0, .slice none 0 0, .slice none 0 0] 26))
  have c0 := (HB.out.cell (p := ⟨g, off, none⟩) hg).trans (hc 0 (by simp))
  rw [show nth (6 :: N) 0 = 6 from rfl] at c0
  have hnn : (6 :: N).length = N.length + 1 := rfl
  rw [hnn] at hcap ⊢
  obtain ⟨m, hm⟩ : ∃ m : Int, (N.length : Int) = m := ⟨_, rfl⟩
  obtain ⟨nn, hn2⟩ : ∃ n, n = N.length + 1 := ⟨_, rfl⟩
  rw [← hn2] at hcap ⊢
  have k0 : (0 : Int) < (nn : Int) := by omega
  have hw : wrap64 ((nn : Int) - 1) = m := by unfold wrap64; omega
  have hw2 : IntKind.i64.wrap ((nn : Int) - 1) = m := by rw [IntKind.wrap_i64]; omega
  have dm : decide (m < 0) = false := by rw [decide_eq_false_iff_not]; omega
  have d1 : decide (1 < m) = false := by rw [decide_eq_false_iff_not]; omega
  have d2 : decide (m < 1) = true := by rw [decide_eq_true_eq]; omega
  clear hc hv hg hm hn2 hnn h
  go_enter Tryz.func25, Tryz.ntmps25
  go_wp2_with fail
  refine (HF.out _).mono ?_
  rintro e w1 ⟨rfl, rfl⟩
  go_wp2_with fail
  have hld := run_loadVar_row (P := Tryz.prog) _ _ 26 26 _ (0, 0) _ (two_new w (.cells #[.int .i64 0, .int .i64 0, .int .i64 0, .int .i64 0, .int .i64 0, .int .i64 0, .slice none 0 0, .slice none 0 0] 26) (.cells #[.int .i64 6, .int .i64 0, .int .i64 0, .int .i64 0, .int .i64 0, .int .i64 0, .slice none 0 0, .slice none 0 0] 26)).1 Tryz.underlying26 rfl (by kernel_rfl)
  refine bodyPost_ret (v := .tuple #[.agg #[.int .i64 0, .int .i64 0, .int .i64 0, .int .i64 0, .int .i64 0, .int .i64 0, .slice none 0 0, .slice none 0 0], .int .i64 2]) ?_ rfl ⟨rfl, two_below w _ _⟩
  rw [results_cell_tmp rfl]
  simp [asAddr, Result.andThen, hld]
set_option maxRecDepth 100000 in
set_option maxHeartbeats 4000000 in
theorem rdec_long7 (v : Value) (N : List Int) (w : World) (hv : LN.RM w v (7 :: N)) (hl : N.length ≤ 17592186044000) (h : 1 < N.length) :
    Calls Tryz.prog 25 #[v] w fun e w' => e = .returned (.tuple #[opV opZ (.slice none 0 0) (.slice none 0 0), .int .i64 3]) ∧ Below w.heap.size w w' := by
  have HF := hide (fun W : World => fixed_any 7 W (by omega) (by omega))
  rw [show (if (7 : Int) ≤ 2 then (3 : Int) else if (7 : Int) ≤ 4 then 4 else if (7 : Int) = 5 ∨ (7 : Int) = 8 then -1 else 1) = 1 by decide] at HF
  obtain ⟨g, off, cap, rfl, hcap, hg, hc⟩ := row_some hv (by simp)
  have HB := hide ((Below.refl w.heap.size w).alloc (Nat.le_refl _) (.cells #[.int .i64 0, .int .i64 0, .int .i64 0, .int .i64 0, .int .i64 0, .int .i64 0, .slice none 0 0, .slice none 0 0] 26))
  have c0 := (HB.out.cell (p := ⟨g, off, none⟩) hg).trans (hc 0 (by simp))
  rw [show nth (7 :: N) 0 = 7 from rfl] at c0
  have hnn : (7 :: N).length = N.length + 1 := rfl
  rw [hnn] at hcap ⊢
  obtain ⟨m, hm⟩ : ∃ m : Int, (N.length : Int) = m := ⟨_, rfl⟩
  obtain ⟨nn, hn2⟩ : ∃ n, n = N.length + 1 := ⟨_, rfl⟩
  rw [← hn2] at hcap ⊢
  have k0 : (0 : Int) < (nn : Int) := by omega
  have hw : wrap64 ((nn : Int) - 1) = m := by unfold wrap64; omega
  have hw2 : IntKind.i64.wrap ((nn : Int) - 1) = m := by rw [IntKind.wrap_i64]; omega
  have dm : decide (m < 0) = false := by rw [decide_eq_false_iff_not]; omega
  have d1 : decide (1 < m) = true := by rw [decide_eq_true_eq]; omega
  clear hc hv hg hm hn2 hnn h
  go_enter Tryz.func25, Tryz.ntmps25
  go_wp2_with fail
  refine (HF.out _).mono ?_
  rintro e w1 ⟨rfl, rfl⟩
  go_wp2_with fail
  have hld := run_loadVar_row (P := Tryz.prog) _ _ 26 26 _ (0, 0) _ (two_new w (.cells #[.int .i64 0, .int .i64 0, .int .i64 0, .int .i64 0, .int .i64 0, .int .i64 0, .slice none 0 0, .slice none 0 0] 26) (.cells #[.int .i64 7, .int .i64 0, .int .i64 0, .int .i64 0, .int .i64 0, .int .i64 0, .slice none 0 0, .slice none 0 0] 26)).1 Tryz.underlying26 rfl (by kernel_rfl)
  refine bodyPost_ret (v := .tuple #[.agg #[.int .i64 0, .int .i64 0, .int .i64 0, .int .i64 0, .int .i64 0, .int .i64 0, .slice none 0 0, .slice none 0 0], .int .i64 3]) ?_ rfl ⟨rfl, two_below w _ _⟩
  rw [results_cell_tmp rfl]
  simp [asAddr, Result.andThen, hld]
set_option maxRecDepth 100000 in
set_option maxHeartbeats 4000000 in
theorem rdec_short7 (v : Value) (N : List Int) (w : World) (hv : LN.RM w v (7 :: N)) (hl : N.length ≤ 17592186044000) (h : N.length < 1) :
    Calls Tryz.prog 25 #[v] w fun e w' => e = .returned (.tuple #[opV opZ (.slice none 0 0) (.slice none 0 0), .int .i64 2]) ∧ Below w.heap.size w w' := by
  have HF := hide (fun W : World => fixed_any 7 W (by omega) (by omega))
  rw [show (if (7 : Int) ≤ 2 then (3 : Int) else if (7 : Int) ≤ 4 then 4 else if (7 : Int) = 5 ∨ (7 : Int) = 8 then -1 else 1) = 1 by decide] at HF
  obtain ⟨g, off, cap, rfl, hcap, hg, hc⟩ := row_some hv (by simp)
  have HB := hide ((Below.refl w.heap.size w).alloc (Nat.le_refl _) (.cells #[.int .i64 0, .int .i64 0, .int .i64 0, .int .i64 0, .int .i64 0, .int .i64 0, .slice none 0 0, .slice none 0 0] 26))
  have c0 := (HB.out.cell (p := ⟨g, off, none⟩) hg).trans (hc 0 (by simp))
  rw [show nth (7 :: N) 0 = 7 from rfl] at c0
  have hnn : (7 :: N).length = N.length + 1 := rfl
  rw [hnn] at hcap ⊢
  obtain ⟨m, hm⟩ : ∃ m : Int, (N.length : Int) = m := ⟨_, rfl⟩
  obtain ⟨nn, hn2⟩ : ∃ n, n = N.length + 1 := ⟨_, rfl⟩
  rw [← hn2] at hcap ⊢
  have k0 : (0 : Int) < (nn : Int) := by omega
  have hw : wrap64 ((nn : Int) - 1) = m := by unfold wrap64; omega
  have hw2 : IntKind.i64.wrap ((nn : Int) - 1) = m := by rw [IntKind.wrap_i64]; omega
  have dm : decide (m < 0) = false := by rw [decide_eq_false_iff_not]; omega
  have d1 : decide (1 < m) = false := by rw [decide_eq_false_iff_not]; omega
  have d2 : decide (m < 1) = true := by rw [decide_eq_true_eq]; omega
  clear hc hv hg hm hn2 hnn h
  go_enter Tryz.func25, Tryz.ntmps25
  go_wp2_with fail
  refine (HF.out _).mono ?_
  rintro e w1 ⟨rfl, rfl⟩
  go_wp2_with fail
  have hld := run_loadVar_row (P := Tryz.prog) _ _ 26 26 _ (0, 0) _ (two_new w (.cells #[.int .i64 0, .int .i64 0, .int .i64 0, .int .i64 0, .int .i64 0, .int .i64 0, .slice none 0 0, .slice none 0 0] 26) (.cells #[.int .i64 7, .int .i64 0, .int .i64 0, .int .i64 0, .int .i64 0, .int .i64 0, .slice none 0 0, .slice none 0 0] 26)).1 Tryz.underlying26 rfl (by kernel_rfl)
  refine bodyPost_ret (v := .tuple #[.agg #[.int .i64 0, .int .i64 0, .int .i64 0, .int .i64 0, .int .i64 0, .int .i64 0, .slice none 0 0, .slice none 0 0], .int .i64 2]) ?_ rfl ⟨rfl, two_below w _ _⟩
  rw [results_cell_tmp rfl]
  simp [asAddr, Result.andThen, hld]
set_option maxRecDepth 100000 in
set_option maxHeartbeats 4000000 in
theorem rdec_short5 (v : Value) (N : List Int) (w : World) (hv : LN.RM w v (5 :: N)) (hl : N.length ≤ 17592186044000) (h : ¬ (1 ≤ N.length ∧ (N.length - 1) % 5 = 0)) :
    Calls Tryz.prog 25 #[v] w fun e w' => e = .returned (.tuple #[opV opZ (.slice none 0 0) (.slice none 0 0), .int .i64 2]) ∧ Below w.heap.size w w' := by
  have HF := hide (fun W : World => fixed_any 5 W (by omega) (by omega))
  rw [show (if (5 : Int) ≤ 2 then (3 : Int) else if (5 : Int) ≤ 4 then 4 else if (5 : Int) = 5 ∨ (5 : Int) = 8 then -1 else 1) = -1 by decide] at HF
  obtain ⟨g, off, cap, rfl, hcap, hg, hc⟩ := row_some hv (by simp)
  have HB := hide ((Below.refl w.heap.size w).alloc (Nat.le_refl _) (.cells #[.int .i64 0, .int .i64 0, .int .i64 0, .int .i64 0, .int .i64 0, .int .i64 0, .slice none 0 0, .slice none 0 0] 26))
  have c0 := (HB.out.cell (p := ⟨g, off, none⟩) hg).trans (hc 0 (by simp))
  rw [show nth (5 :: N) 0 = 5 from rfl] at c0
  have hnn : (5 :: N).length = N.length + 1 := rfl
  rw [hnn] at hcap ⊢
  obtain ⟨m, hm⟩ : ∃ m : Int, (N.length : Int) = m := ⟨_, rfl⟩
  obtain ⟨nn, hn2⟩ : ∃ n, n = N.length + 1 := ⟨_, rfl⟩
  rw [← hn2] at hcap ⊢
  have k0 : (0 : Int) < (nn : Int) := by omega
  have hw : wrap64 ((nn : Int) - 1) = m := by unfold wrap64; omega
  have hw2 : IntKind.i64.wrap ((nn : Int) - 1) = m := by rw [IntKind.wrap_i64]; omega
  have dm : decide (m < 0) = false := by rw [decide_eq_false_iff_not]; omega
  obtain ⟨r, hr⟩ : ∃ r : Int, m.tmod 5 = r := ⟨_, rfl⟩
  have hr2 : m % 5 = r := by rw [← hr, ← hm]; rfl
  have d2 : (r != 1) = true := by rw [bne_iff_ne]; omega
  clear hc hv hg hm hn2 hnn h
  go_enter Tryz.func25, Tryz.ntmps25
  go_wp2_with fail
  refine (HF.out _).mono ?_
  rintro e w1 ⟨rfl, rfl⟩
  go_wp2_with fail
  have hld := run_loadVar_row (P := Tryz.prog) _ _ 26 26 _ (0, 0) _ (two_new w (.cells #[.int .i64 0, .int .i64 0, .int .i64 0, .int .i64 0, .int .i64 0, .int .i64 0, .slice none 0 0, .slice none 0 0] 26) (.cells #[.int .i64 5, .int .i64 0, .int .i64 0, .int .i64 0, .int .i64 0, .int .i64 0, .slice none 0 0, .slice none 0 0] 26)).1 Tryz.underlying26 rfl (by kernel_rfl)
  refine bodyPost_ret (v := .tuple #[.agg #[.int .i64 0, .int .i64 0, .int .i64 0, .int .i64 0, .int .i64 0, .int .i64 0, .slice none 0 0, .slice none 0 0], .int .i64 2]) ?_ rfl ⟨rfl, two_below w _ _⟩
  rw [results_cell_tmp rfl]
  simp [asAddr, Result.andThen, hld]
set_option maxRecDepth 100000 in
set_option maxHeartbeats 4000000 in
theorem rdec_short8 (v : Value) (N : List Int) (w : World) (hv : LN.RM w v (8 :: N)) (hl : N.length ≤ 17592186044000) (h : ¬ (0 ≤ N.length ∧ (N.length - 0) % 2 = 0)) :
    Calls Tryz.prog 25 #[v] w fun e w' => e = .returned (.tuple #[opV opZ (.slice none 0 0) (.slice none 0 0), .int .i64 2]) ∧ Below w.heap.size w w' := by
  have HF := hide (fun W : World => fixed_any 8 W (by omega) (by omega))
  rw [show (if (8 : Int) ≤ 2 then (3 : Int) else if (8 : Int) ≤ 4 then 4 else if (8 : Int) = 5 ∨ (8 : Int) = 8 then -1 else 1) = -1 by decide] at HF
  obtain ⟨g, off, cap, rfl, hcap, hg, hc⟩ := row_some hv (by simp)
  have HB := hide ((Below.refl w.heap.size w).alloc (Nat.le_refl _) (.cells #[.int .i64 0, .int .i64 0, .int .i64 0, .int .i64 0, .int .i64 0, .int .i64 0, .slice none 0 0, .slice none 0 0] 26))
  have c0 := (HB.out.cell (p := ⟨g, off, none⟩) hg).trans (hc 0 (by simp))
  rw [show nth (8 :: N) 0 = 8 from rfl] at c0
  have hnn : (8 :: N).length = N.length + 1 := rfl
  rw [hnn] at hcap ⊢
  obtain ⟨m, hm⟩ : ∃ m : Int, (N.length : Int) = m := ⟨_, rfl⟩
  obtain ⟨nn, hn2⟩ : ∃ n, n = N.length + 1 := ⟨_, rfl⟩
  rw [← hn2] at hcap ⊢
  have k0 : (0 : Int) < (nn : Int) := by omega
  have hw : wrap64 ((nn : Int) - 1) = m := by unfold wrap64; omega
  have hw2 : IntKind.i64.wrap ((nn : Int) - 1) = m := by rw [IntKind.wrap_i64]; omega
  have dm : decide (m < 0) = false := by rw [decide_eq_false_iff_not]; omega
  obtain ⟨r, hr⟩ : ∃ r : Int, m.tmod 2 = r := ⟨_, rfl⟩
  have hr2 : m % 2 = r := by rw [← hr, ← hm]; rfl
  have d2 : (r != 0) = true := by rw [bne_iff_ne]; omega
  clear hc hv hg hm hn2 hnn h
  go_enter Tryz.func25, Tryz.ntmps25
  go_wp2_with fail
  refine (HF.out _).mono ?_
  rintro e w1 ⟨rfl, rfl⟩
  go_wp2_with fail
  have hld := run_loadVar_row (P := Tryz.prog) _ _ 26 26 _ (0, 0) _ (two_new w (.cells #[.int .i64 0, .int .i64 0, .int .i64 0, .int .i64 0, .int .i64 0, .int .i64 0, .slice none 0 0, .slice none 0 0] 26) (.cells #[.int .i64 8, .int .i64 0, .int .i64 0, .int .i64 0, .int .i64 0, .int .i64 0, .slice none 0 0, .slice none 0 0] 26)).1 Tryz.underlying26 rfl (by kernel_rfl)
  refine bodyPost_ret (v := .tuple #[.agg #[.int .i64 0, .int .i64 0, .int .i64 0, .int .i64 0, .int .i64 0, .int .i64 0, .slice none 0 0, .slice none 0 0], .int .i64 2]) ?_ rfl ⟨rfl, two_below w _ _⟩
  rw [results_cell_tmp rfl]
  simp [asAddr, Result.andThen, hld]
end Go.Proofs.YtdiamlajmcikhaaGreatDoor
