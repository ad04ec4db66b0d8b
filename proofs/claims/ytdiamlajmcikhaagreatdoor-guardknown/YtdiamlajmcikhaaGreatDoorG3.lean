/-
  My own text: the table of forms, and a code's form.
-/
import Derived.Test.YtdiamlajmcikhaaGreatDoorG2
import Derived.Deep.WholeRow
import Derived.Laws.Tables
import Derived.Laws.Rows
import Derived.Laws.ResultCell
namespace Go.Proofs.YtdiamlajmcikhaaGreatDoor
open Go.RowKit

theorem below_row {B g : Nat} {a w : World} {cs : Array Value} (h : Below B a w) (hg : B ≤ g) : Below B a (w.setRow g cs) :=
  ⟨h.os, h.tape, h.output, by rw [setRow_size]; exact h.size, fun b hb => (setRow_other w g b cs (by omega)).trans (h.block b hb)⟩
/-- The table's cells. -/
def fmC : Array Value := #[.int .i64 0, .int .i64 0, .nilFunc, .nilFunc, .nilFunc, .int .i64 3, .int .i64 0, .func (.func 63) #[] #[], .func (.func 64) #[] #[], .func (.func 65) #[] #[], .int .i64 3, .int .i64 0, .func (.func 63) #[] #[], .func (.func 64) #[] #[], .func (.func 65) #[] #[], .int .i64 4, .int .i64 0, .func (.func 66) #[] #[], .func (.func 67) #[] #[], .func (.func 68) #[] #[], .int .i64 4, .int .i64 0, .func (.func 66) #[] #[], .func (.func 67) #[] #[], .func (.func 68) #[] #[], .int .i64 1, .int .i64 5, .func (.func 69) #[] #[], .func (.func 70) #[] #[], .func (.func 71) #[] #[], .int .i64 1, .int .i64 0, .func (.func 72) #[] #[], .func (.func 73) #[] #[], .func (.func 74) #[] #[], .int .i64 1, .int .i64 0, .func (.func 72) #[] #[], .func (.func 73) #[] #[], .func (.func 74) #[] #[], .int .i64 0, .int .i64 2, .func (.func 75) #[] #[], .func (.func 76) #[] #[], .func (.func 77) #[] #[]]
def fmZ : Array Value := #[.int .i64 0, .int .i64 0, .nilFunc, .nilFunc, .nilFunc, .int .i64 0, .int .i64 0, .nilFunc, .nilFunc, .nilFunc, .int .i64 0, .int .i64 0, .nilFunc, .nilFunc, .nilFunc, .int .i64 0, .int .i64 0, .nilFunc, .nilFunc, .nilFunc, .int .i64 0, .int .i64 0, .nilFunc, .nilFunc, .nilFunc, .int .i64 0, .int .i64 0, .nilFunc, .nilFunc, .nilFunc, .int .i64 0, .int .i64 0, .nilFunc, .nilFunc, .nilFunc, .int .i64 0, .int .i64 0, .nilFunc, .nilFunc, .nilFunc, .int .i64 0, .int .i64 0, .nilFunc, .nilFunc, .nilFunc]
set_option maxRecDepth 100000 in
set_option maxHeartbeats 2000000 in
theorem forms_any (w : World) :
    Calls Tryz.prog 43 #[] w fun e w' => e = .returned (.agg fmC) ∧ Below w.heap.size w w' := by
  go_enter Tryz.func43, Tryz.ntmps43
  go_wp2_with (first
    | (refine wpList_store_row rfl 87 _ _ rfl w.heap.size fmC rfl rfl 87 fmZ ?s1 ?s2 ?s3 ?s4 ?_)
    | go_in)
  case s1 => exact alloc_new w _
  case s2 => kernel_rfl
  case s3 => rfl
  case s4 => kernel_rfl
  have hW : (w.alloc (.cells fmZ 87)).setRow w.heap.size fmC = w.alloc (.cells fmC 87) := World.setRow_alloc_new _ _ _ _
  unfold fmZ at hW
  rw [hW]
  refine bodyPost_ret (v := .agg fmC) ?_ rfl ⟨rfl, (Below.refl w.heap.size w).alloc (Nat.le_refl _) _⟩
  exact results_cell_row rfl _ _ w.heap.size 87 fmC (0, 0) _ rfl (alloc_new w _) Tryz.underlying87 rfl (by kernel_rfl)
/-- A code's form. -/
def fmV (c : Nat) : Value := .agg (fmC.extract (c * 5) (c * 5 + 5))
theorem index_form (c : Nat) (h1 : 1 ≤ c) (h2 : c ≤ 8) (W : World) : (Instr.index 87 (.agg fmC) (.int .i64 (c : Int))).run Tryz.prog W = .ok (fmV c) W := by
  obtain rfl | rfl | rfl | rfl | rfl | rfl | rfl | rfl : c = 1 ∨ c = 2 ∨ c = 3 ∨ c = 4 ∨ c = 5 ∨ c = 6 ∨ c = 7 ∨ c = 8 := by omega
  all_goals kernel_rfl
/-- A form as five cells. -/
theorem fmV_size (c : Nat) (h2 : c ≤ 8) : (fmC.extract (c * 5) (c * 5 + 5)).size = 5 ∧ (fmC.extract (c * 5) (c * 5 + 5)).all (·.oneCell') = true := by
  obtain rfl | rfl | rfl | rfl | rfl | rfl | rfl | rfl | rfl : c = 0 ∨ c = 1 ∨ c = 2 ∨ c = 3 ∨ c = 4 ∨ c = 5 ∨ c = 6 ∨ c = 7 ∨ c = 8 := by omega
  all_goals exact ⟨by kernel_rfl, by kernel_rfl⟩
set_option maxRecDepth 100000 in
set_option maxHeartbeats 2000000 in
theorem formOf_any (c : Nat) (w : World) (h1 : 1 ≤ c) (h2 : c ≤ 8) :
    Calls Tryz.prog 21 #[.int .i64 (c : Int)] w fun e w' => e = .returned (.tuple #[fmV c, .bool true]) ∧ Below w.heap.size w w' := by
  have HW := hide (fun W : World => within_any (c : Int) 1 8 W)
  rw [show (decide (1 ≤ (c : Int)) && decide ((c : Int) ≤ 8)) = true by simp; omega] at HW
  have HF := hide (fun W : World => forms_any W)
  go_enter Tryz.func21, Tryz.ntmps21
  go_wp2_with fail
  refine (HW.out _).mono ?_
  rintro e w1 ⟨rfl, rfl⟩
  go_wp2_with fail
  refine (HF.out _).mono ?_
  rintro e w2 ⟨rfl, hb⟩
  have HI := index_form c h1 h2
  have hs := fmV_size c h2
  have HB1 := hide (((Below.refl w.heap.size w).alloc (Nat.le_refl _) (.cells #[.int .i64 0, .int .i64 0, .nilFunc, .nilFunc, .nilFunc] 56)).trans (hb.mono (by simp)))
  have Z := hide (blk_later (alloc_new w (.cells #[.int .i64 0, .int .i64 0, .nilFunc, .nilFunc, .nilFunc] 56)) hb)
  have HV : fmV c = .agg (fmC.extract (c * 5) (c * 5 + 5)) := rfl
  rw [HV] at HI
  generalize (fmC.extract (c * 5) (c * 5 + 5)) = fc at *
  clear hb
  go_wp2_with (first
    | (refine wpList_store_row rfl 56 _ _ rfl w.heap.size fc rfl rfl 56 _ Z.out ?s2 ?s3 ?s4 ?_)
    | go_in)
  case s2 => rw [hs.1]; kernel_rfl
  case s3 => rw [hs.1]; rfl
  case s4 => exact hs.2
  have hld : (loadVar 56 ⟨w.heap.size, 0, none⟩).run Tryz.prog (w2.setRow w.heap.size fc) = .ok (.agg fc) (w2.setRow w.heap.size fc) := run_loadVar_row _ _ 56 _ fc (0, 0) _ (setRow_heap _ _ _ _ _ _ Z.out) Tryz.underlying56 rfl (by rw [hs.1]; kernel_rfl)
  refine bodyPost_ret (v := .tuple #[.agg fc, .bool true]) ?_ rfl ⟨by rw [HV], below_row HB1.out (Nat.le_refl _)⟩
  rw [results_cell_tmp rfl]
  simp [asAddr, Result.andThen, hld]
set_option maxRecDepth 100000 in
set_option maxHeartbeats 2000000 in
theorem formOf_bad (c : Int) (w : World) (h : ¬ (1 ≤ c ∧ c ≤ 8)) :
    Calls Tryz.prog 21 #[.int .i64 c] w fun e w' => e = .returned (.tuple #[.agg #[.int .i64 0, .int .i64 0, .nilFunc, .nilFunc, .nilFunc], .bool false]) ∧ Below w.heap.size w w' := by
  have HW := hide (fun W : World => within_any c 1 8 W)
  rw [show (decide (1 ≤ c) && decide (c ≤ 8)) = false by simp; omega] at HW
  clear h
  have Z := hide (alloc_new w (.cells #[.int .i64 0, .int .i64 0, .nilFunc, .nilFunc, .nilFunc] 56))
  have B0 := hide ((Below.refl w.heap.size w).alloc (Nat.le_refl _) (.cells #[.int .i64 0, .int .i64 0, .nilFunc, .nilFunc, .nilFunc] 56))
  go_enter Tryz.func21, Tryz.ntmps21
  go_wp2_with fail
  refine (HW.out _).mono ?_
  rintro e w1 ⟨rfl, rfl⟩
  generalize w.alloc (.cells #[.int .i64 0, .int .i64 0, .nilFunc, .nilFunc, .nilFunc] 56) = W at *
  go_wp2_with (first
    | (refine wpList_store_row rfl 56 _ _ rfl w.heap.size #[.int .i64 0, .int .i64 0, .nilFunc, .nilFunc, .nilFunc] rfl rfl 56 _ Z.out ?s2 ?s3 ?s4 ?_)
    | go_in)
  case s2 => kernel_rfl
  case s3 => rfl
  case s4 => kernel_rfl
  have hld : (loadVar 56 ⟨w.heap.size, 0, none⟩).run Tryz.prog (W.setRow w.heap.size #[.int .i64 0, .int .i64 0, .nilFunc, .nilFunc, .nilFunc]) = .ok (.agg #[.int .i64 0, .int .i64 0, .nilFunc, .nilFunc, .nilFunc]) (W.setRow w.heap.size #[.int .i64 0, .int .i64 0, .nilFunc, .nilFunc, .nilFunc]) := run_loadVar_row _ _ 56 _ #[.int .i64 0, .int .i64 0, .nilFunc, .nilFunc, .nilFunc] (0, 0) _ (setRow_heap _ _ _ _ _ _ Z.out) Tryz.underlying56 rfl (by kernel_rfl)
  refine bodyPost_ret (v := .tuple #[.agg #[.int .i64 0, .int .i64 0, .nilFunc, .nilFunc, .nilFunc], .bool false]) ?_ rfl ⟨rfl, below_row B0.out (Nat.le_refl _)⟩
  rw [results_cell_tmp rfl]
  simp [asAddr, Result.andThen, hld]
end Go.Proofs.YtdiamlajmcikhaaGreatDoor
