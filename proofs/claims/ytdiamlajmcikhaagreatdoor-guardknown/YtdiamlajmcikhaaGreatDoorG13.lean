/-
  My own text: an operation with its own fields alone; works (printed by mkg13.py).
-/
import Derived.Test.YtdiamlajmcikhaaGreatDoorG12
import Derived.Test.YtdiamlajmcikhaaGreatDoorGKS
import Derived.Test.YtdiamlajmcikhaaGreatDoorGLS
namespace Go.Proofs.YtdiamlajmcikhaaGreatDoor
open Go.RowKit

theorem three_new (w : World) (o p q : Obj) : (((w.alloc o).alloc p).alloc q).heap[w.heap.size]? = some o ∧ (((w.alloc o).alloc p).alloc q).heap[w.heap.size + 1]? = some p ∧ (((w.alloc o).alloc p).alloc q).heap[w.heap.size + 1 + 1]? = some q := by
  refine ⟨alloc_block (two_new w o p).1, alloc_block (two_new w o p).2, ?_⟩
  have := alloc_new ((w.alloc o).alloc p) q
  rwa [show ((w.alloc o).alloc p).heap.size = w.heap.size + 1 + 1 by simp] at this
/-- An operation with its own fields alone. -/
def ownO (o : OpX) : OpX :=
  if o.code = 1 ∨ o.code = 2 then ⟨o.code, o.acc, o.ass, o.qty, 0, 0, [], []⟩
  else if o.code = 3 ∨ o.code = 4 then ⟨o.code, o.acc, o.ass, o.qty, o.name, 0, [], []⟩
  else if o.code = 5 then ⟨o.code, 0, 0, 0, 0, o.id, o.legs, []⟩
  else if o.code = 6 ∨ o.code = 7 then ⟨o.code, 0, 0, 0, 0, o.id, [], []⟩
  else if o.code = 8 then ⟨o.code, 0, 0, 0, 0, 0, [], o.pairs⟩
  else ⟨o.code, 0, 0, 0, 0, 0, [], []⟩
set_option maxRecDepth 100000 in
set_option maxHeartbeats 4000000 in
theorem own_1 (ac as_ qt nm id : Int) (lv pv : Value) (w : World) :
    Calls Tryz.prog 39 #[.agg #[.int .i64 1, .int .i64 ac, .int .i64 as_, .int .i64 qt, .int .i64 nm, .int .i64 id, lv, pv]] w fun e w' => e = .returned (.agg #[.int .i64 1, .int .i64 ac, .int .i64 as_, .int .i64 qt, .int .i64 0, .int .i64 0, .slice none 0 0, .slice none 0 0]) ∧ Below w.heap.size w w' := by
  go_enter Tryz.func39, Tryz.ntmps39
  go_wp2_with fail
  refine bodyPost_ret (v := .agg #[.int .i64 1, .int .i64 ac, .int .i64 as_, .int .i64 qt, .int .i64 0, .int .i64 0, .slice none 0 0, .slice none 0 0]) ?_ rfl ⟨rfl, (two_below w _ _).alloc (by simp; omega) _⟩
  exact results_cell_row rfl _ _ (w.heap.size + 1) 26 _ (0, 0) _ rfl (alloc_block (two_new w _ _).2) Tryz.underlying26 rfl (by kernel_rfl)
set_option maxRecDepth 100000 in
set_option maxHeartbeats 4000000 in
theorem own_2 (ac as_ qt nm id : Int) (lv pv : Value) (w : World) :
    Calls Tryz.prog 39 #[.agg #[.int .i64 2, .int .i64 ac, .int .i64 as_, .int .i64 qt, .int .i64 nm, .int .i64 id, lv, pv]] w fun e w' => e = .returned (.agg #[.int .i64 2, .int .i64 ac, .int .i64 as_, .int .i64 qt, .int .i64 0, .int .i64 0, .slice none 0 0, .slice none 0 0]) ∧ Below w.heap.size w w' := by
  go_enter Tryz.func39, Tryz.ntmps39
  go_wp2_with fail
  refine bodyPost_ret (v := .agg #[.int .i64 2, .int .i64 ac, .int .i64 as_, .int .i64 qt, .int .i64 0, .int .i64 0, .slice none 0 0, .slice none 0 0]) ?_ rfl ⟨rfl, (two_below w _ _).alloc (by simp; omega) _⟩
  exact results_cell_row rfl _ _ (w.heap.size + 1) 26 _ (0, 0) _ rfl (alloc_block (two_new w _ _).2) Tryz.underlying26 rfl (by kernel_rfl)
set_option maxRecDepth 100000 in
set_option maxHeartbeats 4000000 in
theorem own_3 (ac as_ qt nm id : Int) (lv pv : Value) (w : World) :
    Calls Tryz.prog 39 #[.agg #[.int .i64 3, .int .i64 ac, .int .i64 as_, .int .i64 qt, .int .i64 nm, .int .i64 id, lv, pv]] w fun e w' => e = .returned (.agg #[.int .i64 3, .int .i64 ac, .int .i64 as_, .int .i64 qt, .int .i64 nm, .int .i64 0, .slice none 0 0, .slice none 0 0]) ∧ Below w.heap.size w w' := by
  go_enter Tryz.func39, Tryz.ntmps39
  go_wp2_with fail
  refine bodyPost_ret (v := .agg #[.int .i64 3, .int .i64 ac, .int .i64 as_, .int .i64 qt, .int .i64 nm, .int .i64 0, .slice none 0 0, .slice none 0 0]) ?_ rfl ⟨rfl, (two_below w _ _).alloc (by simp; omega) _⟩
  exact results_cell_row rfl _ _ (w.heap.size + 1) 26 _ (0, 0) _ rfl (alloc_block (two_new w _ _).2) Tryz.underlying26 rfl (by kernel_rfl)
set_option maxRecDepth 100000 in
set_option maxHeartbeats 4000000 in
theorem own_4 (ac as_ qt nm id : Int) (lv pv : Value) (w : World) :
    Calls Tryz.prog 39 #[.agg #[.int .i64 4, .int .i64 ac, .int .i64 as_, .int .i64 qt, .int .i64 nm, .int .i64 id, lv, pv]] w fun e w' => e = .returned (.agg #[.int .i64 4, .int .i64 ac, .int .i64 as_, .int .i64 qt, .int .i64 nm, .int .i64 0, .slice none 0 0, .slice none 0 0]) ∧ Below w.heap.size w w' := by
  go_enter Tryz.func39, Tryz.ntmps39
  go_wp2_with fail
  refine bodyPost_ret (v := .agg #[.int .i64 4, .int .i64 ac, .int .i64 as_, .int .i64 qt, .int .i64 nm, .int .i64 0, .slice none 0 0, .slice none 0 0]) ?_ rfl ⟨rfl, (two_below w _ _).alloc (by simp; omega) _⟩
  exact results_cell_row rfl _ _ (w.heap.size + 1) 26 _ (0, 0) _ rfl (alloc_block (two_new w _ _).2) Tryz.underlying26 rfl (by kernel_rfl)
set_option maxRecDepth 100000 in
set_option maxHeartbeats 4000000 in
theorem own_6 (ac as_ qt nm id : Int) (lv pv : Value) (w : World) :
    Calls Tryz.prog 39 #[.agg #[.int .i64 6, .int .i64 ac, .int .i64 as_, .int .i64 qt, .int .i64 nm, .int .i64 id, lv, pv]] w fun e w' => e = .returned (.agg #[.int .i64 6, .int .i64 0, .int .i64 0, .int .i64 0, .int .i64 0, .int .i64 id, .slice none 0 0, .slice none 0 0]) ∧ Below w.heap.size w w' := by
  go_enter Tryz.func39, Tryz.ntmps39
  go_wp2_with fail
  refine bodyPost_ret (v := .agg #[.int .i64 6, .int .i64 0, .int .i64 0, .int .i64 0, .int .i64 0, .int .i64 id, .slice none 0 0, .slice none 0 0]) ?_ rfl ⟨rfl, (two_below w _ _).alloc (by simp; omega) _⟩
  exact results_cell_row rfl _ _ (w.heap.size + 1) 26 _ (0, 0) _ rfl (alloc_block (two_new w _ _).2) Tryz.underlying26 rfl (by kernel_rfl)
set_option maxRecDepth 100000 in
set_option maxHeartbeats 4000000 in
theorem own_7 (ac as_ qt nm id : Int) (lv pv : Value) (w : World) :
    Calls Tryz.prog 39 #[.agg #[.int .i64 7, .int .i64 ac, .int .i64 as_, .int .i64 qt, .int .i64 nm, .int .i64 id, lv, pv]] w fun e w' => e = .returned (.agg #[.int .i64 7, .int .i64 0, .int .i64 0, .int .i64 0, .int .i64 0, .int .i64 id, .slice none 0 0, .slice none 0 0]) ∧ Below w.heap.size w w' := by
  go_enter Tryz.func39, Tryz.ntmps39
  go_wp2_with fail
  refine bodyPost_ret (v := .agg #[.int .i64 7, .int .i64 0, .int .i64 0, .int .i64 0, .int .i64 0, .int .i64 id, .slice none 0 0, .slice none 0 0]) ?_ rfl ⟨rfl, (two_below w _ _).alloc (by simp; omega) _⟩
  exact results_cell_row rfl _ _ (w.heap.size + 1) 26 _ (0, 0) _ rfl (alloc_block (two_new w _ _).2) Tryz.underlying26 rfl (by kernel_rfl)
set_option maxRecDepth 100000 in
set_option maxHeartbeats 4000000 in
theorem own_0 (cd ac as_ qt nm id : Int) (lv pv : Value) (w : World) (hc : ¬ (1 ≤ cd ∧ cd ≤ 8)) :
    Calls Tryz.prog 39 #[.agg #[.int .i64 cd, .int .i64 ac, .int .i64 as_, .int .i64 qt, .int .i64 nm, .int .i64 id, lv, pv]] w fun e w' => e = .returned (.agg #[.int .i64 cd, .int .i64 0, .int .i64 0, .int .i64 0, .int .i64 0, .int .i64 0, .slice none 0 0, .slice none 0 0]) ∧ Below w.heap.size w w' := by
  have n1 : (cd == 1) = false := by rw [beq_eq_false_iff_ne]; omega
  have n2 : (cd == 2) = false := by rw [beq_eq_false_iff_ne]; omega
  have n3 : (cd == 3) = false := by rw [beq_eq_false_iff_ne]; omega
  have n4 : (cd == 4) = false := by rw [beq_eq_false_iff_ne]; omega
  have n5 : (cd == 5) = false := by rw [beq_eq_false_iff_ne]; omega
  have n6 : (cd == 6) = false := by rw [beq_eq_false_iff_ne]; omega
  have n7 : (cd == 7) = false := by rw [beq_eq_false_iff_ne]; omega
  have n8 : (cd == 8) = false := by rw [beq_eq_false_iff_ne]; omega
  clear hc
  go_enter Tryz.func39, Tryz.ntmps39
  go_wp2_with fail
  refine bodyPost_ret (v := .agg #[.int .i64 cd, .int .i64 0, .int .i64 0, .int .i64 0, .int .i64 0, .int .i64 0, .slice none 0 0, .slice none 0 0]) ?_ rfl ⟨rfl, (two_below w _ _).alloc (by simp; omega) _⟩
  exact results_cell_row rfl _ _ (w.heap.size + 1) 26 _ (0, 0) _ rfl (alloc_block (two_new w _ _).2) Tryz.underlying26 rfl (by kernel_rfl)
set_option maxRecDepth 100000 in
set_option maxHeartbeats 4000000 in
theorem own_5 (ac as_ qt nm id : Int) (lv pv : Value) (L : List LG.El) (w : World) (hv : LG.RM w lv L) (hl : L.length ≤ 3518437208800) :
    Calls Tryz.prog 39 #[.agg #[.int .i64 5, .int .i64 ac, .int .i64 as_, .int .i64 qt, .int .i64 nm, .int .i64 id, lv, pv]] w fun e w' => ∃ rv, e = .returned (.agg #[.int .i64 5, .int .i64 0, .int .i64 0, .int .i64 0, .int .i64 0, .int .i64 id, rv, .slice none 0 0]) ∧ LG.OM w' w.heap.size rv L ∧ Below w.heap.size w w' := by
  have HC := hide (fun (W : World) (hb : Below w.heap.size w W) => LG.copyM_any lv L W (hv.later hb) hl)
  obtain ⟨sa, sc, hsv⟩ := LG.rm_lt hv
  subst hsv
  clear hv
  go_enter Tryz.func39, Tryz.ntmps39
  go_wp2_with fail
  refine (HC.out _ ((two_below w _ _).alloc (by simp; omega) _)).mono ?_
  rintro e w1 ⟨rv, rfl, hO, hb⟩
  obtain ⟨ra, rc, hrv⟩ := LG.rm_lt hO.rm
  subst hrv
  have X2 := hide (blk_later (show _ from three_new w (.cells #[.int .i64 5, .int .i64 ac, .int .i64 as_, .int .i64 qt, .int .i64 nm, .int .i64 id, .slice sa L.length sc, pv] 26) (.cells #[.int .i64 0, .int .i64 0, .int .i64 0, .int .i64 0, .int .i64 0, .int .i64 0, .slice none 0 0, .slice none 0 0] 26) (.cells #[.int .i64 5, .int .i64 0, .int .i64 0, .int .i64 0, .int .i64 0, .int .i64 id, .slice none 0 0, .slice none 0 0] 26)).2.2 hb)
  have R2 := hide (blk_later (show _ from three_new w (.cells #[.int .i64 5, .int .i64 ac, .int .i64 as_, .int .i64 qt, .int .i64 nm, .int .i64 id, .slice sa L.length sc, pv] 26) (.cells #[.int .i64 0, .int .i64 0, .int .i64 0, .int .i64 0, .int .i64 0, .int .i64 0, .slice none 0 0, .slice none 0 0] 26) (.cells #[.int .i64 5, .int .i64 0, .int .i64 0, .int .i64 0, .int .i64 0, .int .i64 id, .slice none 0 0, .slice none 0 0] 26)).2.1 hb)
  have HB1 := hide ((show Below w.heap.size w _ from (two_below w (.cells #[.int .i64 5, .int .i64 ac, .int .i64 as_, .int .i64 qt, .int .i64 nm, .int .i64 id, .slice sa L.length sc, pv] 26) (.cells #[.int .i64 0, .int .i64 0, .int .i64 0, .int .i64 0, .int .i64 0, .int .i64 0, .slice none 0 0, .slice none 0 0] 26)).alloc (by simp; omega) (.cells #[.int .i64 5, .int .i64 0, .int .i64 0, .int .i64 0, .int .i64 0, .int .i64 id, .slice none 0 0, .slice none 0 0] 26)).trans (hb.mono (by simp; omega)))
  have HO := hide hO
  have hsz : (((w.alloc (.cells #[.int .i64 5, .int .i64 ac, .int .i64 as_, .int .i64 qt, .int .i64 nm, .int .i64 id, .slice sa L.length sc, pv] 26)).alloc (.cells #[.int .i64 0, .int .i64 0, .int .i64 0, .int .i64 0, .int .i64 0, .int .i64 0, .slice none 0 0, .slice none 0 0] 26)).alloc (.cells #[.int .i64 5, .int .i64 0, .int .i64 0, .int .i64 0, .int .i64 0, .int .i64 id, .slice none 0 0, .slice none 0 0] 26)).heap.size = w.heap.size + 3 := by simp
  rw [hsz] at HO
  have f2 := no_froz0 X2.out 6
  obtain ⟨y0, y1, y2, y3, y4, y5, y6, y7⟩ := eight_cells X2.out rfl
  obtain ⟨W, hW⟩ : ∃ x, w1.setCell ⟨w.heap.size + 1 + 1, 6, none⟩ (.slice ra L.length rc) = x := ⟨_, rfl⟩
  have XW := hide (set_blk0 X2.out 6 (.slice ra L.length rc) rfl)
  have RW := hide ((Below.heap_setCell w1 ⟨w.heap.size + 1 + 1, 6, none⟩ (.slice ra L.length rc) (w.heap.size + 1) (by show w.heap.size + 1 ≠ w.heap.size + 1 + 1; omega)).trans R2.out)
  have BW := hide (HB1.out.setCell (p := ⟨w.heap.size + 1 + 1, 6, none⟩) (by show w.heap.size ≤ w.heap.size + 1 + 1; omega) (.slice ra L.length rc))
  have OW : Hid (LG.OM (w1.setCell ⟨w.heap.size + 1 + 1, 6, none⟩ (.slice ra L.length rc)) (w.heap.size + 3) (.slice ra L.length rc) L) := hide (owns_blk HO.out (fun b hb => Below.heap_setCell _ _ _ b (by show b ≠ w.heap.size + 1 + 1; have := (World.ownsRow.lt HO.out b hb).1; omega)))
  rw [hW] at XW RW BW OW
  clear hb hO hsz
  obtain ⟨u0, u1, u2, u3, u4, u5, u6, u7⟩ := eight_cells XW.out rfl
  go_wp2_with (first
    | (refine wpList_store_row rfl 26 (.tmp 2) _ rfl (w.heap.size + 1) #[.int .i64 5, .int .i64 0, .int .i64 0, .int .i64 0, .int .i64 0, .int .i64 id, .slice ra L.length rc, .slice none 0 0] rfl rfl 26 _ RW.out ?r2 ?r3 ?r4 ?_)
    | go_in)
  case r2 => kernel_rfl
  case r3 => rfl
  case r4 => first | rfl | kernel_rfl
  refine bodyPost_ret (v := .agg #[.int .i64 5, .int .i64 0, .int .i64 0, .int .i64 0, .int .i64 0, .int .i64 id, .slice ra L.length rc, .slice none 0 0]) ?_ rfl ⟨_, rfl, ?_, below_row BW.out (by omega)⟩
  · exact results_cell_row rfl _ _ (w.heap.size + 1) 26 _ (0, 0) _ rfl (setRow_heap _ _ _ _ _ _ RW.out) Tryz.underlying26 rfl (by kernel_rfl)
  · exact World.ownsRow.mono (owns_blk OW.out (fun b hb => setRow_other _ _ _ _ (by have := (World.ownsRow.lt OW.out b hb).1; omega))) (by omega)
set_option maxRecDepth 100000 in
set_option maxHeartbeats 4000000 in
theorem own_8 (ac as_ qt nm id : Int) (lv pv : Value) (L : List KY.El) (w : World) (hv : KY.RM w pv L) (hl : L.length ≤ 8796093022000) :
    Calls Tryz.prog 39 #[.agg #[.int .i64 8, .int .i64 ac, .int .i64 as_, .int .i64 qt, .int .i64 nm, .int .i64 id, lv, pv]] w fun e w' => ∃ rv, e = .returned (.agg #[.int .i64 8, .int .i64 0, .int .i64 0, .int .i64 0, .int .i64 0, .int .i64 0, .slice none 0 0, rv]) ∧ KY.OM w' w.heap.size rv L ∧ Below w.heap.size w w' := by
  have HC := hide (fun (W : World) (hb : Below w.heap.size w W) => KY.copyM_any pv L W (hv.later hb) hl)
  obtain ⟨sa, sc, hsv⟩ := KY.rm_lt hv
  subst hsv
  clear hv
  go_enter Tryz.func39, Tryz.ntmps39
  go_wp2_with fail
  refine (HC.out _ ((two_below w _ _).alloc (by simp; omega) _)).mono ?_
  rintro e w1 ⟨rv, rfl, hO, hb⟩
  obtain ⟨ra, rc, hrv⟩ := KY.rm_lt hO.rm
  subst hrv
  have X2 := hide (blk_later (show _ from three_new w (.cells #[.int .i64 8, .int .i64 ac, .int .i64 as_, .int .i64 qt, .int .i64 nm, .int .i64 id, lv, .slice sa L.length sc] 26) (.cells #[.int .i64 0, .int .i64 0, .int .i64 0, .int .i64 0, .int .i64 0, .int .i64 0, .slice none 0 0, .slice none 0 0] 26) (.cells #[.int .i64 8, .int .i64 0, .int .i64 0, .int .i64 0, .int .i64 0, .int .i64 0, .slice none 0 0, .slice none 0 0] 26)).2.2 hb)
  have R2 := hide (blk_later (show _ from three_new w (.cells #[.int .i64 8, .int .i64 ac, .int .i64 as_, .int .i64 qt, .int .i64 nm, .int .i64 id, lv, .slice sa L.length sc] 26) (.cells #[.int .i64 0, .int .i64 0, .int .i64 0, .int .i64 0, .int .i64 0, .int .i64 0, .slice none 0 0, .slice none 0 0] 26) (.cells #[.int .i64 8, .int .i64 0, .int .i64 0, .int .i64 0, .int .i64 0, .int .i64 0, .slice none 0 0, .slice none 0 0] 26)).2.1 hb)
  have HB1 := hide ((show Below w.heap.size w _ from (two_below w (.cells #[.int .i64 8, .int .i64 ac, .int .i64 as_, .int .i64 qt, .int .i64 nm, .int .i64 id, lv, .slice sa L.length sc] 26) (.cells #[.int .i64 0, .int .i64 0, .int .i64 0, .int .i64 0, .int .i64 0, .int .i64 0, .slice none 0 0, .slice none 0 0] 26)).alloc (by simp; omega) (.cells #[.int .i64 8, .int .i64 0, .int .i64 0, .int .i64 0, .int .i64 0, .int .i64 0, .slice none 0 0, .slice none 0 0] 26)).trans (hb.mono (by simp; omega)))
  have HO := hide hO
  have hsz : (((w.alloc (.cells #[.int .i64 8, .int .i64 ac, .int .i64 as_, .int .i64 qt, .int .i64 nm, .int .i64 id, lv, .slice sa L.length sc] 26)).alloc (.cells #[.int .i64 0, .int .i64 0, .int .i64 0, .int .i64 0, .int .i64 0, .int .i64 0, .slice none 0 0, .slice none 0 0] 26)).alloc (.cells #[.int .i64 8, .int .i64 0, .int .i64 0, .int .i64 0, .int .i64 0, .int .i64 0, .slice none 0 0, .slice none 0 0] 26)).heap.size = w.heap.size + 3 := by simp
  rw [hsz] at HO
  have f2 := no_froz0 X2.out 7
  obtain ⟨y0, y1, y2, y3, y4, y5, y6, y7⟩ := eight_cells X2.out rfl
  obtain ⟨W, hW⟩ : ∃ x, w1.setCell ⟨w.heap.size + 1 + 1, 7, none⟩ (.slice ra L.length rc) = x := ⟨_, rfl⟩
  have XW := hide (set_blk0 X2.out 7 (.slice ra L.length rc) rfl)
  have RW := hide ((Below.heap_setCell w1 ⟨w.heap.size + 1 + 1, 7, none⟩ (.slice ra L.length rc) (w.heap.size + 1) (by show w.heap.size + 1 ≠ w.heap.size + 1 + 1; omega)).trans R2.out)
  have BW := hide (HB1.out.setCell (p := ⟨w.heap.size + 1 + 1, 7, none⟩) (by show w.heap.size ≤ w.heap.size + 1 + 1; omega) (.slice ra L.length rc))
  have OW : Hid (KY.OM (w1.setCell ⟨w.heap.size + 1 + 1, 7, none⟩ (.slice ra L.length rc)) (w.heap.size + 3) (.slice ra L.length rc) L) := hide (owns_blk HO.out (fun b hb => Below.heap_setCell _ _ _ b (by show b ≠ w.heap.size + 1 + 1; have := (World.ownsRow.lt HO.out b hb).1; omega)))
  rw [hW] at XW RW BW OW
  clear hb hO hsz
  obtain ⟨u0, u1, u2, u3, u4, u5, u6, u7⟩ := eight_cells XW.out rfl
  go_wp2_with (first
    | (refine wpList_store_row rfl 26 (.tmp 2) _ rfl (w.heap.size + 1) #[.int .i64 8, .int .i64 0, .int .i64 0, .int .i64 0, .int .i64 0, .int .i64 0, .slice none 0 0, .slice ra L.length rc] rfl rfl 26 _ RW.out ?r2 ?r3 ?r4 ?_)
    | go_in)
  case r2 => kernel_rfl
  case r3 => rfl
  case r4 => first | rfl | kernel_rfl
  refine bodyPost_ret (v := .agg #[.int .i64 8, .int .i64 0, .int .i64 0, .int .i64 0, .int .i64 0, .int .i64 0, .slice none 0 0, .slice ra L.length rc]) ?_ rfl ⟨_, rfl, ?_, below_row BW.out (by omega)⟩
  · exact results_cell_row rfl _ _ (w.heap.size + 1) 26 _ (0, 0) _ rfl (setRow_heap _ _ _ _ _ _ RW.out) Tryz.underlying26 rfl (by kernel_rfl)
  · exact World.ownsRow.mono (owns_blk OW.out (fun b hb => setRow_other _ _ _ _ (by have := (World.ownsRow.lt OW.out b hb).1; omega))) (by omega)
theorem ownO_1 {o : OpX} (h : o.code = 1) : ownO o = ⟨o.code, o.acc, o.ass, o.qty, 0, 0, [], []⟩ := by unfold ownO; simp [h]
theorem ownO_2 {o : OpX} (h : o.code = 2) : ownO o = ⟨o.code, o.acc, o.ass, o.qty, 0, 0, [], []⟩ := by unfold ownO; simp [h]
theorem ownO_3 {o : OpX} (h : o.code = 3) : ownO o = ⟨o.code, o.acc, o.ass, o.qty, o.name, 0, [], []⟩ := by unfold ownO; simp [h]
theorem ownO_4 {o : OpX} (h : o.code = 4) : ownO o = ⟨o.code, o.acc, o.ass, o.qty, o.name, 0, [], []⟩ := by unfold ownO; simp [h]
theorem ownO_5 {o : OpX} (h : o.code = 5) : ownO o = ⟨o.code, 0, 0, 0, 0, o.id, o.legs, []⟩ := by unfold ownO; simp [h]
theorem ownO_6 {o : OpX} (h : o.code = 6) : ownO o = ⟨o.code, 0, 0, 0, 0, o.id, [], []⟩ := by unfold ownO; simp [h]
theorem ownO_7 {o : OpX} (h : o.code = 7) : ownO o = ⟨o.code, 0, 0, 0, 0, o.id, [], []⟩ := by unfold ownO; simp [h]
theorem ownO_8 {o : OpX} (h : o.code = 8) : ownO o = ⟨o.code, 0, 0, 0, 0, 0, [], o.pairs⟩ := by unfold ownO; simp [h]
theorem ownO_0 {o : OpX} (h : ¬ (1 ≤ o.code ∧ o.code ≤ 8)) : ownO o = ⟨o.code, 0, 0, 0, 0, 0, [], []⟩ := by
  unfold ownO
  rw [if_neg (by omega), if_neg (by omega), if_neg (by omega), if_neg (by omega), if_neg (by omega)]
theorem own_any (o : OpX) (lv pv : Value) (w : World) (hL : LG.RM w lv o.legs) (hP : KY.RM w pv o.pairs) (hl : o.legs.length ≤ 3518437208800) (hp : o.pairs.length ≤ 8796093022000) :
    Calls Tryz.prog 39 #[opV o lv pv] w fun e w' => ∃ lv' pv', e = .returned (opV (ownO o) lv' pv') ∧ LG.OM w' w.heap.size lv' (ownO o).legs ∧ KY.OM w' w.heap.size pv' (ownO o).pairs ∧ Below w.heap.size w w' := by
  by_cases hc : 1 ≤ o.code ∧ o.code ≤ 8
  · obtain e | e | e | e | e | e | e | e : o.code = 1 ∨ o.code = 2 ∨ o.code = 3 ∨ o.code = 4 ∨ o.code = 5 ∨ o.code = 6 ∨ o.code = 7 ∨ o.code = 8 := by omega
    · rw [ownO_1 e]
      unfold opV
      rw [e]
      exact (own_1 o.acc o.ass o.qty o.name o.id lv pv w).mono fun e w' ⟨he, hb⟩ => ⟨.slice none 0 0, .slice none 0 0, he, LG.OM.nil _ _, KY.OM.nil _ _, hb⟩
    · rw [ownO_2 e]
      unfold opV
      rw [e]
      exact (own_2 o.acc o.ass o.qty o.name o.id lv pv w).mono fun e w' ⟨he, hb⟩ => ⟨.slice none 0 0, .slice none 0 0, he, LG.OM.nil _ _, KY.OM.nil _ _, hb⟩
    · rw [ownO_3 e]
      unfold opV
      rw [e]
      exact (own_3 o.acc o.ass o.qty o.name o.id lv pv w).mono fun e w' ⟨he, hb⟩ => ⟨.slice none 0 0, .slice none 0 0, he, LG.OM.nil _ _, KY.OM.nil _ _, hb⟩
    · rw [ownO_4 e]
      unfold opV
      rw [e]
      exact (own_4 o.acc o.ass o.qty o.name o.id lv pv w).mono fun e w' ⟨he, hb⟩ => ⟨.slice none 0 0, .slice none 0 0, he, LG.OM.nil _ _, KY.OM.nil _ _, hb⟩
    · rw [ownO_5 e]
      unfold opV
      rw [e]
      exact (own_5 o.acc o.ass o.qty o.name o.id lv pv o.legs w hL hl).mono fun e w' ⟨rv, he, ho, hb⟩ => ⟨rv, .slice none 0 0, he, ho, KY.OM.nil _ _, hb⟩
    · rw [ownO_6 e]
      unfold opV
      rw [e]
      exact (own_6 o.acc o.ass o.qty o.name o.id lv pv w).mono fun e w' ⟨he, hb⟩ => ⟨.slice none 0 0, .slice none 0 0, he, LG.OM.nil _ _, KY.OM.nil _ _, hb⟩
    · rw [ownO_7 e]
      unfold opV
      rw [e]
      exact (own_7 o.acc o.ass o.qty o.name o.id lv pv w).mono fun e w' ⟨he, hb⟩ => ⟨.slice none 0 0, .slice none 0 0, he, LG.OM.nil _ _, KY.OM.nil _ _, hb⟩
    · rw [ownO_8 e]
      unfold opV
      rw [e]
      exact (own_8 o.acc o.ass o.qty o.name o.id lv pv o.pairs w hP hp).mono fun e w' ⟨rv, he, ho, hb⟩ => ⟨.slice none 0 0, rv, he, LG.OM.nil _ _, ho, hb⟩
  · rw [ownO_0 hc]
    exact (own_0 o.code o.acc o.ass o.qty o.name o.id lv pv w hc).mono fun e w' ⟨he, hb⟩ => ⟨.slice none 0 0, .slice none 0 0, he, LG.OM.nil _ _, KY.OM.nil _ _, hb⟩
theorem chk_own (A S : Int) (o : OpX) : chk A S (ownO o) = chk A S o := by
  by_cases hc : 1 ≤ o.code ∧ o.code ≤ 8
  · obtain e | e | e | e | e | e | e | e : o.code = 1 ∨ o.code = 2 ∨ o.code = 3 ∨ o.code = 4 ∨ o.code = 5 ∨ o.code = 6 ∨ o.code = 7 ∨ o.code = 8 := by omega
    · rw [ownO_1 e, chk_1 e]; exact chk_1 e
    · rw [ownO_2 e, chk_2 e]; exact chk_2 e
    · rw [ownO_3 e, chk_3 e]; exact chk_3 e
    · rw [ownO_4 e, chk_4 e]; exact chk_4 e
    · rw [ownO_5 e, chk_5 e]; exact chk_5 e
    · rw [ownO_6 e, chk_6 e]; exact chk_6 e
    · rw [ownO_7 e, chk_7 e]; exact chk_7 e
    · rw [ownO_8 e, chk_8 e]; exact chk_8 e
  · rw [ownO_0 hc, chk_0 hc]; exact chk_0 hc
set_option maxRecDepth 100000 in
set_option maxHeartbeats 4000000 in
theorem works_any (w : World) (hE : ErrType w) :
    Calls Tryz.prog 4 #[] w fun e w' => e = .returned (.bool true) ∧ Below w.heap.size w w' := by
  have HE := hide hE
  clear hE
  have B0 := hide ((Below.refl w.heap.size w).alloc (Nat.le_refl _) (.cells #[.int .i64 1, .int .i64 0, .int .i64 1, .int .i64 5] 2))
  have N0 := alloc_new w (.cells #[.int .i64 1, .int .i64 0, .int .i64 1, .int .i64 5] 2)
  have HD := hide (decode_any (.slice (some ⟨w.heap.size, 0, none⟩) 4 4) [1, 0, 1, 5] (w.alloc (.cells #[.int .i64 1, .int .i64 0, .int .i64 1, .int .i64 5] 2)) ⟨w.heap.size, _, _, rfl, Nat.le_refl _, .inr ⟨0, rfl, by simp, fun j c hj => by
    rw [cell_of_row _ _ _ _ _ _ N0]
    match j, hj with
    | 0, hj => cases hj; rfl
    | 1, hj => cases hj; rfl
    | 2, hj => cases hj; rfl
    | 3, hj => cases hj; rfl⟩⟩ (by decide))
  have hO : dcO [1, 0, 1, 5] = ⟨1, 0, 1, 5, 0, 0, [], []⟩ := by rfl
  have hEr : dcE [1, 0, 1, 5] = 0 := by rfl
  unfold DcP at HD
  rw [hO, hEr, errV_zero] at HD
  clear N0 hO hEr
  go_enter Tryz.func4, Tryz.ntmps4
  go_wp2_with fail
  refine HD.out.mono ?_
  rintro e w1 ⟨lv, pv, rfl, hL, hP, hb⟩
  obtain ⟨la, lc, rfl⟩ := LG.rm_lt hL.rm
  obtain ⟨pa, pc, rfl⟩ := KY.rm_lt hP.rm
  unfold opV
  have HB1 := hide (B0.out.trans (hb.mono B0.out.size))
  have HC1 := hide (fun (A S : Int) (W : World) (hb : Below w1.heap.size w1 W) => check_any A S 0 0 0 ⟨1, 0, 1, 5, 0, 0, [], []⟩ (.slice la 0 lc) (.slice pa 0 pc) W (hL.rm.later hb) (hP.rm.later hb) (by decide) (by decide))
  have HB2 := hide (HB1.out.alloc HB1.out.size (.cells #[.int .i64 1, .int .i64 0, .int .i64 1, .int .i64 5, .int .i64 0, .int .i64 0, .slice la 0 lc, .slice pa 0 pc] 26))
  have b2 := (Below.refl w1.heap.size w1).alloc (Nat.le_refl _) (.cells #[.int .i64 1, .int .i64 0, .int .i64 1, .int .i64 5, .int .i64 0, .int .i64 0, .slice la 0 lc, .slice pa 0 pc] 26)
  have Z2 := hide (alloc_new w1 (.cells #[.int .i64 1, .int .i64 0, .int .i64 1, .int .i64 5, .int .i64 0, .int .i64 0, .slice la 0 lc, .slice pa 0 pc] 26))
  have H1 := hide (HC1.out 1 2 _ b2)
  have H2 := hide (fun (W : World) (hb : Below w1.heap.size w1 W) => HC1.out 1 1 W hb)
  rw [show chk 1 2 ⟨1, 0, 1, 5, 0, 0, [], []⟩ = 0 by rfl, errV_zero] at H1
  rw [show chk 1 1 ⟨1, 0, 1, 5, 0, 0, [], []⟩ = 15 by rfl] at H2
  unfold opV at H1 H2
  have HPL := hide (fun (W : World) (hE : ErrType W) => plain_errV 15 15 W (by omega) (by omega) hE)
  generalize errV 15 = ev at *
  obtain ⟨y0, y1, y2, y3, y4, y5, y6, y7⟩ := eight_cells Z2.out rfl
  have HB2' := hide b2
  clear hL hP hb HC1 HD b2
  go_wp2_with fail
  refine H1.out.mono ?_
  rintro e w3 ⟨rfl, hb⟩
  have HB3 := hide (HB2.out.trans (hb.mono HB2.out.size))
  have b3 := hide (HB2'.out.trans (hb.mono HB2'.out.size))
  have Z3 := hide (blk_later Z2.out hb)
  clear hb y0 y1 y2 y3 y4 y5 y6 y7
  obtain ⟨y0, y1, y2, y3, y4, y5, y6, y7⟩ := eight_cells Z3.out rfl
  go_wp2_with fail
  refine (H2.out _ b3.out).mono ?_
  rintro e w4 ⟨rfl, hb⟩
  have HB4 := hide (HB3.out.trans (hb.mono HB3.out.size))
  clear hb y0 y1 y2 y3 y4 y5 y6 y7
  go_wp2_with fail
  refine (HPL.out _ (HE.out.below HB4.out)).mono ?_
  rintro e w5 ⟨rfl, hb⟩
  have HB5 := hide (HB4.out.trans (hb.mono HB4.out.size))
  clear hb
  go_wp2_with fail
  go_ret
  exact ⟨rfl, HB5.out⟩
end Go.Proofs.YtdiamlajmcikhaaGreatDoor
