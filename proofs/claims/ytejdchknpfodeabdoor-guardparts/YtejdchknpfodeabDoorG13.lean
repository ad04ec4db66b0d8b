/-
  My own text: an operation with its own fields alone; works (printed by mkg13.py).
-/
import Derived.Test.YtejdchknpfodeabDoorG12
import Derived.Test.YtejdchknpfodeabDoorGKS
import Derived.Test.YtejdchknpfodeabDoorGLS
namespace Go.Proofs.YtejdchknpfodeabDoor
open Go.RowKit

theorem three_new (w : World) (o p q : Obj) : (((w.alloc o).alloc p).alloc q).heap[w.heap.size]? = some o ∧ (((w.alloc o).alloc p).alloc q).heap[w.heap.size + 1]? = some p ∧ (((w.alloc o).alloc p).alloc q).heap[w.heap.size + 1 + 1]? = some q := by
  refine ⟨alloc_block (two_new w o p).1, alloc_block (two_new w o p).2, ?_⟩
  have := alloc_new ((w.alloc o).alloc p) q
  rwa [show ((w.alloc o).alloc p).heap.size = w.heap.size + 1 + 1 by simp] at this
/-- An operation with its own fields alone. -/
def ownO (o : OpX) : OpX :=
  if o.code = 1 ∨ o.code = 2 then ⟨o.code, o.acc, o.ass, o.qty, 0, 0, [], []⟩
  else if o.code = 3 ∨ o.code = 4 then ⟨o.code, o.acc, o.ass, o.qty, o.name, 0, [], []⟩
  else if o.code = 5 then ⟨o.code, 0, 0, 0, 0, o.id, o.legs, []⟩
  else if o.code = 6 ∨ o.code = 7 then ⟨o.code, 0, 0, 0, 0, o.id, [], []⟩
  else if o.code = 8 then ⟨o.code, 0, 0, 0, 0, 0, [], o.pairs⟩
  else ⟨o.code, 0, 0, 0, 0, 0, [], []⟩
theorem ownO_1 {o : OpX} (h : o.code = 1) : ownO o = ⟨o.code, o.acc, o.ass, o.qty, 0, 0, [], []⟩ := by unfold ownO; simp [h]
theorem ownO_2 {o : OpX} (h : o.code = 2) : ownO o = ⟨o.code, o.acc, o.ass, o.qty, 0, 0, [], []⟩ := by unfold ownO; simp [h]
theorem ownO_3 {o : OpX} (h : o.code = 3) : ownO o = ⟨o.code, o.acc, o.ass, o.qty, o.name, 0, [], []⟩ := by unfold ownO; simp [h]
theorem ownO_4 {o : OpX} (h : o.code = 4) : ownO o = ⟨o.code, o.acc, o.ass, o.qty, o.name, 0, [], []⟩ := by unfold ownO; simp [h]
theorem ownO_5 {o : OpX} (h : o.code = 5) : ownO o = ⟨o.code, 0, 0, 0, 0, o.id, o.legs, []⟩ := by unfold ownO; simp [h]
theorem ownO_6 {o : OpX} (h : o.code = 6) : ownO o = ⟨o.code, 0, 0, 0, 0, o.id, [], []⟩ := by unfold ownO; simp [h]
theorem ownO_7 {o : OpX} (h : o.code = 7) : ownO o = ⟨o.code, 0, 0, 0, 0, o.id, [], []⟩ := by unfold ownO; simp [h]
theorem ownO_8 {o : OpX} (h : o.code = 8) : ownO o = ⟨o.code, 0, 0, 0, 0, 0, [], o.pairs⟩ := by unfold ownO; simp [h]
theorem ownO_0 {o : OpX} (h : ¬ (1 ≤ o.code ∧ o.code ≤ 8)) : ownO o = ⟨o.code, 0, 0, 0, 0, 0, [], []⟩ := by
  unfold ownO
  rw [if_neg (by omega), if_neg (by omega), if_neg (by omega), if_neg (by omega), if_neg (by omega)]
theorem chk_own (A S : Int) (o : OpX) : chk A S (ownO o) = chk A S o := by
  by_cases hc : 1 ≤ o.code ∧ o.code ≤ 8
  · obtain e | e | e | e | e | e | e | e : o.code = 1 ∨ o.code = 2 ∨ o.code = 3 ∨ o.code = 4 ∨ o.code = 5 ∨ o.code = 6 ∨ o.code = 7 ∨ o.code = 8 := by omega
    · rw [ownO_1 e, chk_1 e]; exact chk_1 e
    · rw [ownO_2 e, chk_2 e]; exact chk_2 e
    · rw [ownO_3 e, chk_3 e]; exact chk_3 e
    · rw [ownO_4 e, chk_4 e]; exact chk_4 e
    · rw [ownO_5 e, chk_5 e]; exact chk_5 e
    · rw [ownO_6 e, chk_6 e]; exact chk_6 e
    · rw [ownO_7 e, chk_7 e]; exact chk_7 e
    · rw [ownO_8 e, chk_8 e]; exact chk_8 e
  · rw [ownO_0 hc, chk_0 hc]; exact chk_0 hc
set_option maxRecDepth 100000 in
set_option maxHeartbeats 4000000 in
theorem works_any (w : World) (hE : ErrType w) :
    Calls Tryd.prog 4 #[] w fun e w' => e = .returned (.bool true) ∧ Below w.heap.size w w' := by
  have HE := hide hE
  clear hE
  have B0 := hide ((Below.refl w.heap.size w).alloc (Nat.le_refl _) (.cells #[.int .i64 1, .int .i64 0, .int .i64 1, .int .i64 5] 2))
  have N0 := alloc_new w (.cells #[.int .i64 1, .int .i64 0, .int .i64 1, .int .i64 5] 2)
  have HD := hide (decode_any (.slice (some ⟨w.heap.size, 0, none⟩) 4 4) [1, 0, 1, 5] (w.alloc (.cells #[.int .i64 1, .int .i64 0, .int .i64 1, .int .i64 5] 2)) ⟨w.heap.size, _, _, rfl, Nat.le_refl _, .inr ⟨0, rfl, by simp, fun j c hj => by
    rw [cell_of_row _ _ _ _ _ _ N0]
    match j, hj with
    | 0, hj => cases hj; rfl
    | 1, hj => cases hj; rfl
    | 2, hj => cases hj; rfl
    | 3, hj => cases hj; rfl⟩⟩ (by decide))
  have hO : dcO [1, 0, 1, 5] = ⟨1, 0, 1, 5, 0, 0, [], []⟩ := by rfl
  have hEr : dcE [1, 0, 1, 5] = 0 := by rfl
  unfold DcP at HD
  rw [hO, hEr, errV_zero] at HD
  clear N0 hO hEr
  go_enter Tryd.func4, Tryd.ntmps4
  go_wp2_with fail
  refine HD.out.mono ?_
  rintro e w1 ⟨lv, pv, rfl, hL, hP, hb⟩
  obtain ⟨la, lc, rfl⟩ := LG.rm_lt hL.rm
  obtain ⟨pa, pc, rfl⟩ := KY.rm_lt hP.rm
  unfold opV
  have HB1 := hide (B0.out.trans (hb.mono B0.out.size))
  have HC1 := hide (fun (A S : Int) (W : World) (hb : Below w1.heap.size w1 W) => check_any A S 0 0 0 ⟨1, 0, 1, 5, 0, 0, [], []⟩ (.slice la 0 lc) (.slice pa 0 pc) W (hL.rm.later hb) (hP.rm.later hb) (by decide) (by decide))
  have HB2 := hide (HB1.out.alloc HB1.out.size (.cells #[.int .i64 1, .int .i64 0, .int .i64 1, .int .i64 5, .int .i64 0, .int .i64 0, .slice la 0 lc, .slice pa 0 pc] 32))
  have b2 := (Below.refl w1.heap.size w1).alloc (Nat.le_refl _) (.cells #[.int .i64 1, .int .i64 0, .int .i64 1, .int .i64 5, .int .i64 0, .int .i64 0, .slice la 0 lc, .slice pa 0 pc] 32)
  have Z2 := hide (alloc_new w1 (.cells #[.int .i64 1, .int .i64 0, .int .i64 1, .int .i64 5, .int .i64 0, .int .i64 0, .slice la 0 lc, .slice pa 0 pc] 32))
  have H1 := hide (HC1.out 1 2 _ b2)
  have H2 := hide (fun (W : World) (hb : Below w1.heap.size w1 W) => HC1.out 1 1 W hb)
  rw [show chk 1 2 ⟨1, 0, 1, 5, 0, 0, [], []⟩ = 0 by rfl, errV_zero] at H1
  rw [show chk 1 1 ⟨1, 0, 1, 5, 0, 0, [], []⟩ = 15 by rfl] at H2
  unfold opV at H1 H2
  have HPL := hide (fun (W : World) (hE : ErrType W) => plain_errV 15 15 W (by omega) (by omega) hE)
  generalize errV 15 = ev at *
  obtain ⟨y0, y1, y2, y3, y4, y5, y6, y7⟩ := eight_cells Z2.out rfl
  have HB2' := hide b2
  clear hL hP hb HC1 HD b2
  go_wp2_with fail
  refine H1.out.mono ?_
  rintro e w3 ⟨rfl, hb⟩
  have HB3 := hide (HB2.out.trans (hb.mono HB2.out.size))
  have b3 := hide (HB2'.out.trans (hb.mono HB2'.out.size))
  have Z3 := hide (blk_later Z2.out hb)
  clear hb y0 y1 y2 y3 y4 y5 y6 y7
  obtain ⟨y0, y1, y2, y3, y4, y5, y6, y7⟩ := eight_cells Z3.out rfl
  go_wp2_with fail
  refine (H2.out _ b3.out).mono ?_
  rintro e w4 ⟨rfl, hb⟩
  have HB4 := hide (HB3.out.trans (hb.mono HB3.out.size))
  clear hb y0 y1 y2 y3 y4 y5 y6 y7
  go_wp2_with fail
  refine (HPL.out _ (HE.out.below HB4.out)).mono ?_
  rintro e w5 ⟨rfl, hb⟩
  have HB5 := hide (HB4.out.trans (hb.mono HB4.out.size))
  clear hb
  go_wp2_with fail
  go_ret
  exact ⟨rfl, HB5.out⟩
end Go.Proofs.YtejdchknpfodeabDoor
