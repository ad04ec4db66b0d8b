/-
  My own text: shown() of BalanceKnown (printed by mkbn5.py).
-/
import Derived.Test.YtmebomifakmkbaaDoorBN5
namespace Go.Proofs.YtmebomifakmkbaaDoor
open Go.RowKit

set_option maxRecDepth 100000 in
set_option maxHeartbeats 8000000 in
theorem shown_any (w : World) (hE : ErrType w) :
    Calls Tryd.prog 26 #[] w fun e w' => e = .returned (.bool true) ∧ Below w.heap.size w w' := by
  have HE := hide hE
  obtain ⟨F, hf1, hf2⟩ := um_f
  obtain ⟨G, hg1, hg2⟩ := um_g
  obtain ⟨H, hh1, hh2⟩ := cr_h
  obtain ⟨X, hx1, hx2⟩ := ck_w
  obtain ⟨Y, hy1, hy2⟩ := ck_b
  have HF1 := hide hf1
  have HF2 := hide hf2
  have HG1 := hide hg1
  have HG2 := hide hg2
  have HH1 := hide hh1
  have HH2 := hide hh2
  have HX1 := hide hx1
  have HX2 := hide hx2
  have HY1 := hide hy1
  have HY2 := hide hy2
  have B := hide (Below.refl w.heap.size w)
  clear hE hf1 hf2 hg1 hg2 hh1 hh2 hx1 hx2 hy1 hy2
  go_enter Tryd.func26, Tryd.ntmps26
  go_wp2_with fail
  refine (mk_a _).mono ?_
  rintro e w1 ⟨aA, cA, rfl, hr, hb⟩
  have B' := hide (B.out.trans ((hb).mono B.out.size))
  clear B
  have B := B'
  clear B'
  have bA : Below w1.heap.size w1 (w1.alloc (.cells #[.int .i64 2, .slice aA 1 cA] 24)) := (Below.refl _ _).alloc (Nat.le_refl _) _
  have RA := hide hr
  have B' := hide (B.out.trans ((bA).mono B.out.size))
  have RA' := hide (RM.later RA.out (bA))
  clear B RA
  have B := B'
  have RA := RA'
  clear B' RA'
  have PA := hide (alloc_new w1 (.cells #[.int .i64 2, .slice aA 1 cA] 24))
  clear hr hb bA
  obtain ⟨cPA0, cPA1⟩ := pair_cells PA.out rfl
  go_wp2_with fail
  clear cPA0 cPA1
  refine (seven_any 2 _).mono ?_
  rintro e w2 ⟨c7, rfl, hr, hb⟩
  have B' := hide (B.out.trans ((hb).mono B.out.size))
  have RA' := hide (RM.later RA.out (hb))
  have PA' := hide (blk_later PA.out (hb))
  clear B RA PA
  have B := B'
  have RA := RA'
  have PA := PA'
  clear B' RA' PA'
  have R7 := hide hr
  clear hr hb
  obtain ⟨cPA0, cPA1⟩ := pair_cells PA.out rfl
  go_wp2_with fail
  clear cPA0 cPA1
  refine (mk_b _ _ R7.out).mono ?_
  rintro e w3 ⟨aB1, cB1, rfl, hr, hb⟩
  have B' := hide (B.out.trans ((hb).mono B.out.size))
  have RA' := hide (RM.later RA.out (hb))
  have PA' := hide (blk_later PA.out (hb))
  have R7' := hide (RM.later R7.out (hb))
  clear B RA PA R7
  have B := B'
  have RA := RA'
  have PA := PA'
  have R7 := R7'
  clear B' RA' PA' R7'
  have bA : Below w3.heap.size w3 (w3.alloc (.cells #[.int .i64 1, .slice aB1 2 cB1] 24)) := (Below.refl _ _).alloc (Nat.le_refl _) _
  have RB1 := hide hr
  have B' := hide (B.out.trans ((bA).mono B.out.size))
  have RA' := hide (RM.later RA.out (bA))
  have PA' := hide (blk_later PA.out (bA))
  have R7' := hide (RM.later R7.out (bA))
  have RB1' := hide (RM.later RB1.out (bA))
  clear B RA PA R7 RB1
  have B := B'
  have RA := RA'
  have PA := PA'
  have R7 := R7'
  have RB1 := RB1'
  clear B' RA' PA' R7' RB1'
  have PB1 := hide (alloc_new w3 (.cells #[.int .i64 1, .slice aB1 2 cB1] 24))
  clear hr hb bA
  obtain ⟨cPA0, cPA1⟩ := pair_cells PA.out rfl
  obtain ⟨cPB10, cPB11⟩ := pair_cells PB1.out rfl
  go_wp2_with fail
  clear cPA0 cPA1 cPB10 cPB11
  clear R7
  refine (seven_any 2 _).mono ?_
  rintro e w4 ⟨c7, rfl, hr, hb⟩
  have B' := hide (B.out.trans ((hb).mono B.out.size))
  have RA' := hide (RM.later RA.out (hb))
  have PA' := hide (blk_later PA.out (hb))
  have RB1' := hide (RM.later RB1.out (hb))
  have PB1' := hide (blk_later PB1.out (hb))
  clear B RA PA RB1 PB1
  have B := B'
  have RA := RA'
  have PA := PA'
  have RB1 := RB1'
  have PB1 := PB1'
  clear B' RA' PA' RB1' PB1'
  have R7 := hide hr
  clear hr hb
  obtain ⟨cPA0, cPA1⟩ := pair_cells PA.out rfl
  obtain ⟨cPB10, cPB11⟩ := pair_cells PB1.out rfl
  go_wp2_with fail
  clear cPA0 cPA1 cPB10 cPB11
  refine (db_c _ _ R7.out).mono ?_
  rintro e w5 ⟨aC, cC, rfl, hr, hb⟩
  have B' := hide (B.out.trans ((hb).mono B.out.size))
  have RA' := hide (RM.later RA.out (hb))
  have PA' := hide (blk_later PA.out (hb))
  have RB1' := hide (RM.later RB1.out (hb))
  have PB1' := hide (blk_later PB1.out (hb))
  have R7' := hide (RM.later R7.out (hb))
  clear B RA PA RB1 PB1 R7
  have B := B'
  have RA := RA'
  have PA := PA'
  have RB1 := RB1'
  have PB1 := PB1'
  have R7 := R7'
  clear B' RA' PA' RB1' PB1' R7'
  have bA : Below w5.heap.size w5 (w5.alloc (.cells #[.int .i64 1, .slice aC 0 cC] 24)) := (Below.refl _ _).alloc (Nat.le_refl _) _
  have RC := hide hr
  have B' := hide (B.out.trans ((bA).mono B.out.size))
  have RA' := hide (RM.later RA.out (bA))
  have PA' := hide (blk_later PA.out (bA))
  have RB1' := hide (RM.later RB1.out (bA))
  have PB1' := hide (blk_later PB1.out (bA))
  have R7' := hide (RM.later R7.out (bA))
  have RC' := hide (RM.later RC.out (bA))
  clear B RA PA RB1 PB1 R7 RC
  have B := B'
  have RA := RA'
  have PA := PA'
  have RB1 := RB1'
  have PB1 := PB1'
  have R7 := R7'
  have RC := RC'
  clear B' RA' PA' RB1' PB1' R7' RC'
  have PC := hide (alloc_new w5 (.cells #[.int .i64 1, .slice aC 0 cC] 24))
  clear hr hb bA
  obtain ⟨cPA0, cPA1⟩ := pair_cells PA.out rfl
  obtain ⟨cPB10, cPB11⟩ := pair_cells PB1.out rfl
  obtain ⟨cPC0, cPC1⟩ := pair_cells PC.out rfl
  go_wp2_with fail
  clear cPA0 cPA1 cPB10 cPB11 cPC0 cPC1
  clear R7
  refine (seven_any 2 _).mono ?_
  rintro e w6 ⟨c7, rfl, hr, hb⟩
  have B' := hide (B.out.trans ((hb).mono B.out.size))
  have RA' := hide (RM.later RA.out (hb))
  have PA' := hide (blk_later PA.out (hb))
  have RB1' := hide (RM.later RB1.out (hb))
  have PB1' := hide (blk_later PB1.out (hb))
  have RC' := hide (RM.later RC.out (hb))
  have PC' := hide (blk_later PC.out (hb))
  clear B RA PA RB1 PB1 RC PC
  have B := B'
  have RA := RA'
  have PA := PA'
  have RB1 := RB1'
  have PB1 := PB1'
  have RC := RC'
  have PC := PC'
  clear B' RA' PA' RB1' PB1' RC' PC'
  have R7 := hide hr
  clear hr hb
  obtain ⟨cPA0, cPA1⟩ := pair_cells PA.out rfl
  obtain ⟨cPB10, cPB11⟩ := pair_cells PB1.out rfl
  obtain ⟨cPC0, cPC1⟩ := pair_cells PC.out rfl
  go_wp2_with fail
  clear cPA0 cPA1 cPB10 cPB11 cPC0 cPC1
  refine (db_d _ _ R7.out).mono ?_
  rintro e w7 ⟨aD, cD, rfl, hr, hb⟩
  have B' := hide (B.out.trans ((hb).mono B.out.size))
  have RA' := hide (RM.later RA.out (hb))
  have PA' := hide (blk_later PA.out (hb))
  have RB1' := hide (RM.later RB1.out (hb))
  have PB1' := hide (blk_later PB1.out (hb))
  have RC' := hide (RM.later RC.out (hb))
  have PC' := hide (blk_later PC.out (hb))
  have R7' := hide (RM.later R7.out (hb))
  clear B RA PA RB1 PB1 RC PC R7
  have B := B'
  have RA := RA'
  have PA := PA'
  have RB1 := RB1'
  have PB1 := PB1'
  have RC := RC'
  have PC := PC'
  have R7 := R7'
  clear B' RA' PA' RB1' PB1' RC' PC' R7'
  have bA : Below w7.heap.size w7 (w7.alloc (.cells #[.int .i64 0, .slice aD 1 cD] 24)) := (Below.refl _ _).alloc (Nat.le_refl _) _
  have RD := hide hr
  have B' := hide (B.out.trans ((bA).mono B.out.size))
  have RA' := hide (RM.later RA.out (bA))
  have PA' := hide (blk_later PA.out (bA))
  have RB1' := hide (RM.later RB1.out (bA))
  have PB1' := hide (blk_later PB1.out (bA))
  have RC' := hide (RM.later RC.out (bA))
  have PC' := hide (blk_later PC.out (bA))
  have R7' := hide (RM.later R7.out (bA))
  have RD' := hide (RM.later RD.out (bA))
  clear B RA PA RB1 PB1 RC PC R7 RD
  have B := B'
  have RA := RA'
  have PA := PA'
  have RB1 := RB1'
  have PB1 := PB1'
  have RC := RC'
  have PC := PC'
  have R7 := R7'
  have RD := RD'
  clear B' RA' PA' RB1' PB1' RC' PC' R7' RD'
  have PD := hide (alloc_new w7 (.cells #[.int .i64 0, .slice aD 1 cD] 24))
  clear hr hb bA
  clear R7
  obtain ⟨cPA0, cPA1⟩ := pair_cells PA.out rfl
  obtain ⟨cPB10, cPB11⟩ := pair_cells PB1.out rfl
  obtain ⟨cPC0, cPC1⟩ := pair_cells PC.out rfl
  obtain ⟨cPD0, cPD1⟩ := pair_cells PD.out rfl
  go_wp2_with fail
  clear cPA0 cPA1 cPB10 cPB11 cPC0 cPC1 cPD0 cPD1
  have bL : Below (w7.alloc (.cells #[.int .i64 0, .slice aD 1 cD] 24)).heap.size (w7.alloc (.cells #[.int .i64 0, .slice aD 1 cD] 24)) ((w7.alloc (.cells #[.int .i64 0, .slice aD 1 cD] 24)).alloc (.cells #[.int .i64 7, .int .i64 3] 2)) := (Below.refl _ _).alloc (Nat.le_refl _) _
  have hN := alloc_new (w7.alloc (.cells #[.int .i64 0, .slice aD 1 cD] 24)) (.cells #[.int .i64 7, .int .i64 3] 2)
  rw [show (w7.alloc (.cells #[.int .i64 0, .slice aD 1 cD] 24)).heap.size = w7.heap.size + 1 by simp] at hN
  refine (is_1 2 7 3 aA cA (w7.heap.size + 1) _ (RA.out.later bL) hN).mono ?_
  rintro e w8 ⟨rfl, hb⟩
  have B' := hide (B.out.trans ((bL).mono B.out.size))
  have RA' := hide (RM.later RA.out (bL))
  have PA' := hide (blk_later PA.out (bL))
  have RB1' := hide (RM.later RB1.out (bL))
  have PB1' := hide (blk_later PB1.out (bL))
  have RC' := hide (RM.later RC.out (bL))
  have PC' := hide (blk_later PC.out (bL))
  have RD' := hide (RM.later RD.out (bL))
  have PD' := hide (blk_later PD.out (bL))
  clear B RA PA RB1 PB1 RC PC RD PD
  have B := B'
  have RA := RA'
  have PA := PA'
  have RB1 := RB1'
  have PB1 := PB1'
  have RC := RC'
  have PC := PC'
  have RD := RD'
  have PD := PD'
  clear B' RA' PA' RB1' PB1' RC' PC' RD' PD'
  have B' := hide (B.out.trans ((hb).mono B.out.size))
  have RA' := hide (RM.later RA.out (hb))
  have PA' := hide (blk_later PA.out (hb))
  have RB1' := hide (RM.later RB1.out (hb))
  have PB1' := hide (blk_later PB1.out (hb))
  have RC' := hide (RM.later RC.out (hb))
  have PC' := hide (blk_later PC.out (hb))
  have RD' := hide (RM.later RD.out (hb))
  have PD' := hide (blk_later PD.out (hb))
  clear B RA PA RB1 PB1 RC PC RD PD
  have B := B'
  have RA := RA'
  have PA := PA'
  have RB1 := RB1'
  have PB1 := PB1'
  have RC := RC'
  have PC := PC'
  have RD := RD'
  have PD := PD'
  clear B' RA' PA' RB1' PB1' RC' PC' RD' PD'
  clear hb bL hN
  obtain ⟨cPA0, cPA1⟩ := pair_cells PA.out rfl
  obtain ⟨cPB10, cPB11⟩ := pair_cells PB1.out rfl
  obtain ⟨cPC0, cPC1⟩ := pair_cells PC.out rfl
  obtain ⟨cPD0, cPD1⟩ := pair_cells PD.out rfl
  go_wp2_with fail
  clear cPA0 cPA1 cPB10 cPB11 cPC0 cPC1 cPD0 cPD1
  have bL : Below (w8).heap.size (w8) ((w8).alloc (.cells #[.int .i64 4, .int .i64 1, .int .i64 7, .int .i64 3] 2)) := (Below.refl _ _).alloc (Nat.le_refl _) _
  have hN := alloc_new (w8) (.cells #[.int .i64 4, .int .i64 1, .int .i64 7, .int .i64 3] 2)
  refine (is_2 1 4 1 7 3 aB1 cB1 w8.heap.size _ (RB1.out.later bL) hN).mono ?_
  rintro e w9 ⟨rfl, hb⟩
  have B' := hide (B.out.trans ((bL).mono B.out.size))
  have RA' := hide (RM.later RA.out (bL))
  have PA' := hide (blk_later PA.out (bL))
  have RB1' := hide (RM.later RB1.out (bL))
  have PB1' := hide (blk_later PB1.out (bL))
  have RC' := hide (RM.later RC.out (bL))
  have PC' := hide (blk_later PC.out (bL))
  have RD' := hide (RM.later RD.out (bL))
  have PD' := hide (blk_later PD.out (bL))
  clear B RA PA RB1 PB1 RC PC RD PD
  have B := B'
  have RA := RA'
  have PA := PA'
  have RB1 := RB1'
  have PB1 := PB1'
  have RC := RC'
  have PC := PC'
  have RD := RD'
  have PD := PD'
  clear B' RA' PA' RB1' PB1' RC' PC' RD' PD'
  have B' := hide (B.out.trans ((hb).mono B.out.size))
  have RA' := hide (RM.later RA.out (hb))
  have PA' := hide (blk_later PA.out (hb))
  have RB1' := hide (RM.later RB1.out (hb))
  have PB1' := hide (blk_later PB1.out (hb))
  have RC' := hide (RM.later RC.out (hb))
  have PC' := hide (blk_later PC.out (hb))
  have RD' := hide (RM.later RD.out (hb))
  have PD' := hide (blk_later PD.out (hb))
  clear B RA PA RB1 PB1 RC PC RD PD
  have B := B'
  have RA := RA'
  have PA := PA'
  have RB1 := RB1'
  have PB1 := PB1'
  have RC := RC'
  have PC := PC'
  have RD := RD'
  have PD := PD'
  clear B' RA' PA' RB1' PB1' RC' PC' RD' PD'
  clear hb bL hN
  obtain ⟨cPA0, cPA1⟩ := pair_cells PA.out rfl
  obtain ⟨cPB10, cPB11⟩ := pair_cells PB1.out rfl
  obtain ⟨cPC0, cPC1⟩ := pair_cells PC.out rfl
  obtain ⟨cPD0, cPD1⟩ := pair_cells PD.out rfl
  go_wp2_with fail
  clear cPA0 cPA1 cPB10 cPB11 cPC0 cPC1 cPD0 cPD1
  refine (is_0 1 _ _ _).mono ?_
  rintro e w10 ⟨rfl, hb⟩
  have B' := hide (B.out.trans ((hb).mono B.out.size))
  have RA' := hide (RM.later RA.out (hb))
  have PA' := hide (blk_later PA.out (hb))
  have RB1' := hide (RM.later RB1.out (hb))
  have PB1' := hide (blk_later PB1.out (hb))
  have RC' := hide (RM.later RC.out (hb))
  have PC' := hide (blk_later PC.out (hb))
  have RD' := hide (RM.later RD.out (hb))
  have PD' := hide (blk_later PD.out (hb))
  clear B RA PA RB1 PB1 RC PC RD PD
  have B := B'
  have RA := RA'
  have PA := PA'
  have RB1 := RB1'
  have PB1 := PB1'
  have RC := RC'
  have PC := PC'
  have RD := RD'
  have PD := PD'
  clear B' RA' PA' RB1' PB1' RC' PC' RD' PD'
  clear hb
  obtain ⟨cPA0, cPA1⟩ := pair_cells PA.out rfl
  obtain ⟨cPB10, cPB11⟩ := pair_cells PB1.out rfl
  obtain ⟨cPC0, cPC1⟩ := pair_cells PC.out rfl
  obtain ⟨cPD0, cPD1⟩ := pair_cells PD.out rfl
  go_wp2_with fail
  clear cPA0 cPA1 cPB10 cPB11 cPC0 cPC1 cPD0 cPD1
  have bL : Below (w10).heap.size (w10) ((w10).alloc (.cells #[.int .i64 7, .int .i64 3] 2)) := (Below.refl _ _).alloc (Nat.le_refl _) _
  have hN := alloc_new (w10) (.cells #[.int .i64 7, .int .i64 3] 2)
  refine (is_1 0 7 3 aD cD w10.heap.size _ (RD.out.later bL) hN).mono ?_
  rintro e w11 ⟨rfl, hb⟩
  have B' := hide (B.out.trans ((bL).mono B.out.size))
  have RA' := hide (RM.later RA.out (bL))
  have PA' := hide (blk_later PA.out (bL))
  have RB1' := hide (RM.later RB1.out (bL))
  have PB1' := hide (blk_later PB1.out (bL))
  have RC' := hide (RM.later RC.out (bL))
  have PC' := hide (blk_later PC.out (bL))
  have RD' := hide (RM.later RD.out (bL))
  have PD' := hide (blk_later PD.out (bL))
  clear B RA PA RB1 PB1 RC PC RD PD
  have B := B'
  have RA := RA'
  have PA := PA'
  have RB1 := RB1'
  have PB1 := PB1'
  have RC := RC'
  have PC := PC'
  have RD := RD'
  have PD := PD'
  clear B' RA' PA' RB1' PB1' RC' PC' RD' PD'
  have B' := hide (B.out.trans ((hb).mono B.out.size))
  have RA' := hide (RM.later RA.out (hb))
  have PA' := hide (blk_later PA.out (hb))
  have RB1' := hide (RM.later RB1.out (hb))
  have PB1' := hide (blk_later PB1.out (hb))
  have RC' := hide (RM.later RC.out (hb))
  have PC' := hide (blk_later PC.out (hb))
  have RD' := hide (RM.later RD.out (hb))
  have PD' := hide (blk_later PD.out (hb))
  clear B RA PA RB1 PB1 RC PC RD PD
  have B := B'
  have RA := RA'
  have PA := PA'
  have RB1 := RB1'
  have PB1 := PB1'
  have RC := RC'
  have PC := PC'
  have RD := RD'
  have PD := PD'
  clear B' RA' PA' RB1' PB1' RC' PC' RD' PD'
  clear hb bL hN
  clear RA
  clear PA
  clear RB1
  clear PB1
  clear RC
  clear PC
  clear RD
  clear PD
  go_wp2_with fail
  refine (seven_any 2 _).mono ?_
  rintro e w12 ⟨c7, rfl, hr, hb⟩
  have B' := hide (B.out.trans ((hb).mono B.out.size))
  clear B
  have B := B'
  clear B'
  have R7 := hide hr
  clear hr hb
  go_wp2_with fail
  refine (um_u _ _ R7.out).mono ?_
  rintro e w13 ⟨aU, cU, rfl, hr, hb⟩
  have B' := hide (B.out.trans ((hb).mono B.out.size))
  have R7' := hide (RM.later R7.out (hb))
  clear B R7
  have B := B'
  have R7 := R7'
  clear B' R7'
  have bA : Below w13.heap.size w13 (w13.alloc (.cells #[.int .i64 5, .slice aU 0 cU] 24)) := (Below.refl _ _).alloc (Nat.le_refl _) _
  have RU := hide hr
  have B' := hide (B.out.trans ((bA).mono B.out.size))
  have R7' := hide (RM.later R7.out (bA))
  have RU' := hide (RM.later RU.out (bA))
  clear B R7 RU
  have B := B'
  have R7 := R7'
  have RU := RU'
  clear B' R7' RU'
  have PU := hide (alloc_new w13 (.cells #[.int .i64 5, .slice aU 0 cU] 24))
  clear hr hb bA
  obtain ⟨cPU0, cPU1⟩ := pair_cells PU.out rfl
  go_wp2_with fail
  clear cPU0 cPU1
  clear R7
  refine (seven_any 2 _).mono ?_
  rintro e w14 ⟨c7, rfl, hr, hb⟩
  have B' := hide (B.out.trans ((hb).mono B.out.size))
  have RU' := hide (RM.later RU.out (hb))
  have PU' := hide (blk_later PU.out (hb))
  clear B RU PU
  have B := B'
  have RU := RU'
  have PU := PU'
  clear B' RU' PU'
  have R7 := hide hr
  clear hr hb
  obtain ⟨cPU0, cPU1⟩ := pair_cells PU.out rfl
  go_wp2_with fail
  clear cPU0 cPU1
  refine (HF1.out _ _ R7.out).mono ?_
  rintro e w15 ⟨rfl, hb⟩
  have B' := hide (B.out.trans ((hb).mono B.out.size))
  have RU' := hide (RM.later RU.out (hb))
  have PU' := hide (blk_later PU.out (hb))
  have R7' := hide (RM.later R7.out (hb))
  clear B RU PU R7
  have B := B'
  have RU := RU'
  have PU := PU'
  have R7 := R7'
  clear B' RU' PU' R7'
  clear hb
  obtain ⟨cPU0, cPU1⟩ := pair_cells PU.out rfl
  go_wp2_with fail
  clear cPU0 cPU1
  clear R7
  refine (seven_any 2 _).mono ?_
  rintro e w16 ⟨c7, rfl, hr, hb⟩
  have B' := hide (B.out.trans ((hb).mono B.out.size))
  have RU' := hide (RM.later RU.out (hb))
  have PU' := hide (blk_later PU.out (hb))
  clear B RU PU
  have B := B'
  have RU := RU'
  have PU := PU'
  clear B' RU' PU'
  have R7 := hide hr
  clear hr hb
  obtain ⟨cPU0, cPU1⟩ := pair_cells PU.out rfl
  go_wp2_with fail
  clear cPU0 cPU1
  refine (HG1.out _ _ R7.out).mono ?_
  rintro e w17 ⟨rfl, hb⟩
  have B' := hide (B.out.trans ((hb).mono B.out.size))
  have RU' := hide (RM.later RU.out (hb))
  have PU' := hide (blk_later PU.out (hb))
  have R7' := hide (RM.later R7.out (hb))
  clear B RU PU R7
  have B := B'
  have RU := RU'
  have PU := PU'
  have R7 := R7'
  clear B' RU' PU' R7'
  clear hb
  obtain ⟨cPU0, cPU1⟩ := pair_cells PU.out rfl
  go_wp2_with fail
  clear cPU0 cPU1
  clear R7
  refine (seven_any 9223372036854775804 _).mono ?_
  rintro e w18 ⟨c7, rfl, hr, hb⟩
  have B' := hide (B.out.trans ((hb).mono B.out.size))
  have RU' := hide (RM.later RU.out (hb))
  have PU' := hide (blk_later PU.out (hb))
  clear B RU PU
  have B := B'
  have RU := RU'
  have PU := PU'
  clear B' RU' PU'
  have R7 := hide hr
  clear hr hb
  obtain ⟨cPU0, cPU1⟩ := pair_cells PU.out rfl
  go_wp2_with fail
  clear cPU0 cPU1
  refine (HH1.out _ _ R7.out).mono ?_
  rintro e w19 ⟨rfl, hb⟩
  have B' := hide (B.out.trans ((hb).mono B.out.size))
  have RU' := hide (RM.later RU.out (hb))
  have PU' := hide (blk_later PU.out (hb))
  have R7' := hide (RM.later R7.out (hb))
  clear B RU PU R7
  have B := B'
  have RU := RU'
  have PU := PU'
  have R7 := R7'
  clear B' RU' PU' R7'
  clear hb
  clear R7
  obtain ⟨cPU0, cPU1⟩ := pair_cells PU.out rfl
  go_wp2_with fail
  clear cPU0 cPU1
  refine (is_0 5 _ _ _).mono ?_
  rintro e w20 ⟨rfl, hb⟩
  have B' := hide (B.out.trans ((hb).mono B.out.size))
  have RU' := hide (RM.later RU.out (hb))
  have PU' := hide (blk_later PU.out (hb))
  clear B RU PU
  have B := B'
  have RU := RU'
  have PU := PU'
  clear B' RU' PU'
  clear hb
  obtain ⟨cPU0, cPU1⟩ := pair_cells PU.out rfl
  go_wp2_with fail
  clear cPU0 cPU1
  refine (HF2.out _ (HE.out.below B.out)).mono ?_
  rintro e w21 ⟨rfl, hb⟩
  have B' := hide (B.out.trans ((hb).mono B.out.size))
  have RU' := hide (RM.later RU.out (hb))
  have PU' := hide (blk_later PU.out (hb))
  clear B RU PU
  have B := B'
  have RU := RU'
  have PU := PU'
  clear B' RU' PU'
  clear hb
  obtain ⟨cPU0, cPU1⟩ := pair_cells PU.out rfl
  go_wp2_with fail
  clear cPU0 cPU1
  refine (HG2.out _ (HE.out.below B.out)).mono ?_
  rintro e w22 ⟨rfl, hb⟩
  have B' := hide (B.out.trans ((hb).mono B.out.size))
  have RU' := hide (RM.later RU.out (hb))
  have PU' := hide (blk_later PU.out (hb))
  clear B RU PU
  have B := B'
  have RU := RU'
  have PU := PU'
  clear B' RU' PU'
  clear hb
  obtain ⟨cPU0, cPU1⟩ := pair_cells PU.out rfl
  go_wp2_with fail
  clear cPU0 cPU1
  refine (HH2.out _ (HE.out.below B.out)).mono ?_
  rintro e w23 ⟨rfl, hb⟩
  have B' := hide (B.out.trans ((hb).mono B.out.size))
  have RU' := hide (RM.later RU.out (hb))
  have PU' := hide (blk_later PU.out (hb))
  clear B RU PU
  have B := B'
  have RU := RU'
  have PU := PU'
  clear B' RU' PU'
  clear hb
  clear RU
  clear PU
  go_wp2_with fail
  have bL : Below w23.heap.size w23 (w23.alloc (.cells #[.int .i64 7, .int .i64 1, .int .i64 7, .int .i64 1] 36)) := (Below.refl _ _).alloc (Nat.le_refl _) _
  have hl : RM (w23.alloc (.cells #[.int .i64 7, .int .i64 1, .int .i64 7, .int .i64 1] 36)) (.slice (some ⟨w23.heap.size, 0, none⟩) 2 2) [(7, 1), (7, 1)] := OM.rm (om_lit w23 [(7, 1), (7, 1)] #[.int .i64 7, .int .i64 1, .int .i64 7, .int .i64 1] rfl (by decide))
  refine (HX1.out _ _ hl).mono ?_
  rintro e w24 ⟨rfl, hb⟩
  have B' := hide (B.out.trans ((bL).mono B.out.size))
  clear B
  have B := B'
  clear B'
  have B' := hide (B.out.trans ((hb).mono B.out.size))
  clear B
  have B := B'
  clear B'
  clear hb bL hl
  go_wp2_with fail
  have bL : Below w24.heap.size w24 (w24.alloc (.cells #[.int .i64 0, .int .i64 0] 36)) := (Below.refl _ _).alloc (Nat.le_refl _) _
  have hl : RM (w24.alloc (.cells #[.int .i64 0, .int .i64 0] 36)) (.slice (some ⟨w24.heap.size, 0, none⟩) 1 1) [(0, 0)] := OM.rm (om_lit w24 [(0, 0)] #[.int .i64 0, .int .i64 0] rfl (by decide))
  refine (HY1.out _ _ hl).mono ?_
  rintro e w25 ⟨rfl, hb⟩
  have B' := hide (B.out.trans ((bL).mono B.out.size))
  clear B
  have B := B'
  clear B'
  have B' := hide (B.out.trans ((hb).mono B.out.size))
  clear B
  have B := B'
  clear B'
  clear hb bL hl
  go_wp2_with fail
  refine (HX2.out _ (HE.out.below B.out)).mono ?_
  rintro e w26 ⟨rfl, hb⟩
  have B' := hide (B.out.trans ((hb).mono B.out.size))
  clear B
  have B := B'
  clear B'
  clear hb
  go_wp2_with fail
  refine (HY2.out _ (HE.out.below B.out)).mono ?_
  rintro e w27 ⟨rfl, hb⟩
  have B' := hide (B.out.trans ((hb).mono B.out.size))
  clear B
  have B := B'
  clear B'
  clear hb
  go_wp2_with fail
  refine (seven_any 2 _).mono ?_
  rintro e w28 ⟨c7, rfl, hr, hb⟩
  have B' := hide (B.out.trans ((hb).mono B.out.size))
  clear B
  have B := B'
  clear B'
  have R7 := hide hr
  clear hr hb
  go_wp2_with fail
  refine (cv_7 _ _ R7.out).mono ?_
  rintro e w29 ⟨rfl, hb⟩
  have B' := hide (B.out.trans ((hb).mono B.out.size))
  have R7' := hide (RM.later R7.out (hb))
  clear B R7
  have B := B'
  have R7 := R7'
  clear B' R7'
  clear hb
  go_wp2_with fail
  clear R7
  refine (seven_any 2 _).mono ?_
  rintro e w30 ⟨c7, rfl, hr, hb⟩
  have B' := hide (B.out.trans ((hb).mono B.out.size))
  clear B
  have B := B'
  clear B'
  have R7 := hide hr
  clear hr hb
  go_wp2_with fail
  refine (md_8 _ _ R7.out).mono ?_
  rintro e w31 ⟨rfl, hb⟩
  have B' := hide (B.out.trans ((hb).mono B.out.size))
  have R7' := hide (RM.later R7.out (hb))
  clear B R7
  have B := B'
  have R7 := R7'
  clear B' R7'
  clear hb
  clear R7
  go_wp2_with fail
  refine (works_any _ (HE.out.below B.out)).mono ?_
  rintro e w32 ⟨rfl, hb⟩
  have B' := hide (B.out.trans ((hb).mono B.out.size))
  clear B
  have B := B'
  clear B'
  clear hb
  go_wp2_with fail
  go_ret
  exact ⟨rfl, B.out⟩
end Go.Proofs.YtmebomifakmkbaaDoor
