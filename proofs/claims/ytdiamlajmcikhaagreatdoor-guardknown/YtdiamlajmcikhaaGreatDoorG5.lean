/-
  My own text: the program's Check and Fits (printed by mkg5.py).
-/
import Derived.Test.YtdiamlajmcikhaaGreatDoorG4
namespace Go.Proofs.YtdiamlajmcikhaaGreatDoor
open Go.RowKit

set_option maxRecDepth 100000 in
set_option maxHeartbeats 2000000 in
theorem check_via (A S q h k cd ac as_ qt nm id a0 a1 : Int) (lv pv X : Value) (c g2 g3 g : Nat) (w : World) (hcd : cd = (c : Int)) (h1 : 1 ≤ c) (h2 : c ≤ 8) (hV : fmV c = .agg #[.int .i64 a0, .int .i64 a1, .func (.func g2) #[] #[], .func (.func g3) #[] #[], .func (.func g) #[] #[]]) (eg : ∀ args W, (callFunc g args).run Tryz.prog W = .ok (.enter g args) W)
    (hK : ∀ W, Below w.heap.size w W → Calls Tryz.prog g #[.agg #[.int .i64 A, .int .i64 S, .int .i64 q, .int .i64 h, .int .i64 k], .agg #[.int .i64 cd, .int .i64 ac, .int .i64 as_, .int .i64 qt, .int .i64 nm, .int .i64 id, lv, pv]] W fun e w' => e = .returned X ∧ Below W.heap.size W w') :
    Calls Tryz.prog 11 #[.agg #[.int .i64 A, .int .i64 S, .int .i64 q, .int .i64 h, .int .i64 k], .agg #[.int .i64 cd, .int .i64 ac, .int .i64 as_, .int .i64 qt, .int .i64 nm, .int .i64 id, lv, pv]] w fun e w' => e = .returned X ∧ Below w.heap.size w w' := by
  have HF := hide (fun W : World => formOf_any c W h1 h2)
  rw [hV] at HF
  rw [← hcd] at HF
  clear hV hcd h1 h2
  have HK := hide hK
  clear hK
  have B0 := hide (two_below w (.cells #[.int .i64 A, .int .i64 S, .int .i64 q, .int .i64 h, .int .i64 k] 34) (.cells #[.int .i64 cd, .int .i64 ac, .int .i64 as_, .int .i64 qt, .int .i64 nm, .int .i64 id, lv, pv] 26))
  have X0 := hide (two_new w (.cells #[.int .i64 A, .int .i64 S, .int .i64 q, .int .i64 h, .int .i64 k] 34) (.cells #[.int .i64 cd, .int .i64 ac, .int .i64 as_, .int .i64 qt, .int .i64 nm, .int .i64 id, lv, pv] 26))
  obtain ⟨x0, x1, x2, x3, x4⟩ := five_cells X0.out.1 rfl
  obtain ⟨y0, y1, y2, y3, y4, y5, y6, y7⟩ := eight_cells X0.out.2 rfl
  go_enter Tryz.func11, Tryz.ntmps11
  go_wp2_with fail
  refine (HF.out _).mono ?_
  rintro e w1 ⟨rfl, hb⟩
  have HB := hide (B0.out.trans (hb.mono B0.out.size))
  have Z0 := hide (alloc_block (o := .cells #[.int .i64 a0, .int .i64 a1, .func (.func g2) #[] #[], .func (.func g3) #[] #[], .func (.func g) #[] #[]] 56) (blk_later X0.out.1 hb))
  have Z1 := hide (alloc_block (o := .cells #[.int .i64 a0, .int .i64 a1, .func (.func g2) #[] #[], .func (.func g3) #[] #[], .func (.func g) #[] #[]] 56) (blk_later X0.out.2 hb))
  have Z2 := hide (alloc_new w1 (.cells #[.int .i64 a0, .int .i64 a1, .func (.func g2) #[] #[], .func (.func g3) #[] #[], .func (.func g) #[] #[]] 56))
  have HB1 := hide (HB.out.alloc HB.out.size (.cells #[.int .i64 a0, .int .i64 a1, .func (.func g2) #[] #[], .func (.func g3) #[] #[], .func (.func g) #[] #[]] 56))
  have HR := hide (World.setRow_alloc_new w1 #[.int .i64 0, .int .i64 0, .nilFunc, .nilFunc, .nilFunc] #[.int .i64 a0, .int .i64 a1, .func (.func g2) #[] #[], .func (.func g3) #[] #[], .func (.func g) #[] #[]] 56)
  have Z9 := hide (alloc_new w1 (.cells #[.int .i64 0, .int .i64 0, .nilFunc, .nilFunc, .nilFunc] 56))
  clear hb x0 x1 x2 x3 x4 y0 y1 y2 y3 y4 y5 y6 y7
  rw [← HR.out] at Z0 Z1 Z2 HB1
  obtain ⟨x0, x1, x2, x3, x4⟩ := five_cells Z0.out rfl
  obtain ⟨y0, y1, y2, y3, y4, y5, y6, y7⟩ := eight_cells Z1.out rfl
  obtain ⟨v0, v1, v2, v3, v4⟩ := five_cells Z2.out rfl
  go_wp2_with (first
    | (refine wpList_store_row rfl 56 _ _ rfl w1.heap.size #[.int .i64 a0, .int .i64 a1, .func (.func g2) #[] #[], .func (.func g3) #[] #[], .func (.func g) #[] #[]] rfl rfl 56 _ Z9.out ?s2 ?s3 ?s4 ?_)
    | go_in)
  case s2 => kernel_rfl
  case s3 => rfl
  case s4 => kernel_rfl
  refine (HK.out _ HB1.out).mono ?_
  rintro e w2 ⟨rfl, hb⟩
  have HB2 := hide (HB1.out.trans (hb.mono HB1.out.size))
  clear hb
  go_wp2_with fail
  go_ret
  exact ⟨rfl, HB2.out⟩
set_option maxRecDepth 100000 in
set_option maxHeartbeats 2000000 in
theorem check_bad (A S q h k cd ac as_ qt nm id : Int) (lv pv : Value) (w : World) (hcd : ¬ (1 ≤ cd ∧ cd ≤ 8)) :
    Calls Tryz.prog 11 #[.agg #[.int .i64 A, .int .i64 S, .int .i64 q, .int .i64 h, .int .i64 k], .agg #[.int .i64 cd, .int .i64 ac, .int .i64 as_, .int .i64 qt, .int .i64 nm, .int .i64 id, lv, pv]] w fun e w' => e = .returned (errV 13) ∧ Below w.heap.size w w' := by
  have HF := hide (fun W : World => formOf_bad cd W hcd)
  clear hcd
  have B0 := hide (two_below w (.cells #[.int .i64 A, .int .i64 S, .int .i64 q, .int .i64 h, .int .i64 k] 34) (.cells #[.int .i64 cd, .int .i64 ac, .int .i64 as_, .int .i64 qt, .int .i64 nm, .int .i64 id, lv, pv] 26))
  have X0 := hide (two_new w (.cells #[.int .i64 A, .int .i64 S, .int .i64 q, .int .i64 h, .int .i64 k] 34) (.cells #[.int .i64 cd, .int .i64 ac, .int .i64 as_, .int .i64 qt, .int .i64 nm, .int .i64 id, lv, pv] 26))
  obtain ⟨x0, x1, x2, x3, x4⟩ := five_cells X0.out.1 rfl
  obtain ⟨y0, y1, y2, y3, y4, y5, y6, y7⟩ := eight_cells X0.out.2 rfl
  go_enter Tryz.func11, Tryz.ntmps11
  go_wp2_with fail
  refine (HF.out _).mono ?_
  rintro e w1 ⟨rfl, hb⟩
  have HB := hide (B0.out.trans (hb.mono B0.out.size))
  clear hb x0 x1 x2 x3 x4 y0 y1 y2 y3 y4 y5 y6 y7
  have HR := hide (World.setRow_alloc_new w1 #[.int .i64 0, .int .i64 0, .nilFunc, .nilFunc, .nilFunc] #[.int .i64 0, .int .i64 0, .nilFunc, .nilFunc, .nilFunc] 56)
  have Z9 := hide (alloc_new w1 (.cells #[.int .i64 0, .int .i64 0, .nilFunc, .nilFunc, .nilFunc] 56))
  have HB1 := hide (HB.out.alloc HB.out.size (.cells #[.int .i64 0, .int .i64 0, .nilFunc, .nilFunc, .nilFunc] 56))
  go_wp2_with (first
    | (refine wpList_store_row rfl 56 _ _ rfl w1.heap.size #[.int .i64 0, .int .i64 0, .nilFunc, .nilFunc, .nilFunc] rfl rfl 56 _ Z9.out ?s2 ?s3 ?s4 ?_)
    | go_in)
  case s2 => kernel_rfl
  case s3 => rfl
  case s4 => kernel_rfl
  go_ret
  exact ⟨rfl, by rw [HR.out]; exact HB1.out⟩
/-- An operation as a value: its two rows are those of lv and pv. -/
def opV (o : OpX) (lv pv : Value) : Value := .agg #[.int .i64 o.code, .int .i64 o.acc, .int .i64 o.ass, .int .i64 o.qty, .int .i64 o.name, .int .i64 o.id, lv, pv]
theorem chk_1 {A S : Int} {o : OpX} (h : o.code = 1) : chk A S o = hdE A S o.acc o.ass o.qty := by unfold chk; simp [h]
theorem chk_2 {A S : Int} {o : OpX} (h : o.code = 2) : chk A S o = hdE A S o.acc o.ass o.qty := by unfold chk; simp [h]
theorem chk_3 {A S : Int} {o : OpX} (h : o.code = 3) : chk A S o = mkE A S o.acc o.ass o.qty o.name := by unfold chk; simp [h]
theorem chk_4 {A S : Int} {o : OpX} (h : o.code = 4) : chk A S o = mkE A S o.acc o.ass o.qty o.name := by unfold chk; simp [h]
theorem chk_5 {A S : Int} {o : OpX} (h : o.code = 5) : chk A S o = sbE A S o.id o.legs := by unfold chk; simp [h]
theorem chk_6 {A S : Int} {o : OpX} (h : o.code = 6) : chk A S o = idE o.id := by unfold chk; simp [h]
theorem chk_7 {A S : Int} {o : OpX} (h : o.code = 7) : chk A S o = idE o.id := by unfold chk; simp [h]
theorem chk_8 {A S : Int} {o : OpX} (h : o.code = 8) : chk A S o = snE A S o.pairs := by unfold chk; simp [h]
theorem chk_0 {A S : Int} {o : OpX} (h : ¬ (1 ≤ o.code ∧ o.code ≤ 8)) : chk A S o = 13 := by
  unfold chk
  rw [if_neg (by omega), if_neg (by omega), if_neg (by omega), if_neg (by omega), if_neg (by omega)]
theorem fmV_1 : fmV 1 = .agg #[.int .i64 3, .int .i64 0, .func (.func 63) #[] #[], .func (.func 64) #[] #[], .func (.func 65) #[] #[]] := by kernel_rfl
theorem fmV_2 : fmV 2 = .agg #[.int .i64 3, .int .i64 0, .func (.func 63) #[] #[], .func (.func 64) #[] #[], .func (.func 65) #[] #[]] := by kernel_rfl
theorem fmV_3 : fmV 3 = .agg #[.int .i64 4, .int .i64 0, .func (.func 66) #[] #[], .func (.func 67) #[] #[], .func (.func 68) #[] #[]] := by kernel_rfl
theorem fmV_4 : fmV 4 = .agg #[.int .i64 4, .int .i64 0, .func (.func 66) #[] #[], .func (.func 67) #[] #[], .func (.func 68) #[] #[]] := by kernel_rfl
theorem fmV_5 : fmV 5 = .agg #[.int .i64 1, .int .i64 5, .func (.func 69) #[] #[], .func (.func 70) #[] #[], .func (.func 71) #[] #[]] := by kernel_rfl
theorem fmV_6 : fmV 6 = .agg #[.int .i64 1, .int .i64 0, .func (.func 72) #[] #[], .func (.func 73) #[] #[], .func (.func 74) #[] #[]] := by kernel_rfl
theorem fmV_7 : fmV 7 = .agg #[.int .i64 1, .int .i64 0, .func (.func 72) #[] #[], .func (.func 73) #[] #[], .func (.func 74) #[] #[]] := by kernel_rfl
theorem fmV_8 : fmV 8 = .agg #[.int .i64 0, .int .i64 2, .func (.func 75) #[] #[], .func (.func 76) #[] #[], .func (.func 77) #[] #[]] := by kernel_rfl
set_option maxRecDepth 100000 in
set_option maxHeartbeats 2000000 in
theorem check_any (A S q h k : Int) (o : OpX) (lv pv : Value) (w : World) (hL : LG.RM w lv o.legs) (hP : KY.RM w pv o.pairs) (hl : o.legs.length ≤ 4611686018427387904) (hp : o.pairs.length ≤ 4611686018427387904) :
    Calls Tryz.prog 11 #[.agg #[.int .i64 A, .int .i64 S, .int .i64 q, .int .i64 h, .int .i64 k], opV o lv pv] w fun e w' => e = .returned (errV (chk A S o)) ∧ Below w.heap.size w w' := by
  unfold opV
  by_cases hc : 1 ≤ o.code ∧ o.code ≤ 8
  · obtain e | e | e | e | e | e | e | e : o.code = 1 ∨ o.code = 2 ∨ o.code = 3 ∨ o.code = 4 ∨ o.code = 5 ∨ o.code = 6 ∨ o.code = 7 ∨ o.code = 8 := by omega
    · rw [chk_1 e]
      exact check_via A S q h k o.code o.acc o.ass o.qty o.name o.id _ _ lv pv _ 1 _ _ _ w e (by omega) (by omega) fmV_1 (fun _ _ => by kernel_rfl) (fun W hb => held_any A S q h k o.code o.acc o.ass o.qty o.name o.id lv pv W)
    · rw [chk_2 e]
      exact check_via A S q h k o.code o.acc o.ass o.qty o.name o.id _ _ lv pv _ 2 _ _ _ w e (by omega) (by omega) fmV_2 (fun _ _ => by kernel_rfl) (fun W hb => held_any A S q h k o.code o.acc o.ass o.qty o.name o.id lv pv W)
    · rw [chk_3 e]
      exact check_via A S q h k o.code o.acc o.ass o.qty o.name o.id _ _ lv pv _ 3 _ _ _ w e (by omega) (by omega) fmV_3 (fun _ _ => by kernel_rfl) (fun W hb => marked_any A S q h k o.code o.acc o.ass o.qty o.name o.id lv pv W)
    · rw [chk_4 e]
      exact check_via A S q h k o.code o.acc o.ass o.qty o.name o.id _ _ lv pv _ 4 _ _ _ w e (by omega) (by omega) fmV_4 (fun _ _ => by kernel_rfl) (fun W hb => marked_any A S q h k o.code o.acc o.ass o.qty o.name o.id lv pv W)
    · rw [chk_5 e]
      exact check_via A S q h k o.code o.acc o.ass o.qty o.name o.id _ _ lv pv _ 5 _ _ _ w e (by omega) (by omega) fmV_5 (fun _ _ => by kernel_rfl) (fun W hb => submitted_any A S q h k o.code o.acc o.ass o.qty o.name o.id lv pv o.legs W (hL.later hb) hl)
    · rw [chk_6 e]
      exact check_via A S q h k o.code o.acc o.ass o.qty o.name o.id _ _ lv pv _ 6 _ _ _ w e (by omega) (by omega) fmV_6 (fun _ _ => by kernel_rfl) (fun W hb => identified_any A S q h k o.code o.acc o.ass o.qty o.name o.id lv pv W)
    · rw [chk_7 e]
      exact check_via A S q h k o.code o.acc o.ass o.qty o.name o.id _ _ lv pv _ 7 _ _ _ w e (by omega) (by omega) fmV_7 (fun _ _ => by kernel_rfl) (fun W hb => identified_any A S q h k o.code o.acc o.ass o.qty o.name o.id lv pv W)
    · rw [chk_8 e]
      exact check_via A S q h k o.code o.acc o.ass o.qty o.name o.id _ _ lv pv _ 8 _ _ _ w e (by omega) (by omega) fmV_8 (fun _ _ => by kernel_rfl) (fun W hb => paired_any A S q h k o.code o.acc o.ass o.qty o.name o.id lv pv o.pairs W (hP.later hb) hp)
  · rw [chk_0 hc]
    exact check_bad A S q h k o.code o.acc o.ass o.qty o.name o.id lv pv w hc
/-- What is wrong with a configuration. -/
def ftE (A S q h k : Int) : Int := if (1 ≤ A ∧ A ≤ 65536) ∧ (1 ≤ S ∧ S ≤ 65536) ∧ (0 ≤ q ∧ q ≤ 256) ∧ (1 ≤ h ∧ h ≤ 64) ∧ (0 ≤ k ∧ k ≤ 8) then 0 else 1
theorem ftE_b (A S q h k : Int) : ftE A S q h k = if ((decide (1 ≤ A) && decide (A ≤ 65536)) && (decide (1 ≤ S) && decide (S ≤ 65536)) && (decide (0 ≤ q) && decide (q ≤ 256)) && (decide (1 ≤ h) && decide (h ≤ 64)) && (decide (0 ≤ k) && decide (k ≤ 8))) = true then 0 else 1 := by
  unfold ftE
  by_cases hh : (1 ≤ A ∧ A ≤ 65536) ∧ (1 ≤ S ∧ S ≤ 65536) ∧ (0 ≤ q ∧ q ≤ 256) ∧ (1 ≤ h ∧ h ≤ 64) ∧ (0 ≤ k ∧ k ≤ 8)
  · rw [if_pos hh, if_pos (by simp; omega)]
  · rw [if_neg hh, if_neg (by simp only [Bool.and_eq_true, decide_eq_true_eq]; omega)]
set_option maxRecDepth 100000 in
set_option maxHeartbeats 2000000 in
theorem fits_any (A S q h k : Int) (w : World) :
    Calls Tryz.prog 20 #[.agg #[.int .i64 A, .int .i64 S, .int .i64 q, .int .i64 h, .int .i64 k]] w fun e w' => e = .returned (errV (ftE A S q h k)) ∧ Below w.heap.size w w' := by
  rw [ftE_b]
  have H0 := hide (fun W : World => within_any A 1 65536 W)
  obtain ⟨b0, e0⟩ : ∃ b, (decide (1 ≤ A) && decide (A ≤ 65536)) = b := ⟨_, rfl⟩
  rw [e0] at H0
  have H1 := hide (fun W : World => within_any S 1 65536 W)
  obtain ⟨b1, e1⟩ : ∃ b, (decide (1 ≤ S) && decide (S ≤ 65536)) = b := ⟨_, rfl⟩
  rw [e1] at H1
  have H2 := hide (fun W : World => within_any q 0 256 W)
  obtain ⟨b2, e2⟩ : ∃ b, (decide (0 ≤ q) && decide (q ≤ 256)) = b := ⟨_, rfl⟩
  rw [e2] at H2
  have H3 := hide (fun W : World => within_any h 1 64 W)
  obtain ⟨b3, e3⟩ : ∃ b, (decide (1 ≤ h) && decide (h ≤ 64)) = b := ⟨_, rfl⟩
  rw [e3] at H3
  have H4 := hide (fun W : World => within_any k 0 8 W)
  obtain ⟨b4, e4⟩ : ∃ b, (decide (0 ≤ k) && decide (k ≤ 8)) = b := ⟨_, rfl⟩
  rw [e4] at H4
  rw [e0, e1, e2, e3, e4]
  clear e0 e1 e2 e3 e4
  have B0 := hide ((Below.refl w.heap.size w).alloc (Nat.le_refl _) (.cells #[.int .i64 A, .int .i64 S, .int .i64 q, .int .i64 h, .int .i64 k] 34))
  obtain ⟨x0, x1, x2, x3, x4⟩ := five_cells (alloc_new w (.cells #[.int .i64 A, .int .i64 S, .int .i64 q, .int .i64 h, .int .i64 k] 34)) rfl
  cases b0
  · rw [if_neg (by simp)]
    go_enter Tryz.func20, Tryz.ntmps20
    go_wp2_with fail
    refine (H0.out _).mono ?_
    rintro e w1 ⟨rfl, rfl⟩
    go_wp2_with fail
    go_ret
    exact ⟨rfl, B0.out⟩
  · skip
    cases b1
    · rw [if_neg (by simp)]
      go_enter Tryz.func20, Tryz.ntmps20
      go_wp2_with fail
      refine (H0.out _).mono ?_
      rintro e w1 ⟨rfl, rfl⟩
      go_wp2_with fail
      refine (H1.out _).mono ?_
      rintro e w2 ⟨rfl, rfl⟩
      go_wp2_with fail
      go_ret
      exact ⟨rfl, B0.out⟩
    · skip
      cases b2
      · rw [if_neg (by simp)]
        go_enter Tryz.func20, Tryz.ntmps20
        go_wp2_with fail
        refine (H0.out _).mono ?_
        rintro e w1 ⟨rfl, rfl⟩
        go_wp2_with fail
        refine (H1.out _).mono ?_
        rintro e w2 ⟨rfl, rfl⟩
        go_wp2_with fail
        refine (H2.out _).mono ?_
        rintro e w3 ⟨rfl, rfl⟩
        go_wp2_with fail
        go_ret
        exact ⟨rfl, B0.out⟩
      · skip
        cases b3
        · rw [if_neg (by simp)]
          go_enter Tryz.func20, Tryz.ntmps20
          go_wp2_with fail
          refine (H0.out _).mono ?_
          rintro e w1 ⟨rfl, rfl⟩
          go_wp2_with fail
          refine (H1.out _).mono ?_
          rintro e w2 ⟨rfl, rfl⟩
          go_wp2_with fail
          refine (H2.out _).mono ?_
          rintro e w3 ⟨rfl, rfl⟩
          go_wp2_with fail
          refine (H3.out _).mono ?_
          rintro e w4 ⟨rfl, rfl⟩
          go_wp2_with fail
          go_ret
          exact ⟨rfl, B0.out⟩
        · skip
          cases b4
          · rw [if_neg (by simp)]
            go_enter Tryz.func20, Tryz.ntmps20
            go_wp2_with fail
            refine (H0.out _).mono ?_
            rintro e w1 ⟨rfl, rfl⟩
            go_wp2_with fail
            refine (H1.out _).mono ?_
            rintro e w2 ⟨rfl, rfl⟩
            go_wp2_with fail
            refine (H2.out _).mono ?_
            rintro e w3 ⟨rfl, rfl⟩
            go_wp2_with fail
            refine (H3.out _).mono ?_
            rintro e w4 ⟨rfl, rfl⟩
            go_wp2_with fail
            refine (H4.out _).mono ?_
            rintro e w5 ⟨rfl, rfl⟩
            go_wp2_with fail
            go_ret
            exact ⟨rfl, B0.out⟩
          · skip
            rw [if_pos (by rfl)]
            go_enter Tryz.func20, Tryz.ntmps20
            go_wp2_with fail
            refine (H0.out _).mono ?_
            rintro e w1 ⟨rfl, rfl⟩
            go_wp2_with fail
            refine (H1.out _).mono ?_
            rintro e w2 ⟨rfl, rfl⟩
            go_wp2_with fail
            refine (H2.out _).mono ?_
            rintro e w3 ⟨rfl, rfl⟩
            go_wp2_with fail
            refine (H3.out _).mono ?_
            rintro e w4 ⟨rfl, rfl⟩
            go_wp2_with fail
            refine (H4.out _).mono ?_
            rintro e w5 ⟨rfl, rfl⟩
            go_wp2_with fail
            go_ret
            exact ⟨rfl, B0.out⟩
end Go.Proofs.YtdiamlajmcikhaaGreatDoor
