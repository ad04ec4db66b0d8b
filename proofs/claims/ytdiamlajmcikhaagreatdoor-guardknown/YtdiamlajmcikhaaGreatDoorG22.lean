/-
  My own text: the program's Encode (printed by mkg22.py).
-/
import Derived.Test.YtdiamlajmcikhaaGreatDoorG21
namespace Go.Proofs.YtdiamlajmcikhaaGreatDoor
open Go.RowKit

theorem ln_one (W : World) (B : Nat) (x : Int) (h : B ≤ W.heap.size) : LN.OM (W.alloc (.cells #[.int .i64 x] 2)) B (.slice (some ⟨W.heap.size, 0, none⟩) 1 1) [x] := by
  refine ⟨rfl, .inr ⟨W.heap.size, 1, #[.int .i64 x], rfl, h, alloc_new W _, Nat.le_refl _, ?_⟩⟩
  exact ⟨by decide, rfl, rfl⟩
/-- The row of an operation. -/
def encL (o : OpX) : List Int :=
  if o.code = 1 ∨ o.code = 2 then [o.code, o.acc, o.ass, o.qty]
  else if o.code = 3 ∨ o.code = 4 then [o.code, o.acc, o.ass, o.qty, o.name]
  else if o.code = 5 then o.code :: o.id :: rowLG o.legs
  else if o.code = 6 ∨ o.code = 7 then [o.code, o.id]
  else if o.code = 8 then o.code :: rowKY o.pairs
  else []
def encE (o : OpX) : Int := if 1 ≤ o.code ∧ o.code ≤ 8 then 0 else 13
theorem encL_1 {o : OpX} (h : o.code = 1) : encL o = [o.code, o.acc, o.ass, o.qty] := by unfold encL; simp [h]
theorem encL_2 {o : OpX} (h : o.code = 2) : encL o = [o.code, o.acc, o.ass, o.qty] := by unfold encL; simp [h]
theorem encL_3 {o : OpX} (h : o.code = 3) : encL o = [o.code, o.acc, o.ass, o.qty, o.name] := by unfold encL; simp [h]
theorem encL_4 {o : OpX} (h : o.code = 4) : encL o = [o.code, o.acc, o.ass, o.qty, o.name] := by unfold encL; simp [h]
theorem encL_5 {o : OpX} (h : o.code = 5) : encL o = o.code :: o.id :: rowLG o.legs := by unfold encL; simp [h]
theorem encL_6 {o : OpX} (h : o.code = 6) : encL o = [o.code, o.id] := by unfold encL; simp [h]
theorem encL_7 {o : OpX} (h : o.code = 7) : encL o = [o.code, o.id] := by unfold encL; simp [h]
theorem encL_8 {o : OpX} (h : o.code = 8) : encL o = o.code :: rowKY o.pairs := by unfold encL; simp [h]
theorem encL_0 {o : OpX} (h : ¬ (1 ≤ o.code ∧ o.code ≤ 8)) : encL o = [] := by
  unfold encL
  rw [if_neg (by omega), if_neg (by omega), if_neg (by omega), if_neg (by omega), if_neg (by omega)]
set_option maxRecDepth 100000 in
set_option maxHeartbeats 4000000 in
theorem encode_via (cd ac as_ qt nm id a0 a1 : Int) (lv pv : Value) (c gr gw gl : Nat) (X : List Int) (w : World) (hcd : cd = (c : Int)) (h1 : 1 ≤ c) (h2 : c ≤ 8) (hV : fmV c = .agg #[.int .i64 a0, .int .i64 a1, .func (.func gr) #[] #[], .func (.func gw) #[] #[], .func (.func gl) #[] #[]]) (eg : ∀ args W, (callFunc gw args).run Tryz.prog W = .ok (.enter gw args) W)
    (hK : ∀ (W : World) (v : Value), Below w.heap.size w W → LN.OM W w.heap.size v [cd] → Calls Tryz.prog gw #[v, .agg #[.int .i64 cd, .int .i64 ac, .int .i64 as_, .int .i64 qt, .int .i64 nm, .int .i64 id, lv, pv]] W fun e w' => ∃ v', e = .returned v' ∧ LN.OM w' w.heap.size v' ([cd] ++ X) ∧ Below w.heap.size w w') :
    Calls Tryz.prog 34 #[.agg #[.int .i64 cd, .int .i64 ac, .int .i64 as_, .int .i64 qt, .int .i64 nm, .int .i64 id, lv, pv]] w fun e w' => ∃ v', e = .returned (.tuple #[v', .nilIface]) ∧ LN.OM w' w.heap.size v' ([cd] ++ X) ∧ Below w.heap.size w w' := by
  have HF := hide (fun W : World => formOf_any c W h1 h2)
  rw [hV] at HF
  rw [← hcd] at HF
  clear hV hcd h1 h2
  have HK := hide hK
  clear hK
  have HB0 := hide ((Below.refl w.heap.size w).alloc (Nat.le_refl _) (.cells #[.int .i64 cd, .int .i64 ac, .int .i64 as_, .int .i64 qt, .int .i64 nm, .int .i64 id, lv, pv] 26))
  have Z0 := hide (alloc_new w (.cells #[.int .i64 cd, .int .i64 ac, .int .i64 as_, .int .i64 qt, .int .i64 nm, .int .i64 id, lv, pv] 26))
  obtain ⟨y0, y1, y2, y3, y4, y5, y6, y7⟩ := eight_cells Z0.out rfl
  go_enter Tryz.func34, Tryz.ntmps34
  go_wp2_with fail
  refine (HF.out _).mono ?_
  rintro e w1 ⟨rfl, hb⟩
  have HB1 := hide (HB0.out.trans (hb.mono HB0.out.size))
  have HB2 := hide (HB1.out.alloc HB1.out.size (.cells #[.int .i64 a0, .int .i64 a1, .func (.func gr) #[] #[], .func (.func gw) #[] #[], .func (.func gl) #[] #[]] 56))
  have Z1 := hide (alloc_block (o := .cells #[.int .i64 a0, .int .i64 a1, .func (.func gr) #[] #[], .func (.func gw) #[] #[], .func (.func gl) #[] #[]] 56) (blk_later Z0.out hb))
  have Z2 := hide (alloc_new w1 (.cells #[.int .i64 a0, .int .i64 a1, .func (.func gr) #[] #[], .func (.func gw) #[] #[], .func (.func gl) #[] #[]] 56))
  have HR := hide (World.setRow_alloc_new w1 #[.int .i64 0, .int .i64 0, .nilFunc, .nilFunc, .nilFunc] #[.int .i64 a0, .int .i64 a1, .func (.func gr) #[] #[], .func (.func gw) #[] #[], .func (.func gl) #[] #[]] 56)
  have Z9 := hide (alloc_new w1 (.cells #[.int .i64 0, .int .i64 0, .nilFunc, .nilFunc, .nilFunc] 56))
  clear hb y0 y1 y2 y3 y4 y5 y6 y7
  rw [← HR.out] at HB2 Z1 Z2
  obtain ⟨y0, y1, y2, y3, y4, y5, y6, y7⟩ := eight_cells Z1.out rfl
  obtain ⟨z0, z1, z2, z3, z4⟩ := five_cells Z2.out rfl
  have Z1b := hide (alloc_block (o := .cells #[.int .i64 cd] 2) Z1.out)
  obtain ⟨u0, u1, u2, u3, u4, u5, u6, u7⟩ := eight_cells Z1b.out rfl
  have HB3 := hide (HB2.out.alloc HB2.out.size (.cells #[.int .i64 cd] 2))
  have hsz : ((w1.alloc (.cells #[.int .i64 0, .int .i64 0, .nilFunc, .nilFunc, .nilFunc] 56)).setRow w1.heap.size #[.int .i64 a0, .int .i64 a1, .func (.func gr) #[] #[], .func (.func gw) #[] #[], .func (.func gl) #[] #[]]).heap.size = w1.heap.size + 1 := by rw [setRow_size]; simp
  have HOO := ln_one ((w1.alloc (.cells #[.int .i64 0, .int .i64 0, .nilFunc, .nilFunc, .nilFunc] 56)).setRow w1.heap.size #[.int .i64 a0, .int .i64 a1, .func (.func gr) #[] #[], .func (.func gw) #[] #[], .func (.func gl) #[] #[]]) w.heap.size cd HB2.out.size
  rw [hsz] at HOO
  have HO3 := hide HOO
  clear HOO
  go_wp2_with (refine wpList_store_row rfl 56 _ _ rfl w1.heap.size #[.int .i64 a0, .int .i64 a1, .func (.func gr) #[] #[], .func (.func gw) #[] #[], .func (.func gl) #[] #[]] rfl rfl 56 _ Z9.out ?s2 ?s3 ?s4 ?_)
  case s2 => kernel_rfl
  case s3 => rfl
  case s4 => kernel_rfl
  refine (HK.out _ _ HB3.out HO3.out).mono ?_
  rintro e w4 ⟨v', rfl, hO4, hb4⟩
  have HO4 := hide hO4
  have HB4 := hide hb4
  clear hO4 hb4 y0 y1 y2 y3 y4 y5 y6 y7 z0 z1 z2 z3 z4 u0 u1 u2 u3 u4 u5 u6 u7
  go_wp2_with fail
  go_ret2
  exact ⟨_, rfl, HO4.out, HB4.out⟩
set_option maxRecDepth 100000 in
set_option maxHeartbeats 4000000 in
theorem encode_bad (cd ac as_ qt nm id : Int) (lv pv : Value) (w : World) (hcd : ¬ (1 ≤ cd ∧ cd ≤ 8)) :
    Calls Tryz.prog 34 #[.agg #[.int .i64 cd, .int .i64 ac, .int .i64 as_, .int .i64 qt, .int .i64 nm, .int .i64 id, lv, pv]] w fun e w' => e = .returned (.tuple #[.slice none 0 0, errV 13]) ∧ Below w.heap.size w w' := by
  have HF := hide (fun W : World => formOf_bad cd W hcd)
  clear hcd
  have HB0 := hide ((Below.refl w.heap.size w).alloc (Nat.le_refl _) (.cells #[.int .i64 cd, .int .i64 ac, .int .i64 as_, .int .i64 qt, .int .i64 nm, .int .i64 id, lv, pv] 26))
  have Z0 := hide (alloc_new w (.cells #[.int .i64 cd, .int .i64 ac, .int .i64 as_, .int .i64 qt, .int .i64 nm, .int .i64 id, lv, pv] 26))
  obtain ⟨y0, y1, y2, y3, y4, y5, y6, y7⟩ := eight_cells Z0.out rfl
  go_enter Tryz.func34, Tryz.ntmps34
  go_wp2_with fail
  refine (HF.out _).mono ?_
  rintro e w1 ⟨rfl, hb⟩
  have HB1 := hide (HB0.out.trans (hb.mono HB0.out.size))
  have HR := hide (World.setRow_alloc_new w1 #[.int .i64 0, .int .i64 0, .nilFunc, .nilFunc, .nilFunc] #[.int .i64 0, .int .i64 0, .nilFunc, .nilFunc, .nilFunc] 56)
  have Z9 := hide (alloc_new w1 (.cells #[.int .i64 0, .int .i64 0, .nilFunc, .nilFunc, .nilFunc] 56))
  have HB2 := hide (HB1.out.alloc HB1.out.size (.cells #[.int .i64 0, .int .i64 0, .nilFunc, .nilFunc, .nilFunc] 56))
  clear hb y0 y1 y2 y3 y4 y5 y6 y7
  go_wp2_with (refine wpList_store_row rfl 56 _ _ rfl w1.heap.size #[.int .i64 0, .int .i64 0, .nilFunc, .nilFunc, .nilFunc] rfl rfl 56 _ Z9.out ?s2 ?s3 ?s4 ?_)
  case s2 => kernel_rfl
  case s3 => rfl
  case s4 => kernel_rfl
  go_ret2
  exact ⟨rfl, by rw [HR.out]; exact HB2.out⟩
/-- What Encode answers. -/
def EcP (w : World) (o : OpX) (e : Ending) (w' : World) : Prop := ∃ v', e = .returned (.tuple #[v', errV (encE o)]) ∧ LN.OM w' w.heap.size v' (encL o) ∧ Below w.heap.size w w'
theorem encode_any (o : OpX) (lv pv : Value) (w : World) (hL : LG.RM w lv o.legs) (hP : KY.RM w pv o.pairs) (hl : o.legs.length ≤ 3518437208800) (hp : o.pairs.length ≤ 8796093022000) : Calls Tryz.prog 34 #[opV o lv pv] w (EcP w o) := by
  unfold opV EcP
  by_cases hc : 1 ≤ o.code ∧ o.code ≤ 8
  · rw [show encE o = 0 from if_pos hc, errV_zero]
    obtain e | e | e | e | e | e | e | e : o.code = 1 ∨ o.code = 2 ∨ o.code = 3 ∨ o.code = 4 ∨ o.code = 5 ∨ o.code = 6 ∨ o.code = 7 ∨ o.code = 8 := by omega
    · rw [encL_1 e]
      exact encode_via o.code o.acc o.ass o.qty o.name o.id _ _ lv pv 1 _ _ _ [o.acc, o.ass, o.qty] w e (by omega) (by omega) fmV_1 (fun _ _ => by kernel_rfl) (fun W v hb ho => (withHeld_any o.code o.acc o.ass o.qty o.name o.id lv pv v [o.code] w W hb ho (by simp)).mono fun e w' ⟨g, cap, he, ho, _, hb⟩ => ⟨_, he, ho, hb⟩)
    · rw [encL_2 e]
      exact encode_via o.code o.acc o.ass o.qty o.name o.id _ _ lv pv 2 _ _ _ [o.acc, o.ass, o.qty] w e (by omega) (by omega) fmV_2 (fun _ _ => by kernel_rfl) (fun W v hb ho => (withHeld_any o.code o.acc o.ass o.qty o.name o.id lv pv v [o.code] w W hb ho (by simp)).mono fun e w' ⟨g, cap, he, ho, _, hb⟩ => ⟨_, he, ho, hb⟩)
    · rw [encL_3 e]
      exact encode_via o.code o.acc o.ass o.qty o.name o.id _ _ lv pv 3 _ _ _ [o.acc, o.ass, o.qty, o.name] w e (by omega) (by omega) fmV_3 (fun _ _ => by kernel_rfl) (fun W v hb ho => (withMark_any o.code o.acc o.ass o.qty o.name o.id lv pv v [o.code] w W hb ho (by simp)).mono fun e w' ⟨v', he, ho, hb⟩ => ⟨v', he, by exact ho, hb⟩)
    · rw [encL_4 e]
      exact encode_via o.code o.acc o.ass o.qty o.name o.id _ _ lv pv 4 _ _ _ [o.acc, o.ass, o.qty, o.name] w e (by omega) (by omega) fmV_4 (fun _ _ => by kernel_rfl) (fun W v hb ho => (withMark_any o.code o.acc o.ass o.qty o.name o.id lv pv v [o.code] w W hb ho (by simp)).mono fun e w' ⟨v', he, ho, hb⟩ => ⟨v', he, by exact ho, hb⟩)
    · rw [encL_5 e]
      exact encode_via o.code o.acc o.ass o.qty o.name o.id _ _ lv pv 5 _ _ _ (o.id :: rowLG o.legs) w e (by omega) (by omega) fmV_5 (fun _ _ => by kernel_rfl) (fun W v hb ho => (withSubmit_any o.code o.acc o.ass o.qty o.name o.id lv pv v [o.code] o.legs w W hb ho hL hl (by simp; omega)).mono fun e w' ⟨v', he, ho, hb⟩ => ⟨v', he, by simpa using ho, hb⟩)
    · rw [encL_6 e]
      exact encode_via o.code o.acc o.ass o.qty o.name o.id _ _ lv pv 6 _ _ _ [o.id] w e (by omega) (by omega) fmV_6 (fun _ _ => by kernel_rfl) (fun W v hb ho => (withIdent_any o.code o.acc o.ass o.qty o.name o.id lv pv v [o.code] w W hb ho (by simp)).mono fun e w' ⟨g, cap, he, ho, _, hb⟩ => ⟨_, he, ho, hb⟩)
    · rw [encL_7 e]
      exact encode_via o.code o.acc o.ass o.qty o.name o.id _ _ lv pv 7 _ _ _ [o.id] w e (by omega) (by omega) fmV_7 (fun _ _ => by kernel_rfl) (fun W v hb ho => (withIdent_any o.code o.acc o.ass o.qty o.name o.id lv pv v [o.code] w W hb ho (by simp)).mono fun e w' ⟨g, cap, he, ho, _, hb⟩ => ⟨_, he, ho, hb⟩)
    · rw [encL_8 e]
      exact encode_via o.code o.acc o.ass o.qty o.name o.id _ _ lv pv 8 _ _ _ (rowKY o.pairs) w e (by omega) (by omega) fmV_8 (fun _ _ => by kernel_rfl) (fun W v hb ho => (withPaired_any o.code o.acc o.ass o.qty o.name o.id lv pv v [o.code] o.pairs w W hb ho hP (by simp; omega)).mono fun e w' ⟨v', he, ho, hb⟩ => ⟨v', he, by exact ho, hb⟩)
  · rw [show encE o = 13 from if_neg hc, encL_0 hc]
    exact (encode_bad o.code o.acc o.ass o.qty o.name o.id lv pv w hc).mono fun e w' ⟨he, hb⟩ => ⟨_, he, LN.OM.nil _ _, hb⟩
end Go.Proofs.YtdiamlajmcikhaaGreatDoor
