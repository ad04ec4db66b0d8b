/-
  My own text: does a row fit its form? The program's Decode (printed by mkg11.py).
-/
import Derived.Test.YtdiamlajmcikhaaGreatDoorG10
namespace Go.Proofs.YtdiamlajmcikhaaGreatDoor
open Go.RowKit

set_option maxRecDepth 100000 in
set_option maxHeartbeats 4000000 in
theorem fits0_any (a0 : Int) (n g2 g3 g : Nat) (w : World) (h0 : 0 ≤ a0) (h1 : a0 ≤ 10) (hn : n ≤ 17592186044416) :
    Calls Tryz.prog 22 #[.agg #[.int .i64 a0, .int .i64 0, .func (.func g2) #[] #[], .func (.func g3) #[] #[], .func (.func g) #[] #[]], .int .i64 (n : Int)] w fun e w' => e = .returned (errV (if (n : Int) < a0 then 2 else if a0 < (n : Int) then 3 else 0)) ∧ Below w.heap.size w w' := by
  have B0 := hide ((Below.refl w.heap.size w).alloc (Nat.le_refl _) (.cells #[.int .i64 a0, .int .i64 0, .func (.func g2) #[] #[], .func (.func g3) #[] #[], .func (.func g) #[] #[]] 56))
  have Z0 := alloc_new w (.cells #[.int .i64 a0, .int .i64 0, .func (.func g2) #[] #[], .func (.func g3) #[] #[], .func (.func g) #[] #[]] 56)
  obtain ⟨x0, x1, x2, x3, x4⟩ := five_cells Z0 rfl
  clear Z0
  obtain ⟨m, hm⟩ : ∃ m : Int, (n : Int) - a0 = m := ⟨_, rfl⟩
  have hw : wrap64 ((n : Int) - a0) = m := by rw [← hm]; unfold wrap64; omega
  have hw2 : IntKind.i64.wrap ((n : Int) - a0) = m := by rw [IntKind.wrap_i64, ← hm]; omega
  by_cases c1 : m < 0
  · rw [if_pos (by omega)]
    have d1 : decide (m < 0) = true := decide_eq_true c1
    clear c1 hm h0 h1
    go_enter Tryz.func22, Tryz.ntmps22
    go_wp2_with fail
    go_ret
    exact ⟨rfl, B0.out⟩
  · have d1 : decide (m < 0) = false := decide_eq_false c1
    rw [if_neg (by omega)]
    by_cases c2 : 0 < m
    · rw [if_pos (by omega)]
      have d2 : decide (0 < m) = true := decide_eq_true c2
      clear c1 c2 hm h0 h1
      go_enter Tryz.func22, Tryz.ntmps22
      go_wp2_with fail
      go_ret
      exact ⟨rfl, B0.out⟩
    · rw [if_neg (by omega)]
      have d2 : decide (0 < m) = false := decide_eq_false c2
      clear c1 c2 hm h0 h1
      go_enter Tryz.func22, Tryz.ntmps22
      go_wp2_with fail
      go_ret
      exact ⟨rfl, B0.out⟩
set_option maxRecDepth 100000 in
set_option maxHeartbeats 4000000 in
theorem fits5_any (n g2 g3 g : Nat) (w : World) (hn : n ≤ 17592186044416) :
    Calls Tryz.prog 22 #[.agg #[.int .i64 1, .int .i64 5, .func (.func g2) #[] #[], .func (.func g3) #[] #[], .func (.func g) #[] #[]], .int .i64 (n : Int)] w fun e w' => e = .returned (errV (if 1 ≤ n ∧ (n - 1) % 5 = 0 then 0 else 2)) ∧ Below w.heap.size w w' := by
  have B0 := hide ((Below.refl w.heap.size w).alloc (Nat.le_refl _) (.cells #[.int .i64 1, .int .i64 5, .func (.func g2) #[] #[], .func (.func g3) #[] #[], .func (.func g) #[] #[]] 56))
  have Z0 := alloc_new w (.cells #[.int .i64 1, .int .i64 5, .func (.func g2) #[] #[], .func (.func g3) #[] #[], .func (.func g) #[] #[]] 56)
  obtain ⟨x0, x1, x2, x3, x4⟩ := five_cells Z0 rfl
  clear Z0
  by_cases c1 : n < 1
  · rw [if_neg (by omega)]
    obtain rfl : n = 0 := by omega
    go_enter Tryz.func22, Tryz.ntmps22
    go_wp2_with fail
    go_ret
    exact ⟨rfl, B0.out⟩
  · obtain ⟨m, rfl⟩ : ∃ m, n = m + 1 := ⟨n - 1, by omega⟩
    have hw : wrap64 (((m + 1 : Nat) : Int) - 1) = (m : Int) := by unfold wrap64; omega
    have hw2 : IntKind.i64.wrap (((m + 1 : Nat) : Int) - 1) = (m : Int) := by rw [IntKind.wrap_i64]; omega
    have hw3 : wrap64 ((m : Int) + 1 - 1) = (m : Int) := by unfold wrap64; omega
    obtain ⟨r, hr⟩ : ∃ r : Int, ((m % 5 : Nat) : Int) = r := ⟨_, rfl⟩
    have ht : (m : Int).tmod 5 = r := by rw [← hr]; rfl
    have ht2 : (m : Int) % 5 = r := by rw [← hr]; rfl
    by_cases c2 : r = 0
    · rw [if_pos (by omega)]
      subst c2
      clear hr c1
      go_enter Tryz.func22, Tryz.ntmps22
      go_wp2_with fail
      go_ret
      exact ⟨rfl, B0.out⟩
    · rw [if_neg (by omega)]
      have d2 : decide (0 < r) = true := by rw [decide_eq_true_eq]; omega
      clear hr c1 c2
      go_enter Tryz.func22, Tryz.ntmps22
      go_wp2_with fail
      go_ret
      exact ⟨rfl, B0.out⟩
set_option maxRecDepth 100000 in
set_option maxHeartbeats 4000000 in
theorem fits2_any (n g2 g3 g : Nat) (w : World) (hn : n ≤ 17592186044416) :
    Calls Tryz.prog 22 #[.agg #[.int .i64 0, .int .i64 2, .func (.func g2) #[] #[], .func (.func g3) #[] #[], .func (.func g) #[] #[]], .int .i64 (n : Int)] w fun e w' => e = .returned (errV (if 0 ≤ n ∧ (n - 0) % 2 = 0 then 0 else 2)) ∧ Below w.heap.size w w' := by
  have B0 := hide ((Below.refl w.heap.size w).alloc (Nat.le_refl _) (.cells #[.int .i64 0, .int .i64 2, .func (.func g2) #[] #[], .func (.func g3) #[] #[], .func (.func g) #[] #[]] 56))
  have Z0 := alloc_new w (.cells #[.int .i64 0, .int .i64 2, .func (.func g2) #[] #[], .func (.func g3) #[] #[], .func (.func g) #[] #[]] 56)
  obtain ⟨x0, x1, x2, x3, x4⟩ := five_cells Z0 rfl
  clear Z0
  obtain ⟨r, hr⟩ : ∃ r : Int, ((n % 2 : Nat) : Int) = r := ⟨_, rfl⟩
  have ht : (n : Int).tmod 2 = r := by rw [← hr]; rfl
  have ht2 : (n : Int) % 2 = r := by rw [← hr]; rfl
  have hw : wrap64 ((n : Int) - 0) = (n : Int) := by unfold wrap64; omega
  have d1 : decide ((n : Int) < 0) = false := by rw [decide_eq_false_iff_not]; omega
  by_cases c2 : r = 0
  · rw [if_pos (by omega)]
    subst c2
    clear hr
    go_enter Tryz.func22, Tryz.ntmps22
    go_wp2_with fail
    go_ret
    exact ⟨rfl, B0.out⟩
  · rw [if_neg (by omega)]
    have d2 : decide (0 < r) = true := by rw [decide_eq_true_eq]; omega
    clear hr c2
    go_enter Tryz.func22, Tryz.ntmps22
    go_wp2_with fail
    go_ret
    exact ⟨rfl, B0.out⟩
set_option maxRecDepth 100000 in
set_option maxHeartbeats 4000000 in
theorem decode_nil (v : Value) (w : World) (hv : LN.RM w v []) :
    Calls Tryz.prog 10 #[v] w fun e w' => e = .returned (.tuple #[.agg #[.int .i64 0, .int .i64 0, .int .i64 0, .int .i64 0, .int .i64 0, .int .i64 0, .slice none 0 0, .slice none 0 0], errV 2]) ∧ Below w.heap.size w w' := by
  obtain ⟨_, a, cap, rfl, _, _⟩ := hv
  have Z0 := hide (alloc_new w (.cells #[.int .i64 0, .int .i64 0, .int .i64 0, .int .i64 0, .int .i64 0, .int .i64 0, .slice none 0 0, .slice none 0 0] 26))
  have HB := hide ((Below.refl w.heap.size w).alloc (Nat.le_refl _) (.cells #[.int .i64 0, .int .i64 0, .int .i64 0, .int .i64 0, .int .i64 0, .int .i64 0, .slice none 0 0, .slice none 0 0] 26))
  go_enter Tryz.func10, Tryz.ntmps10
  go_wp2_with fail
  have hld := run_loadVar_row (P := Tryz.prog) _ _ 26 26 _ (0, 0) _ Z0.out Tryz.underlying26 rfl (by kernel_rfl)
  refine bodyPost_ret (v := .tuple #[.agg #[.int .i64 0, .int .i64 0, .int .i64 0, .int .i64 0, .int .i64 0, .int .i64 0, .slice none 0 0, .slice none 0 0], errV 2]) ?_ rfl ⟨rfl, HB.out⟩
  rw [results_cell_tmp rfl]
  simp [asAddr, Result.andThen, hld]
  rfl
set_option maxRecDepth 100000 in
set_option maxHeartbeats 4000000 in
theorem decode_bad (v : Value) (c : Int) (N : List Int) (w : World) (hv : LN.RM w v (c :: N)) (hl : N.length ≤ 17592186044002) (h : ¬ (1 ≤ c ∧ c ≤ 8)) :
    Calls Tryz.prog 10 #[v] w fun e w' => e = .returned (.tuple #[.agg #[.int .i64 0, .int .i64 0, .int .i64 0, .int .i64 0, .int .i64 0, .int .i64 0, .slice none 0 0, .slice none 0 0], errV 13]) ∧ Below w.heap.size w w' := by
  obtain ⟨g, off, cap, rfl, hcap, hg, hc⟩ := row_some hv (by simp)
  have HC0 := hide (hc 0 (by simp))
  have HCUT := hide (rm_cut hg hcap hc 1)
  have HEND := hide (fun (a : Option Addr) (cap : Nat) (h : (c :: N).length ≤ 1) => rm_end (w := w) (a := a) (cap := cap) 1 h)
  rw [show nth (c :: N) 0 = c from rfl] at HC0
  rw [show (c :: N).drop 1 = N from rfl, show (c :: N).length - 1 = N.length from rfl] at HCUT HEND
  have hnn : (c :: N).length = N.length + 1 := rfl
  rw [hnn] at hcap HEND ⊢
  have HG := hide hg
  have HH := hide h
  clear hc hv hg hnn h
  have Z0 := hide (alloc_new w (.cells #[.int .i64 0, .int .i64 0, .int .i64 0, .int .i64 0, .int .i64 0, .int .i64 0, .slice none 0 0, .slice none 0 0] 26))
  have HB := hide ((Below.refl w.heap.size w).alloc (Nat.le_refl _) (.cells #[.int .i64 0, .int .i64 0, .int .i64 0, .int .i64 0, .int .i64 0, .int .i64 0, .slice none 0 0, .slice none 0 0] 26))
  have c0 := (HB.out.cell (p := ⟨g, off, none⟩) HG.out).trans HC0.out
  have k0 : (0 : Int) < ((N.length + 1 : Nat) : Int) := by omega
  have k1 : (1 : Int) ≤ ((N.length + 1 : Nat) : Int) := by omega
  obtain ⟨nn, hnn⟩ : ∃ n, n = N.length + 1 := ⟨_, rfl⟩
  rw [← hnn] at hcap HEND k0 k1 ⊢
  have HNN := hide hnn
  have hd : ((nn : Int) == 0) = false := by rw [beq_eq_false_iff_ne]; omega
  clear hnn
  have HF := hide (fun W : World => formOf_bad c W HH.out)
  go_enter Tryz.func10, Tryz.ntmps10
  go_wp2_with fail
  go_quiet (fail)
  have HRN : Hid (LN.RM w (.slice (if cap = 1 then some ⟨g, off, none⟩ else some ⟨g, off + 1, none⟩) N.length (cap - 1)) N) := hide (by
    split
    · have h1 := HEND.out (some ⟨g, off, none⟩) (cap - 1) (by omega)
      exact h1
    · exact HCUT.out)
  rw [show nn - 1 = N.length by have := HNN.out; omega]
  generalize (if cap = 1 then some (⟨g, off, none⟩ : Addr) else some ⟨g, off + 1, none⟩) = na at *
  generalize cap - 1 = nc at *
  have Z1 := hide (show ((w.alloc (.cells #[.int .i64 0, .int .i64 0, .int .i64 0, .int .i64 0, .int .i64 0, .int .i64 0, .slice none 0 0, .slice none 0 0] 26)).drewN nq).heap[w.heap.size]? = _ from Z0.out)
  have HB1 := hide (below_dN HB.out nq)
  generalize (w.alloc (.cells #[.int .i64 0, .int .i64 0, .int .i64 0, .int .i64 0, .int .i64 0, .int .i64 0, .slice none 0 0, .slice none 0 0] 26)).drewN nq = V at *
  clear c0 k0 k1 hd HC0 HCUT HEND HB Z0
  go_wp2_with fail
  refine (HF.out _).mono ?_
  rintro e w1 ⟨rfl, hb⟩
  have HB2 := hide (HB1.out.trans (hb.mono HB1.out.size))
  have HB3 := hide (HB2.out.alloc HB2.out.size (.cells #[.int .i64 0, .int .i64 0, .nilFunc, .nilFunc, .nilFunc] 56))
  have Z2 := hide (alloc_block (o := .cells #[.int .i64 0, .int .i64 0, .nilFunc, .nilFunc, .nilFunc] 56) (blk_later Z1.out hb))
  have Z3 := hide (alloc_new w1 (.cells #[.int .i64 0, .int .i64 0, .nilFunc, .nilFunc, .nilFunc] 56))
  have HR := hide (World.setRow_alloc_new w1 #[.int .i64 0, .int .i64 0, .nilFunc, .nilFunc, .nilFunc] #[.int .i64 0, .int .i64 0, .nilFunc, .nilFunc, .nilFunc] 56)
  have Z9 := hide (alloc_new w1 (.cells #[.int .i64 0, .int .i64 0, .nilFunc, .nilFunc, .nilFunc] 56))
  have hs1 : w.heap.size < w1.heap.size := (Array.getElem?_eq_some_iff.1 (blk_later Z1.out hb)).1
  clear hb
  rw [← HR.out] at HB3 Z2 Z3
  go_wp2_with (first
    | (refine wpList_store_row rfl 56 (.tmp 6) _ rfl w1.heap.size #[.int .i64 0, .int .i64 0, .nilFunc, .nilFunc, .nilFunc] rfl rfl 56 _ Z9.out ?s2 ?s3 ?s4 ?_)
    | (refine wpList_store_row rfl 26 (.tmp 2) _ rfl w.heap.size #[.int .i64 0, .int .i64 0, .int .i64 0, .int .i64 0, .int .i64 0, .int .i64 0, .slice none 0 0, .slice none 0 0] rfl rfl 26 _ Z2.out ?r2 ?r3 ?r4 ?_)
    | go_in)
  case s2 => kernel_rfl
  case s3 => rfl
  case s4 => kernel_rfl
  case r2 => kernel_rfl
  case r3 => rfl
  case r4 => first | rfl | kernel_rfl
  have hld := run_loadVar_row (P := Tryz.prog) _ _ 26 26 _ (0, 0) _ (setRow_heap _ _ _ #[.int .i64 0, .int .i64 0, .int .i64 0, .int .i64 0, .int .i64 0, .int .i64 0, .slice none 0 0, .slice none 0 0] _ _ Z2.out) Tryz.underlying26 rfl (by kernel_rfl)
  refine bodyPost_ret (v := .tuple #[.agg #[.int .i64 0, .int .i64 0, .int .i64 0, .int .i64 0, .int .i64 0, .int .i64 0, .slice none 0 0, .slice none 0 0], errV 13]) ?_ rfl ⟨rfl, below_row HB3.out (Nat.le_refl _)⟩
  rw [results_cell_tmp rfl]
  simp [asAddr, Result.andThen, hld]
  rfl
set_option maxRecDepth 100000 in
set_option maxHeartbeats 4000000 in
theorem decode_err (v : Value) (c : Int) (N : List Int) (w : World) (hv : LN.RM w v (c :: N)) (hl : N.length ≤ 17592186044002) (cn gr gw gl : Nat) (a0 a1 : Int) (h : c = (cn : Int) ∧ 1 ≤ cn ∧ cn ≤ 8) (hV : fmV cn = .agg #[.int .i64 a0, .int .i64 a1, .func (.func gr) #[] #[], .func (.func gw) #[] #[], .func (.func gl) #[] #[]]) (e0 : Int) (he : 1 ≤ e0) (hF : ∀ W, Calls Tryz.prog 22 #[.agg #[.int .i64 a0, .int .i64 a1, .func (.func gr) #[] #[], .func (.func gw) #[] #[], .func (.func gl) #[] #[]], .int .i64 (N.length : Int)] W fun e w' => e = .returned (errV e0) ∧ Below W.heap.size W w') :
    Calls Tryz.prog 10 #[v] w fun e w' => e = .returned (.tuple #[.agg #[.int .i64 0, .int .i64 0, .int .i64 0, .int .i64 0, .int .i64 0, .int .i64 0, .slice none 0 0, .slice none 0 0], errV e0]) ∧ Below w.heap.size w w' := by
  obtain ⟨g, off, cap, rfl, hcap, hg, hc⟩ := row_some hv (by simp)
  have HC0 := hide (hc 0 (by simp))
  have HCUT := hide (rm_cut hg hcap hc 1)
  have HEND := hide (fun (a : Option Addr) (cap : Nat) (h : (c :: N).length ≤ 1) => rm_end (w := w) (a := a) (cap := cap) 1 h)
  rw [show nth (c :: N) 0 = c from rfl] at HC0
  rw [show (c :: N).drop 1 = N from rfl, show (c :: N).length - 1 = N.length from rfl] at HCUT HEND
  have hnn : (c :: N).length = N.length + 1 := rfl
  rw [hnn] at hcap HEND ⊢
  have HG := hide hg
  have HH := hide h
  clear hc hv hg hnn h
  have Z0 := hide (alloc_new w (.cells #[.int .i64 0, .int .i64 0, .int .i64 0, .int .i64 0, .int .i64 0, .int .i64 0, .slice none 0 0, .slice none 0 0] 26))
  have HB := hide ((Below.refl w.heap.size w).alloc (Nat.le_refl _) (.cells #[.int .i64 0, .int .i64 0, .int .i64 0, .int .i64 0, .int .i64 0, .int .i64 0, .slice none 0 0, .slice none 0 0] 26))
  have c0 := (HB.out.cell (p := ⟨g, off, none⟩) HG.out).trans HC0.out
  have k0 : (0 : Int) < ((N.length + 1 : Nat) : Int) := by omega
  have k1 : (1 : Int) ≤ ((N.length + 1 : Nat) : Int) := by omega
  obtain ⟨nn, hnn⟩ : ∃ n, n = N.length + 1 := ⟨_, rfl⟩
  rw [← hnn] at hcap HEND k0 k1 ⊢
  have HNN := hide hnn
  have hd : ((nn : Int) == 0) = false := by rw [beq_eq_false_iff_ne]; omega
  clear hnn
  have HFT := hide hF
  clear hF
  rw [errV_pos he] at HFT ⊢
  clear he
  have HF := hide (fun W : World => formOf_any cn W HH.out.2.1 HH.out.2.2)
  rw [← HH.out.1, hV] at HF
  clear hV
  go_enter Tryz.func10, Tryz.ntmps10
  go_wp2_with fail
  go_quiet (fail)
  have HRN : Hid (LN.RM w (.slice (if cap = 1 then some ⟨g, off, none⟩ else some ⟨g, off + 1, none⟩) N.length (cap - 1)) N) := hide (by
    split
    · have h1 := HEND.out (some ⟨g, off, none⟩) (cap - 1) (by omega)
      exact h1
    · exact HCUT.out)
  rw [show nn - 1 = N.length by have := HNN.out; omega]
  generalize (if cap = 1 then some (⟨g, off, none⟩ : Addr) else some ⟨g, off + 1, none⟩) = na at *
  generalize cap - 1 = nc at *
  have Z1 := hide (show ((w.alloc (.cells #[.int .i64 0, .int .i64 0, .int .i64 0, .int .i64 0, .int .i64 0, .int .i64 0, .slice none 0 0, .slice none 0 0] 26)).drewN nq).heap[w.heap.size]? = _ from Z0.out)
  have HB1 := hide (below_dN HB.out nq)
  generalize (w.alloc (.cells #[.int .i64 0, .int .i64 0, .int .i64 0, .int .i64 0, .int .i64 0, .int .i64 0, .slice none 0 0, .slice none 0 0] 26)).drewN nq = V at *
  clear c0 k0 k1 hd HC0 HCUT HEND HB Z0
  go_wp2_with fail
  refine (HF.out _).mono ?_
  rintro e w1 ⟨rfl, hb⟩
  have HB2 := hide (HB1.out.trans (hb.mono HB1.out.size))
  have HB3 := hide (HB2.out.alloc HB2.out.size (.cells #[.int .i64 a0, .int .i64 a1, .func (.func gr) #[] #[], .func (.func gw) #[] #[], .func (.func gl) #[] #[]] 56))
  have Z2 := hide (alloc_block (o := .cells #[.int .i64 a0, .int .i64 a1, .func (.func gr) #[] #[], .func (.func gw) #[] #[], .func (.func gl) #[] #[]] 56) (blk_later Z1.out hb))
  have Z3 := hide (alloc_new w1 (.cells #[.int .i64 a0, .int .i64 a1, .func (.func gr) #[] #[], .func (.func gw) #[] #[], .func (.func gl) #[] #[]] 56))
  have HR := hide (World.setRow_alloc_new w1 #[.int .i64 0, .int .i64 0, .nilFunc, .nilFunc, .nilFunc] #[.int .i64 a0, .int .i64 a1, .func (.func gr) #[] #[], .func (.func gw) #[] #[], .func (.func gl) #[] #[]] 56)
  have Z9 := hide (alloc_new w1 (.cells #[.int .i64 0, .int .i64 0, .nilFunc, .nilFunc, .nilFunc] 56))
  have hs1 : w.heap.size < w1.heap.size := (Array.getElem?_eq_some_iff.1 (blk_later Z1.out hb)).1
  clear hb
  rw [← HR.out] at HB3 Z2 Z3
  obtain ⟨z0, z1, z2, z3, z4⟩ := five_cells Z3.out rfl
  go_wp2_with (refine wpList_store_row rfl 56 (.tmp 6) _ rfl w1.heap.size #[.int .i64 a0, .int .i64 a1, .func (.func gr) #[] #[], .func (.func gw) #[] #[], .func (.func gl) #[] #[]] rfl rfl 56 _ Z9.out ?s2 ?s3 ?s4 ?_)
  case s2 => kernel_rfl
  case s3 => rfl
  case s4 => kernel_rfl
  generalize (w1.alloc (.cells #[.int .i64 0, .int .i64 0, .nilFunc, .nilFunc, .nilFunc] 56)).setRow w1.heap.size #[.int .i64 a0, .int .i64 a1, .func (.func gr) #[] #[], .func (.func gw) #[] #[], .func (.func gl) #[] #[]] = W3 at *
  refine (HFT.out _).mono ?_
  rintro e w4 ⟨rfl, hb⟩
  have HB4 := hide (HB3.out.trans (hb.mono HB3.out.size))
  have Z4 := hide (blk_later Z2.out hb)
  have Z5 := hide (blk_later Z3.out hb)
  clear hb z0 z1 z2 z3 z4
  go_wp2_with (first
    | (refine wpList_store_row rfl 26 (.tmp 2) _ rfl w.heap.size #[.int .i64 0, .int .i64 0, .int .i64 0, .int .i64 0, .int .i64 0, .int .i64 0, .slice none 0 0, .slice none 0 0] rfl rfl 26 _ Z4.out ?r2 ?r3 ?r4 ?_)
    | go_in)
  case r2 => kernel_rfl
  case r3 => rfl
  case r4 => first | rfl | kernel_rfl
  have hld := run_loadVar_row (P := Tryz.prog) _ _ 26 26 _ (0, 0) _ (setRow_heap _ _ _ #[.int .i64 0, .int .i64 0, .int .i64 0, .int .i64 0, .int .i64 0, .int .i64 0, .slice none 0 0, .slice none 0 0] _ _ Z4.out) Tryz.underlying26 rfl (by kernel_rfl)
  refine bodyPost_ret (v := .tuple #[.agg #[.int .i64 0, .int .i64 0, .int .i64 0, .int .i64 0, .int .i64 0, .int .i64 0, .slice none 0 0, .slice none 0 0], .iface 50 (.int .i64 e0)]) ?_ rfl ⟨rfl, below_row HB4.out (Nat.le_refl _)⟩
  rw [results_cell_tmp rfl]
  simp [asAddr, Result.andThen, hld]
set_option maxRecDepth 100000 in
set_option maxHeartbeats 4000000 in
theorem decode_ok (v : Value) (c : Int) (N : List Int) (w : World) (hv : LN.RM w v (c :: N)) (hl : N.length ≤ 17592186044002) (cn gr gw gl : Nat) (a0 a1 : Int) (h : c = (cn : Int) ∧ 1 ≤ cn ∧ cn ≤ 8) (hV : fmV cn = .agg #[.int .i64 a0, .int .i64 a1, .func (.func gr) #[] #[], .func (.func gw) #[] #[], .func (.func gl) #[] #[]]) (f1 f2 f3 f4 f5 : Int) (Ls : List LG.El) (Ps : List KY.El) (eg : ∀ args W, (callFunc gr args).run Tryz.prog W = .ok (.enter gr args) W) (hF : ∀ W, Calls Tryz.prog 22 #[.agg #[.int .i64 a0, .int .i64 a1, .func (.func gr) #[] #[], .func (.func gw) #[] #[], .func (.func gl) #[] #[]], .int .i64 (N.length : Int)] W fun e w' => e = .returned (errV 0) ∧ Below W.heap.size W w')
    (hR : ∀ (W : World) (nv : Value), LN.RM W nv N → Calls Tryz.prog gr #[nv] W fun e w' => ∃ lv pv, e = .returned (.agg #[.int .i64 0, .int .i64 f1, .int .i64 f2, .int .i64 f3, .int .i64 f4, .int .i64 f5, lv, pv]) ∧ LG.OM w' W.heap.size lv Ls ∧ KY.OM w' W.heap.size pv Ps ∧ Below W.heap.size W w') :
    Calls Tryz.prog 10 #[v] w fun e w' => ∃ lv pv, e = .returned (.tuple #[.agg #[.int .i64 c, .int .i64 f1, .int .i64 f2, .int .i64 f3, .int .i64 f4, .int .i64 f5, lv, pv], .nilIface]) ∧ LG.OM w' w.heap.size lv Ls ∧ KY.OM w' w.heap.size pv Ps ∧ Below w.heap.size w w' := by
  obtain ⟨g, off, cap, rfl, hcap, hg, hc⟩ := row_some hv (by simp)
  have HC0 := hide (hc 0 (by simp))
  have HCUT := hide (rm_cut hg hcap hc 1)
  have HEND := hide (fun (a : Option Addr) (cap : Nat) (h : (c :: N).length ≤ 1) => rm_end (w := w) (a := a) (cap := cap) 1 h)
  rw [show nth (c :: N) 0 = c from rfl] at HC0
  rw [show (c :: N).drop 1 = N from rfl, show (c :: N).length - 1 = N.length from rfl] at HCUT HEND
  have hnn : (c :: N).length = N.length + 1 := rfl
  rw [hnn] at hcap HEND ⊢
  have HG := hide hg
  have HH := hide h
  clear hc hv hg hnn h
  have Z0 := hide (alloc_new w (.cells #[.int .i64 0, .int .i64 0, .int .i64 0, .int .i64 0, .int .i64 0, .int .i64 0, .slice none 0 0, .slice none 0 0] 26))
  have HB := hide ((Below.refl w.heap.size w).alloc (Nat.le_refl _) (.cells #[.int .i64 0, .int .i64 0, .int .i64 0, .int .i64 0, .int .i64 0, .int .i64 0, .slice none 0 0, .slice none 0 0] 26))
  have c0 := (HB.out.cell (p := ⟨g, off, none⟩) HG.out).trans HC0.out
  have k0 : (0 : Int) < ((N.length + 1 : Nat) : Int) := by omega
  have k1 : (1 : Int) ≤ ((N.length + 1 : Nat) : Int) := by omega
  obtain ⟨nn, hnn⟩ : ∃ n, n = N.length + 1 := ⟨_, rfl⟩
  rw [← hnn] at hcap HEND k0 k1 ⊢
  have HNN := hide hnn
  have hd : ((nn : Int) == 0) = false := by rw [beq_eq_false_iff_ne]; omega
  clear hnn
  have HFT := hide hF
  have HRD := hide hR
  clear hF hR
  rw [errV_zero] at HFT
  have HF := hide (fun W : World => formOf_any cn W HH.out.2.1 HH.out.2.2)
  rw [← HH.out.1, hV] at HF
  clear hV
  go_enter Tryz.func10, Tryz.ntmps10
  go_wp2_with fail
  go_quiet (fail)
  have HRN : Hid (LN.RM w (.slice (if cap = 1 then some ⟨g, off, none⟩ else some ⟨g, off + 1, none⟩) N.length (cap - 1)) N) := hide (by
    split
    · have h1 := HEND.out (some ⟨g, off, none⟩) (cap - 1) (by omega)
      exact h1
    · exact HCUT.out)
  rw [show nn - 1 = N.length by have := HNN.out; omega]
  generalize (if cap = 1 then some (⟨g, off, none⟩ : Addr) else some ⟨g, off + 1, none⟩) = na at *
  generalize cap - 1 = nc at *
  have Z1 := hide (show ((w.alloc (.cells #[.int .i64 0, .int .i64 0, .int .i64 0, .int .i64 0, .int .i64 0, .int .i64 0, .slice none 0 0, .slice none 0 0] 26)).drewN nq).heap[w.heap.size]? = _ from Z0.out)
  have HB1 := hide (below_dN HB.out nq)
  generalize (w.alloc (.cells #[.int .i64 0, .int .i64 0, .int .i64 0, .int .i64 0, .int .i64 0, .int .i64 0, .slice none 0 0, .slice none 0 0] 26)).drewN nq = V at *
  clear c0 k0 k1 hd HC0 HCUT HEND HB Z0
  go_wp2_with fail
  refine (HF.out _).mono ?_
  rintro e w1 ⟨rfl, hb⟩
  have HB2 := hide (HB1.out.trans (hb.mono HB1.out.size))
  have HB3 := hide (HB2.out.alloc HB2.out.size (.cells #[.int .i64 a0, .int .i64 a1, .func (.func gr) #[] #[], .func (.func gw) #[] #[], .func (.func gl) #[] #[]] 56))
  have Z2 := hide (alloc_block (o := .cells #[.int .i64 a0, .int .i64 a1, .func (.func gr) #[] #[], .func (.func gw) #[] #[], .func (.func gl) #[] #[]] 56) (blk_later Z1.out hb))
  have Z3 := hide (alloc_new w1 (.cells #[.int .i64 a0, .int .i64 a1, .func (.func gr) #[] #[], .func (.func gw) #[] #[], .func (.func gl) #[] #[]] 56))
  have HR := hide (World.setRow_alloc_new w1 #[.int .i64 0, .int .i64 0, .nilFunc, .nilFunc, .nilFunc] #[.int .i64 a0, .int .i64 a1, .func (.func gr) #[] #[], .func (.func gw) #[] #[], .func (.func gl) #[] #[]] 56)
  have Z9 := hide (alloc_new w1 (.cells #[.int .i64 0, .int .i64 0, .nilFunc, .nilFunc, .nilFunc] 56))
  have hs1 : w.heap.size < w1.heap.size := (Array.getElem?_eq_some_iff.1 (blk_later Z1.out hb)).1
  clear hb
  rw [← HR.out] at HB3 Z2 Z3
  obtain ⟨z0, z1, z2, z3, z4⟩ := five_cells Z3.out rfl
  go_wp2_with (refine wpList_store_row rfl 56 (.tmp 6) _ rfl w1.heap.size #[.int .i64 a0, .int .i64 a1, .func (.func gr) #[] #[], .func (.func gw) #[] #[], .func (.func gl) #[] #[]] rfl rfl 56 _ Z9.out ?s2 ?s3 ?s4 ?_)
  case s2 => kernel_rfl
  case s3 => rfl
  case s4 => kernel_rfl
  generalize (w1.alloc (.cells #[.int .i64 0, .int .i64 0, .nilFunc, .nilFunc, .nilFunc] 56)).setRow w1.heap.size #[.int .i64 a0, .int .i64 a1, .func (.func gr) #[] #[], .func (.func gw) #[] #[], .func (.func gl) #[] #[]] = W3 at *
  refine (HFT.out _).mono ?_
  rintro e w4 ⟨rfl, hb⟩
  have HB4 := hide (HB3.out.trans (hb.mono HB3.out.size))
  have Z4 := hide (blk_later Z2.out hb)
  have Z5 := hide (blk_later Z3.out hb)
  clear hb z0 z1 z2 z3 z4
  obtain ⟨z0, z1, z2, z3, z4⟩ := five_cells Z5.out rfl
  go_wp2_with fail
  refine (HRD.out _ _ (HRN.out.later HB4.out)).mono ?_
  rintro e w5 ⟨lv, pv, rfl, hL, hP, hb⟩
  obtain ⟨la, lc, rfl⟩ := LG.rm_lt hL.rm
  obtain ⟨pa, pc, rfl⟩ := KY.rm_lt hP.rm
  have HB5 := hide (HB4.out.trans (hb.mono HB4.out.size))
  have HB6 := hide (HB5.out.alloc HB5.out.size (.cells #[.int .i64 c, .int .i64 f1, .int .i64 f2, .int .i64 f3, .int .i64 f4, .int .i64 f5, .slice la Ls.length lc, .slice pa Ps.length pc] 26))
  have Z6 := hide (alloc_block (o := .cells #[.int .i64 c, .int .i64 f1, .int .i64 f2, .int .i64 f3, .int .i64 f4, .int .i64 f5, .slice la Ls.length lc, .slice pa Ps.length pc] 26) (blk_later Z4.out hb))
  have HL6 := hide (World.ownsRow.alloc hL (.cells #[.int .i64 c, .int .i64 f1, .int .i64 f2, .int .i64 f3, .int .i64 f4, .int .i64 f5, .slice la Ls.length lc, .slice pa Ps.length pc] 26))
  have HP6 := hide (World.ownsRow.alloc hP (.cells #[.int .i64 c, .int .i64 f1, .int .i64 f2, .int .i64 f3, .int .i64 f4, .int .i64 f5, .slice la Ls.length lc, .slice pa Ps.length pc] 26))
  have h4 : w.heap.size < w4.heap.size := (Array.getElem?_eq_some_iff.1 Z4.out).1
  clear hL hP hb z0 z1 z2 z3 z4
  go_wp2_with (first
    | (refine wpList_store_row rfl 26 (.tmp 2) _ rfl w.heap.size #[.int .i64 c, .int .i64 f1, .int .i64 f2, .int .i64 f3, .int .i64 f4, .int .i64 f5, .slice la Ls.length lc, .slice pa Ps.length pc] rfl rfl 26 _ Z6.out ?r2 ?r3 ?r4 ?_)
    | go_in)
  case r2 => kernel_rfl
  case r3 => rfl
  case r4 => first | rfl | kernel_rfl
  have hld := run_loadVar_row (P := Tryz.prog) _ _ 26 26 _ (0, 0) _ (setRow_heap _ _ _ #[.int .i64 c, .int .i64 f1, .int .i64 f2, .int .i64 f3, .int .i64 f4, .int .i64 f5, .slice la Ls.length lc, .slice pa Ps.length pc] _ _ Z6.out) Tryz.underlying26 rfl (by kernel_rfl)
  refine bodyPost_ret (v := .tuple #[.agg #[.int .i64 c, .int .i64 f1, .int .i64 f2, .int .i64 f3, .int .i64 f4, .int .i64 f5, .slice la Ls.length lc, .slice pa Ps.length pc], .nilIface]) ?_ rfl ⟨_, _, rfl, ?_, ?_, below_row HB6.out (Nat.le_refl _)⟩
  · rw [results_cell_tmp rfl]
    simp [asAddr, Result.andThen, hld]
  · exact World.ownsRow.mono (owns_blk HL6.out (fun b hb => setRow_other _ _ _ _ (by have := (World.ownsRow.lt HL6.out b hb).1; omega))) (by omega)
  · exact World.ownsRow.mono (owns_blk HP6.out (fun b hb => setRow_other _ _ _ _ (by have := (World.ownsRow.lt HP6.out b hb).1; omega))) (by omega)
end Go.Proofs.YtdiamlajmcikhaaGreatDoor
