/-
  My own text: layer 22: what the document's Fit answers (printed by mkmf7.py).
-/
import Derived.Test.YtdfhfjkcafchiaaDoorMF7a
namespace Go.Proofs.YtdfhfjkcafchiaaDoor
open Go.RowKit LC

set_option maxRecDepth 100000 in
set_option maxHeartbeats 40000000 in
theorem fit_out (p q : Int) (n m : Ntc) (v u bv : Value) (bs : List (List UInt8)) (t : Int) (w : World) (hn : NOk n) (hm : NOk m) (ha : I64 n.amt) (hb : I64 m.amt) (ht : I64 t) (hvo : v.oneCell' = true) (huo : u.oneCell' = true)
    (hv : RT w bv bs) (hs : ∀ s ∈ bs, s.length ≤ 140737488355328) (H : out3 n m) :
    Calls Tryd.prog 4 #[.agg (sC p n v), .agg (sC q m u), bv, .int .i64 t] w fun e w' => e = .returned (.tuple #[.int .i64 (fitV p n q m bs t).1, .bool (fitV p n q m bs t).2]) ∧ Below w.heap.size w w' := by
  obtain ⟨ref, prev, cn, rc, py, tr, st, code, qty, acc, agt, oth, amt, cur, pri⟩ := n
  obtain ⟨ref2, prev2, cn2, rc2, py2, tr2, st2, code2, qty2, acc2, agt2, oth2, amt2, cur2, pri2⟩ := m
  unfold out3 at H
  dsimp only at H
  have HH := hide H
  clear H
  obtain ⟨W1, hW1⟩ : ∃ W, w.alloc (.cells (sC p ⟨ref, prev, cn, rc, py, tr, st, code, qty, acc, agt, oth, amt, cur, pri⟩ v) 28) = W := ⟨_, rfl⟩
  have hr1 : W1.heap[w.heap.size]? = some (.cells (sC p ⟨ref, prev, cn, rc, py, tr, st, code, qty, acc, agt, oth, amt, cur, pri⟩ v) 28 (0, 0)) := by rw [← hW1]; exact LC.alloc_new w _
  obtain ⟨W2, hW2⟩ : ∃ W, W1.alloc (.cells (sC q ⟨ref2, prev2, cn2, rc2, py2, tr2, st2, code2, qty2, acc2, agt2, oth2, amt2, cur2, pri2⟩ u) 28) = W := ⟨_, rfl⟩
  have hr2 : W2.heap[w.heap.size]? = some (.cells (sC p ⟨ref, prev, cn, rc, py, tr, st, code, qty, acc, agt, oth, amt, cur, pri⟩ v) 28 (0, 0)) := by rw [← hW2]; exact LC.alloc_block hr1
  have hq2 : W2.heap[W1.heap.size]? = some (.cells (sC q ⟨ref2, prev2, cn2, rc2, py2, tr2, st2, code2, qty2, acc2, agt2, oth2, amt2, cur2, pri2⟩ u) 28 (0, 0)) := by rw [← hW2]; exact LC.alloc_new W1 _
  obtain ⟨W3, hW3⟩ : ∃ W, W2.alloc (.cells (nC ⟨ref, prev, cn, rc, py, tr, st, code, qty, acc, agt, oth, amt, cur, pri⟩ v) 26) = W := ⟨_, rfl⟩
  have hq3 : W3.heap[W1.heap.size]? = some (.cells (sC q ⟨ref2, prev2, cn2, rc2, py2, tr2, st2, code2, qty2, acc2, agt2, oth2, amt2, cur2, pri2⟩ u) 28 (0, 0)) := by rw [← hW3]; exact LC.alloc_block hq2
  have hx3 : Bx W3 W2.heap.size ⟨ref, prev, cn, rc, py, tr, st, code, qty, acc, agt, oth, amt, cur, pri⟩ v := by rw [← hW3]; exact Bx.new W2 _ v
  obtain ⟨W4, hW4⟩ : ∃ W, W3.alloc (.cells (nC ⟨ref2, prev2, cn2, rc2, py2, tr2, st2, code2, qty2, acc2, agt2, oth2, amt2, cur2, pri2⟩ u) 26) = W := ⟨_, rfl⟩
  have hx : Bx W4 W2.heap.size ⟨ref, prev, cn, rc, py, tr, st, code, qty, acc, agt, oth, amt, cur, pri⟩ v := by rw [← hW4]; exact hx3.alloc _
  have hy : Bx W4 W3.heap.size ⟨ref2, prev2, cn2, rc2, py2, tr2, st2, code2, qty2, acc2, agt2, oth2, amt2, cur2, pri2⟩ u := by rw [← hW4]; exact Bx.new W3 _ u
  have hsx : W4.heap[w.heap.size]? = some (.cells (sC p ⟨ref, prev, cn, rc, py, tr, st, code, qty, acc, agt, oth, amt, cur, pri⟩ v) 28 (0, 0)) := by rw [← hW4, ← hW3]; exact LC.alloc_block (LC.alloc_block hr2)
  have hsy : W4.heap[W1.heap.size]? = some (.cells (sC q ⟨ref2, prev2, cn2, rc2, py2, tr2, st2, code2, qty2, acc2, agt2, oth2, amt2, cur2, pri2⟩ u) 28 (0, 0)) := by rw [← hW4]; exact LC.alloc_block hq3
  have hb1 : Below w.heap.size w W1 := by rw [← hW1]; exact (Below.refl _ _).alloc (Nat.le_refl _) _
  have hb2 : Below w.heap.size w W2 := by rw [← hW2]; exact hb1.alloc hb1.size _
  have hb3 : Below w.heap.size w W3 := by rw [← hW3]; exact hb2.alloc hb2.size _
  have HB : Hid (Below w.heap.size w W4) := hide (by rw [← hW4]; exact hb3.alloc hb3.size _)
  have R1 := hide (sC_range hr2)
  have R2 := hide (sC_range hq3)
  have HZ1 : Hid ((Tryd.prog.info? 26).map (·.size) = some (nC ⟨ref, prev, cn, rc, py, tr, st, code, qty, acc, agt, oth, amt, cur, pri⟩ v).size) := by show _ = _; rw [nC_size _ v hn.code]; exact Tryd.sizeNtc6
  have HZ2 : Hid ((Tryd.prog.info? 26).map (·.size) = some (nC ⟨ref2, prev2, cn2, rc2, py2, tr2, st2, code2, qty2, acc2, agt2, oth2, amt2, cur2, pri2⟩ u).size) := by show _ = _; rw [nC_size _ u hm.code]; exact Tryd.sizeNtc6
  have HO1 := hide (nC_one ⟨ref, prev, cn, rc, py, tr, st, code, qty, acc, agt, oth, amt, cur, pri⟩ v hvo)
  have HO2 := hide (nC_one ⟨ref2, prev2, cn2, rc2, py2, tr2, st2, code2, qty2, acc2, agt2, oth2, amt2, cur2, pri2⟩ u huo)
  have HS1 := hide (nC_size ⟨ref, prev, cn, rc, py, tr, st, code, qty, acc, agt, oth, amt, cur, pri⟩ v hn.code)
  have HS2 := hide (nC_size ⟨ref2, prev2, cn2, rc2, py2, tr2, st2, code2, qty2, acc2, agt2, oth2, amt2, cur2, pri2⟩ u hm.code)
  have SX : Hid (W4.cell? ⟨w.heap.size, 0, none⟩ = some (.int .i64 p)) := hide (sC_cell hsx)
  have SY : Hid (W4.cell? ⟨W1.heap.size, 0, none⟩ = some (.int .i64 q)) := hide (sC_cell hsy)
  have GX : Hid (W4.rangeAt W2.heap.size 7 (cel code).toList) := hide (hx.code hn.code)
  have GY : Hid (W4.rangeAt W3.heap.size 7 (cel code2).toList) := hide (hy.code hm.code)
  have HL1 : Hid (code.length = 12) := hide hn.code
  have HL2 : Hid (code2.length = 12) := hide hm.code
  have GE := hide (ne_isin code code2 hn.code hm.code)
  have HG1 : Hid (agt.length ≤ 140737488355328) := hide hn.agt
  have HG2 : Hid (agt2.length ≤ 140737488355328) := hide hm.agt
  have HA := hide ha
  have HBb := hide hb
  have HT := hide ht
  have HV := hide (hv.later HB.out)
  have HSS := hide hs
  have X2 : Hid (W4.cell? ⟨W2.heap.size, 2, none⟩ = some (.bool cn)) := hide (hx.cn hn.code)
  have Y2 : Hid (W4.cell? ⟨W3.heap.size, 2, none⟩ = some (.bool cn2)) := hide (hy.cn hm.code)
  have X3 : Hid (W4.cell? ⟨W2.heap.size, 3, none⟩ = some (.bool rc)) := hide (hx.rc hn.code)
  have Y3 : Hid (W4.cell? ⟨W3.heap.size, 3, none⟩ = some (.bool rc2)) := hide (hy.rc hm.code)
  have X4 : Hid (W4.cell? ⟨W2.heap.size, 4, none⟩ = some (.bool py)) := hide (hx.py hn.code)
  have Y4 : Hid (W4.cell? ⟨W3.heap.size, 4, none⟩ = some (.bool py2)) := hide (hy.py hm.code)
  have X5 : Hid (W4.cell? ⟨W2.heap.size, 5, none⟩ = some (.int .i64 tr)) := hide (hx.tr hn.code)
  have Y5 : Hid (W4.cell? ⟨W3.heap.size, 5, none⟩ = some (.int .i64 tr2)) := hide (hy.tr hm.code)
  have X6 : Hid (W4.cell? ⟨W2.heap.size, 6, none⟩ = some (.int .i64 st)) := hide (hx.st hn.code)
  have Y6 : Hid (W4.cell? ⟨W3.heap.size, 6, none⟩ = some (.int .i64 st2)) := hide (hy.st hm.code)
  have X19 : Hid (W4.cell? ⟨W2.heap.size, 19, none⟩ = some (.int .i64 qty)) := hide (hx.qty hn.code)
  have Y19 : Hid (W4.cell? ⟨W3.heap.size, 19, none⟩ = some (.int .i64 qty2)) := hide (hy.qty hm.code)
  have X20 : Hid (W4.cell? ⟨W2.heap.size, 20, none⟩ = some (.string ⟨acc.toArray⟩)) := hide (hx.acc hn.code)
  have Y20 : Hid (W4.cell? ⟨W3.heap.size, 20, none⟩ = some (.string ⟨acc2.toArray⟩)) := hide (hy.acc hm.code)
  have X21 : Hid (W4.cell? ⟨W2.heap.size, 21, none⟩ = some (.string ⟨agt.toArray⟩)) := hide (hx.agt hn.code)
  have Y21 : Hid (W4.cell? ⟨W3.heap.size, 21, none⟩ = some (.string ⟨agt2.toArray⟩)) := hide (hy.agt hm.code)
  have X22 : Hid (W4.cell? ⟨W2.heap.size, 22, none⟩ = some (.string ⟨oth.toArray⟩)) := hide (hx.oth hn.code)
  have Y22 : Hid (W4.cell? ⟨W3.heap.size, 22, none⟩ = some (.string ⟨oth2.toArray⟩)) := hide (hy.oth hm.code)
  have X23 : Hid (W4.cell? ⟨W2.heap.size, 23, none⟩ = some (.int .i64 amt)) := hide (hx.amt hn.code)
  have Y23 : Hid (W4.cell? ⟨W3.heap.size, 23, none⟩ = some (.int .i64 amt2)) := hide (hy.amt hm.code)
  have X24 : Hid (W4.cell? ⟨W2.heap.size, 24, none⟩ = some (.string ⟨cur.toArray⟩)) := hide (hx.cur hn.code)
  have Y24 : Hid (W4.cell? ⟨W3.heap.size, 24, none⟩ = some (.string ⟨cur2.toArray⟩)) := hide (hy.cur hm.code)
  obtain ⟨F, hF⟩ : ∃ F, fitV p ⟨ref, prev, cn, rc, py, tr, st, code, qty, acc, agt, oth, amt, cur, pri⟩ q ⟨ref2, prev2, cn2, rc2, py2, tr2, st2, code2, qty2, acc2, agt2, oth2, amt2, cur2, pri2⟩ bs t = F := ⟨_, rfl⟩
  rw [hF]
  unfold fitV at hF
  dsimp only at hF
  obtain ⟨N0, hN0⟩ : ∃ x, nC ⟨ref, prev, cn, rc, py, tr, st, code, qty, acc, agt, oth, amt, cur, pri⟩ v = x := ⟨_, rfl⟩
  obtain ⟨M0, hM0⟩ : ∃ x, nC ⟨ref2, prev2, cn2, rc2, py2, tr2, st2, code2, qty2, acc2, agt2, oth2, amt2, cur2, pri2⟩ u = x := ⟨_, rfl⟩
  have R1' : Hid (W2.rangeAt w.heap.size 1 N0.toList) := hide (by rw [← hN0]; exact R1.out)
  have R2' : Hid (W3.rangeAt W1.heap.size 1 M0.toList) := hide (by rw [← hM0]; exact R2.out)
  rw [hN0] at HZ1 HO1 HS1 hW3
  rw [hM0] at HZ2 HO2 HS2 hW4
  obtain ⟨SN, hSN⟩ : ∃ x, sC p ⟨ref, prev, cn, rc, py, tr, st, code, qty, acc, agt, oth, amt, cur, pri⟩ v = x := ⟨_, rfl⟩
  obtain ⟨SM, hSM⟩ : ∃ x, sC q ⟨ref2, prev2, cn2, rc2, py2, tr2, st2, code2, qty2, acc2, agt2, oth2, amt2, cur2, pri2⟩ u = x := ⟨_, rfl⟩
  rw [hSN] at hW1 ⊢
  rw [hSM] at hW2 ⊢
  clear hr1 hr2 hq2 hq3 hx3 hx hy hsx hsy hb1 hb2 hb3 hSN hSM hn hm hvo huo hN0 hM0 R1 R2 ha hb ht hv hs
  by_cases h1 : rc = true
  · rw [if_pos h1] at hF
    subst h1
    subst hF
    have x3 := X3.out
    go_enter Tryd.func4, Tryd.ntmps4
    go_wp2_with (first
      | (refine wpList_load_mid rfl 26 (.tmp 12) rfl w.heap.size 1 rfl N0.toList _ R1'.out Tryd.underlying26 rfl (by rw [Array.length_toList]; exact HZ1.out) ?_; rw [Array.toArray_toList])
      | (refine wpList_store_row rfl 26 (.tmp 10) _ rfl W2.heap.size N0 rfl rfl _ _ (LC.alloc_new W2 _) HZ1.out (by rw [HS1.out]; rfl) HO1.out ?_; rw [World.setRow_alloc_new])
      | (refine wpList_load_mid rfl 26 (.tmp 14) rfl W1.heap.size 1 rfl M0.toList _ R2'.out Tryd.underlying26 rfl (by rw [Array.length_toList]; exact HZ2.out) ?_; rw [Array.toArray_toList])
      | (refine wpList_store_row rfl 26 (.tmp 11) _ rfl W3.heap.size M0 rfl rfl _ _ (LC.alloc_new W3 _) HZ2.out (by rw [HS2.out]; rfl) HO2.out ?_; rw [World.setRow_alloc_new]))
    go_ret2
    exact ⟨rfl, HB.out⟩
  rw [if_neg h1] at hF
  obtain rfl : rc = false := by simpa using h1
  by_cases h2 : rc2 = false
  · rw [if_pos h2] at hF
    subst h2
    subst hF
    have x3 := X3.out
    have y3 := Y3.out
    go_enter Tryd.func4, Tryd.ntmps4
    go_wp2_with (first
      | (refine wpList_load_mid rfl 26 (.tmp 12) rfl w.heap.size 1 rfl N0.toList _ R1'.out Tryd.underlying26 rfl (by rw [Array.length_toList]; exact HZ1.out) ?_; rw [Array.toArray_toList])
      | (refine wpList_store_row rfl 26 (.tmp 10) _ rfl W2.heap.size N0 rfl rfl _ _ (LC.alloc_new W2 _) HZ1.out (by rw [HS1.out]; rfl) HO1.out ?_; rw [World.setRow_alloc_new])
      | (refine wpList_load_mid rfl 26 (.tmp 14) rfl W1.heap.size 1 rfl M0.toList _ R2'.out Tryd.underlying26 rfl (by rw [Array.length_toList]; exact HZ2.out) ?_; rw [Array.toArray_toList])
      | (refine wpList_store_row rfl 26 (.tmp 11) _ rfl W3.heap.size M0 rfl rfl _ _ (LC.alloc_new W3 _) HZ2.out (by rw [HS2.out]; rfl) HO2.out ?_; rw [World.setRow_alloc_new]))
    go_ret2
    exact ⟨rfl, HB.out⟩
  rw [if_neg h2] at hF
  obtain rfl : rc2 = true := by simpa using h2
  by_cases h3 : cn = true
  · rw [if_pos h3] at hF
    subst h3
    subst hF
    have x3 := X3.out
    have y3 := Y3.out
    have x2 := X2.out
    go_enter Tryd.func4, Tryd.ntmps4
    go_wp2_with (first
      | (refine wpList_load_mid rfl 26 (.tmp 12) rfl w.heap.size 1 rfl N0.toList _ R1'.out Tryd.underlying26 rfl (by rw [Array.length_toList]; exact HZ1.out) ?_; rw [Array.toArray_toList])
      | (refine wpList_store_row rfl 26 (.tmp 10) _ rfl W2.heap.size N0 rfl rfl _ _ (LC.alloc_new W2 _) HZ1.out (by rw [HS1.out]; rfl) HO1.out ?_; rw [World.setRow_alloc_new])
      | (refine wpList_load_mid rfl 26 (.tmp 14) rfl W1.heap.size 1 rfl M0.toList _ R2'.out Tryd.underlying26 rfl (by rw [Array.length_toList]; exact HZ2.out) ?_; rw [Array.toArray_toList])
      | (refine wpList_store_row rfl 26 (.tmp 11) _ rfl W3.heap.size M0 rfl rfl _ _ (LC.alloc_new W3 _) HZ2.out (by rw [HS2.out]; rfl) HO2.out ?_; rw [World.setRow_alloc_new]))
    go_ret2
    exact ⟨rfl, HB.out⟩
  rw [if_neg h3] at hF
  obtain rfl : cn = false := by simpa using h3
  by_cases h4 : cn2 = true
  · rw [if_pos h4] at hF
    subst h4
    subst hF
    have x3 := X3.out
    have y3 := Y3.out
    have x2 := X2.out
    have y2 := Y2.out
    go_enter Tryd.func4, Tryd.ntmps4
    go_wp2_with (first
      | (refine wpList_load_mid rfl 26 (.tmp 12) rfl w.heap.size 1 rfl N0.toList _ R1'.out Tryd.underlying26 rfl (by rw [Array.length_toList]; exact HZ1.out) ?_; rw [Array.toArray_toList])
      | (refine wpList_store_row rfl 26 (.tmp 10) _ rfl W2.heap.size N0 rfl rfl _ _ (LC.alloc_new W2 _) HZ1.out (by rw [HS1.out]; rfl) HO1.out ?_; rw [World.setRow_alloc_new])
      | (refine wpList_load_mid rfl 26 (.tmp 14) rfl W1.heap.size 1 rfl M0.toList _ R2'.out Tryd.underlying26 rfl (by rw [Array.length_toList]; exact HZ2.out) ?_; rw [Array.toArray_toList])
      | (refine wpList_store_row rfl 26 (.tmp 11) _ rfl W3.heap.size M0 rfl rfl _ _ (LC.alloc_new W3 _) HZ2.out (by rw [HS2.out]; rfl) HO2.out ?_; rw [World.setRow_alloc_new]))
    go_ret2
    exact ⟨rfl, HB.out⟩
  rw [if_neg h4] at hF
  obtain rfl : cn2 = false := by simpa using h4
  by_cases h5 : tr ≠ tr2
  · rw [if_pos h5] at hF
    have k1 : (tr != tr2) = true := by simpa using h5
    have k2 : decide (tr ≠ tr2) = true := decide_eq_true h5
    have k3 : (tr == tr2) = false := by simpa using h5
    have k4 : ¬ tr = tr2 := h5
    subst hF
    have x3 := X3.out
    have y3 := Y3.out
    have x2 := X2.out
    have y2 := Y2.out
    have x5 := X5.out
    have y5 := Y5.out
    go_enter Tryd.func4, Tryd.ntmps4
    go_wp2_with (first
      | (refine wpList_load_mid rfl 26 (.tmp 12) rfl w.heap.size 1 rfl N0.toList _ R1'.out Tryd.underlying26 rfl (by rw [Array.length_toList]; exact HZ1.out) ?_; rw [Array.toArray_toList])
      | (refine wpList_store_row rfl 26 (.tmp 10) _ rfl W2.heap.size N0 rfl rfl _ _ (LC.alloc_new W2 _) HZ1.out (by rw [HS1.out]; rfl) HO1.out ?_; rw [World.setRow_alloc_new])
      | (refine wpList_load_mid rfl 26 (.tmp 14) rfl W1.heap.size 1 rfl M0.toList _ R2'.out Tryd.underlying26 rfl (by rw [Array.length_toList]; exact HZ2.out) ?_; rw [Array.toArray_toList])
      | (refine wpList_store_row rfl 26 (.tmp 11) _ rfl W3.heap.size M0 rfl rfl _ _ (LC.alloc_new W3 _) HZ2.out (by rw [HS2.out]; rfl) HO2.out ?_; rw [World.setRow_alloc_new]))
    go_ret2
    exact ⟨rfl, HB.out⟩
  rw [if_neg h5] at hF
  obtain rfl : tr = tr2 := Decidable.not_not.1 h5
  by_cases h6 : st ≠ st2
  · rw [if_pos h6] at hF
    have k1 : (st != st2) = true := by simpa using h6
    have k2 : decide (st ≠ st2) = true := decide_eq_true h6
    have k3 : (st == st2) = false := by simpa using h6
    have k4 : ¬ st = st2 := h6
    subst hF
    have x3 := X3.out
    have y3 := Y3.out
    have x2 := X2.out
    have y2 := Y2.out
    have x5 := X5.out
    have y5 := Y5.out
    have x6 := X6.out
    have y6 := Y6.out
    go_enter Tryd.func4, Tryd.ntmps4
    go_wp2_with (first
      | (refine wpList_load_mid rfl 26 (.tmp 12) rfl w.heap.size 1 rfl N0.toList _ R1'.out Tryd.underlying26 rfl (by rw [Array.length_toList]; exact HZ1.out) ?_; rw [Array.toArray_toList])
      | (refine wpList_store_row rfl 26 (.tmp 10) _ rfl W2.heap.size N0 rfl rfl _ _ (LC.alloc_new W2 _) HZ1.out (by rw [HS1.out]; rfl) HO1.out ?_; rw [World.setRow_alloc_new])
      | (refine wpList_load_mid rfl 26 (.tmp 14) rfl W1.heap.size 1 rfl M0.toList _ R2'.out Tryd.underlying26 rfl (by rw [Array.length_toList]; exact HZ2.out) ?_; rw [Array.toArray_toList])
      | (refine wpList_store_row rfl 26 (.tmp 11) _ rfl W3.heap.size M0 rfl rfl _ _ (LC.alloc_new W3 _) HZ2.out (by rw [HS2.out]; rfl) HO2.out ?_; rw [World.setRow_alloc_new]))
    go_ret2
    exact ⟨rfl, HB.out⟩
  rw [if_neg h6] at hF
  obtain rfl : st = st2 := Decidable.not_not.1 h6
  by_cases h7 : code ≠ code2
  · rw [if_pos h7] at hF
    have ge := GE.out
    rw [decide_eq_true h7] at ge
    subst hF
    have x3 := X3.out
    have y3 := Y3.out
    have x2 := X2.out
    have y2 := Y2.out
    have x5 := X5.out
    have y5 := Y5.out
    have x6 := X6.out
    have y6 := Y6.out
    go_enter Tryd.func4, Tryd.ntmps4
    go_wp2_with (first
      | (refine wpList_load_mid rfl 26 (.tmp 12) rfl w.heap.size 1 rfl N0.toList _ R1'.out Tryd.underlying26 rfl (by rw [Array.length_toList]; exact HZ1.out) ?_; rw [Array.toArray_toList])
      | (refine wpList_store_row rfl 26 (.tmp 10) _ rfl W2.heap.size N0 rfl rfl _ _ (LC.alloc_new W2 _) HZ1.out (by rw [HS1.out]; rfl) HO1.out ?_; rw [World.setRow_alloc_new])
      | (refine wpList_load_mid rfl 26 (.tmp 14) rfl W1.heap.size 1 rfl M0.toList _ R2'.out Tryd.underlying26 rfl (by rw [Array.length_toList]; exact HZ2.out) ?_; rw [Array.toArray_toList])
      | (refine wpList_store_row rfl 26 (.tmp 11) _ rfl W3.heap.size M0 rfl rfl _ _ (LC.alloc_new W3 _) HZ2.out (by rw [HS2.out]; rfl) HO2.out ?_; rw [World.setRow_alloc_new])
      | (refine wpList_load_midW (by rfl) 23 (.tmp 46) rfl W2.heap.size 7 rfl (cel code).toList _ GX.out Tryd.underlying23 rfl (by rw [Array.length_toList, cel_size, HL1.out]; exact Tryd.sizeIsin6) ?_; rw [Array.toArray_toList])
      | (refine wpList_load_midW (by rfl) 23 (.tmp 48) rfl W3.heap.size 7 rfl (cel code2).toList _ GY.out Tryd.underlying23 rfl (by rw [Array.length_toList, cel_size, HL2.out]; exact Tryd.sizeIsin6) ?_; rw [Array.toArray_toList]))
    go_ret2
    exact ⟨rfl, HB.out⟩
  rw [if_neg h7] at hF
  obtain rfl : code = code2 := Decidable.not_not.1 h7
  by_cases h8 : qty ≠ qty2
  · rw [if_pos h8] at hF
    have k1 : (qty != qty2) = true := by simpa using h8
    have k2 : decide (qty ≠ qty2) = true := decide_eq_true h8
    have k3 : (qty == qty2) = false := by simpa using h8
    have k4 : ¬ qty = qty2 := h8
    subst hF
    have x3 := X3.out
    have y3 := Y3.out
    have x2 := X2.out
    have y2 := Y2.out
    have x5 := X5.out
    have y5 := Y5.out
    have x6 := X6.out
    have y6 := Y6.out
    have x19 := X19.out
    have y19 := Y19.out
    have ge := GE.out
    rw [decide_eq_false h7] at ge
    go_enter Tryd.func4, Tryd.ntmps4
    go_wp2_with (first
      | (refine wpList_load_mid rfl 26 (.tmp 12) rfl w.heap.size 1 rfl N0.toList _ R1'.out Tryd.underlying26 rfl (by rw [Array.length_toList]; exact HZ1.out) ?_; rw [Array.toArray_toList])
      | (refine wpList_store_row rfl 26 (.tmp 10) _ rfl W2.heap.size N0 rfl rfl _ _ (LC.alloc_new W2 _) HZ1.out (by rw [HS1.out]; rfl) HO1.out ?_; rw [World.setRow_alloc_new])
      | (refine wpList_load_mid rfl 26 (.tmp 14) rfl W1.heap.size 1 rfl M0.toList _ R2'.out Tryd.underlying26 rfl (by rw [Array.length_toList]; exact HZ2.out) ?_; rw [Array.toArray_toList])
      | (refine wpList_store_row rfl 26 (.tmp 11) _ rfl W3.heap.size M0 rfl rfl _ _ (LC.alloc_new W3 _) HZ2.out (by rw [HS2.out]; rfl) HO2.out ?_; rw [World.setRow_alloc_new])
      | (refine wpList_load_midW (by rfl) 23 (.tmp 46) rfl W2.heap.size 7 rfl (cel code).toList _ GX.out Tryd.underlying23 rfl (by rw [Array.length_toList, cel_size, HL1.out]; exact Tryd.sizeIsin6) ?_; rw [Array.toArray_toList])
      | (refine wpList_load_midW (by rfl) 23 (.tmp 48) rfl W3.heap.size 7 rfl (cel code).toList _ GY.out Tryd.underlying23 rfl (by rw [Array.length_toList, cel_size, HL2.out]; exact Tryd.sizeIsin6) ?_; rw [Array.toArray_toList]))
    go_ret2
    exact ⟨rfl, HB.out⟩
  rw [if_neg h8] at hF
  obtain rfl : qty = qty2 := Decidable.not_not.1 h8
  by_cases h9 : py ≠ py2
  · rw [if_pos h9] at hF
    obtain rfl : py2 = !py := by cases py <;> cases py2 <;> simp_all
    subst hF
    have x3 := X3.out
    have y3 := Y3.out
    have x2 := X2.out
    have y2 := Y2.out
    have x5 := X5.out
    have y5 := Y5.out
    have x6 := X6.out
    have y6 := Y6.out
    have x19 := X19.out
    have y19 := Y19.out
    have x4 := X4.out
    have y4 := Y4.out
    have ge := GE.out
    rw [decide_eq_false h7] at ge
    cases py
    all_goals (
      go_enter Tryd.func4, Tryd.ntmps4
      go_wp2_with (first
        | (refine wpList_load_mid rfl 26 (.tmp 12) rfl w.heap.size 1 rfl N0.toList _ R1'.out Tryd.underlying26 rfl (by rw [Array.length_toList]; exact HZ1.out) ?_; rw [Array.toArray_toList])
        | (refine wpList_store_row rfl 26 (.tmp 10) _ rfl W2.heap.size N0 rfl rfl _ _ (LC.alloc_new W2 _) HZ1.out (by rw [HS1.out]; rfl) HO1.out ?_; rw [World.setRow_alloc_new])
        | (refine wpList_load_mid rfl 26 (.tmp 14) rfl W1.heap.size 1 rfl M0.toList _ R2'.out Tryd.underlying26 rfl (by rw [Array.length_toList]; exact HZ2.out) ?_; rw [Array.toArray_toList])
        | (refine wpList_store_row rfl 26 (.tmp 11) _ rfl W3.heap.size M0 rfl rfl _ _ (LC.alloc_new W3 _) HZ2.out (by rw [HS2.out]; rfl) HO2.out ?_; rw [World.setRow_alloc_new])
        | (refine wpList_load_midW (by rfl) 23 (.tmp 46) rfl W2.heap.size 7 rfl (cel code).toList _ GX.out Tryd.underlying23 rfl (by rw [Array.length_toList, cel_size, HL1.out]; exact Tryd.sizeIsin6) ?_; rw [Array.toArray_toList])
        | (refine wpList_load_midW (by rfl) 23 (.tmp 48) rfl W3.heap.size 7 rfl (cel code).toList _ GY.out Tryd.underlying23 rfl (by rw [Array.length_toList, cel_size, HL2.out]; exact Tryd.sizeIsin6) ?_; rw [Array.toArray_toList]))
      go_ret2
      exact ⟨rfl, HB.out⟩)
  rw [if_neg h9] at hF
  obtain rfl : py = py2 := Decidable.not_not.1 h9
  exact absurd HH.out (by simp)
end Go.Proofs.YtdfhfjkcafchiaaDoor
