/-
  My own text: layer 22: what the document's Fit answers (printed by mkmf8.py).
-/
import Derived.Test.YtdfhfjkcafchiaaDoorMF7a
namespace Go.Proofs.YtdfhfjkcafchiaaDoor
open Go.RowKit LC

set_option maxRecDepth 100000 in
set_option maxHeartbeats 40000000 in
theorem fit_in (p q : Int) (n m : Ntc) (v u bv : Value) (bs : List (List UInt8)) (t : Int) (w : World) (hn : NOk n) (hm : NOk m) (ha : I64 n.amt) (hb : I64 m.amt) (ht : I64 t) (hvo : v.oneCell' = true) (huo : u.oneCell' = true)
    (hv : RT w bv bs) (hs : ∀ s ∈ bs, s.length ≤ 140737488355328) (H : ¬ out3 n m) :
    Calls Tryd.prog 4 #[.agg (sC p n v), .agg (sC q m u), bv, .int .i64 t] w fun e w' => e = .returned (.tuple #[.int .i64 (fitV p n q m bs t).1, .bool (fitV p n q m bs t).2]) ∧ Below w.heap.size w w' := by
  obtain ⟨ref, prev, cn, rc, py, tr, st, code, qty, acc, agt, oth, amt, cur, pri⟩ := n
  obtain ⟨ref2, prev2, cn2, rc2, py2, tr2, st2, code2, qty2, acc2, agt2, oth2, amt2, cur2, pri2⟩ := m
  have H' : rc = false ∧ rc2 = true ∧ cn = false ∧ cn2 = false ∧ tr = tr2 ∧ st = st2 ∧ code = code2 ∧ qty = qty2 ∧ py = py2 := by
    unfold out3 at H
    simpa using H
  clear H
  obtain ⟨rfl, rfl, rfl, rfl, rfl, rfl, rfl, rfl, rfl⟩ := H'
  obtain ⟨W1, hW1⟩ : ∃ W, w.alloc (.cells (sC p ⟨ref, prev, false, false, py, tr, st, code, qty, acc, agt, oth, amt, cur, pri⟩ v) 28) = W := ⟨_, rfl⟩
  have hr1 : W1.heap[w.heap.size]? = some (.cells (sC p ⟨ref, prev, false, false, py, tr, st, code, qty, acc, agt, oth, amt, cur, pri⟩ v) 28 (0, 0)) := by rw [← hW1]; exact LC.alloc_new w _
  obtain ⟨W2, hW2⟩ : ∃ W, W1.alloc (.cells (sC q ⟨ref2, prev2, false, true, py, tr, st, code, qty, acc2, agt2, oth2, amt2, cur2, pri2⟩ u) 28) = W := ⟨_, rfl⟩
  have hr2 : W2.heap[w.heap.size]? = some (.cells (sC p ⟨ref, prev, false, false, py, tr, st, code, qty, acc, agt, oth, amt, cur, pri⟩ v) 28 (0, 0)) := by rw [← hW2]; exact LC.alloc_block hr1
  have hq2 : W2.heap[W1.heap.size]? = some (.cells (sC q ⟨ref2, prev2, false, true, py, tr, st, code, qty, acc2, agt2, oth2, amt2, cur2, pri2⟩ u) 28 (0, 0)) := by rw [← hW2]; exact LC.alloc_new W1 _
  obtain ⟨W3, hW3⟩ : ∃ W, W2.alloc (.cells (nC ⟨ref, prev, false, false, py, tr, st, code, qty, acc, agt, oth, amt, cur, pri⟩ v) 26) = W := ⟨_, rfl⟩
  have hq3 : W3.heap[W1.heap.size]? = some (.cells (sC q ⟨ref2, prev2, false, true, py, tr, st, code, qty, acc2, agt2, oth2, amt2, cur2, pri2⟩ u) 28 (0, 0)) := by rw [← hW3]; exact LC.alloc_block hq2
  have hx3 : Bx W3 W2.heap.size ⟨ref, prev, false, false, py, tr, st, code, qty, acc, agt, oth, amt, cur, pri⟩ v := by rw [← hW3]; exact Bx.new W2 _ v
  obtain ⟨W4, hW4⟩ : ∃ W, W3.alloc (.cells (nC ⟨ref2, prev2, false, true, py, tr, st, code, qty, acc2, agt2, oth2, amt2, cur2, pri2⟩ u) 26) = W := ⟨_, rfl⟩
  have hx : Bx W4 W2.heap.size ⟨ref, prev, false, false, py, tr, st, code, qty, acc, agt, oth, amt, cur, pri⟩ v := by rw [← hW4]; exact hx3.alloc _
  have hy : Bx W4 W3.heap.size ⟨ref2, prev2, false, true, py, tr, st, code, qty, acc2, agt2, oth2, amt2, cur2, pri2⟩ u := by rw [← hW4]; exact Bx.new W3 _ u
  have hsx : W4.heap[w.heap.size]? = some (.cells (sC p ⟨ref, prev, false, false, py, tr, st, code, qty, acc, agt, oth, amt, cur, pri⟩ v) 28 (0, 0)) := by rw [← hW4, ← hW3]; exact LC.alloc_block (LC.alloc_block hr2)
  have hsy : W4.heap[W1.heap.size]? = some (.cells (sC q ⟨ref2, prev2, false, true, py, tr, st, code, qty, acc2, agt2, oth2, amt2, cur2, pri2⟩ u) 28 (0, 0)) := by rw [← hW4]; exact LC.alloc_block hq3
  have hb1 : Below w.heap.size w W1 := by rw [← hW1]; exact (Below.refl _ _).alloc (Nat.le_refl _) _
  have hb2 : Below w.heap.size w W2 := by rw [← hW2]; exact hb1.alloc hb1.size _
  have hb3 : Below w.heap.size w W3 := by rw [← hW3]; exact hb2.alloc hb2.size _
  have HB : Hid (Below w.heap.size w W4) := hide (by rw [← hW4]; exact hb3.alloc hb3.size _)
  have R1 := hide (sC_range hr2)
  have R2 := hide (sC_range hq3)
  have HZ1 : Hid ((Tryd.prog.info? 26).map (·.size) = some (nC ⟨ref, prev, false, false, py, tr, st, code, qty, acc, agt, oth, amt, cur, pri⟩ v).size) := by show _ = _; rw [nC_size _ v hn.code]; exact Tryd.sizeNtc6
  have HZ2 : Hid ((Tryd.prog.info? 26).map (·.size) = some (nC ⟨ref2, prev2, false, true, py, tr, st, code, qty, acc2, agt2, oth2, amt2, cur2, pri2⟩ u).size) := by show _ = _; rw [nC_size _ u hm.code]; exact Tryd.sizeNtc6
  have HO1 := hide (nC_one ⟨ref, prev, false, false, py, tr, st, code, qty, acc, agt, oth, amt, cur, pri⟩ v hvo)
  have HO2 := hide (nC_one ⟨ref2, prev2, false, true, py, tr, st, code, qty, acc2, agt2, oth2, amt2, cur2, pri2⟩ u huo)
  have HS1 := hide (nC_size ⟨ref, prev, false, false, py, tr, st, code, qty, acc, agt, oth, amt, cur, pri⟩ v hn.code)
  have HS2 := hide (nC_size ⟨ref2, prev2, false, true, py, tr, st, code, qty, acc2, agt2, oth2, amt2, cur2, pri2⟩ u hm.code)
  have SX : Hid (W4.cell? ⟨w.heap.size, 0, none⟩ = some (.int .i64 p)) := hide (sC_cell hsx)
  have SY : Hid (W4.cell? ⟨W1.heap.size, 0, none⟩ = some (.int .i64 q)) := hide (sC_cell hsy)
  have GX : Hid (W4.rangeAt W2.heap.size 7 (cel code).toList) := hide (hx.code hn.code)
  have GY : Hid (W4.rangeAt W3.heap.size 7 (cel code).toList) := hide (hy.code hm.code)
  have HL1 : Hid (code.length = 12) := hide hn.code
  have HL2 : Hid (code.length = 12) := hide hn.code
  have GE := hide (ne_isin code code hn.code hn.code)
  have HG1 : Hid (agt.length ≤ 140737488355328) := hide hn.agt
  have HG2 : Hid (agt2.length ≤ 140737488355328) := hide hm.agt
  have HA := hide ha
  have HBb := hide hb
  have HT := hide ht
  have HV := hide (hv.later HB.out)
  have HSS := hide hs
  have X2 : Hid (W4.cell? ⟨W2.heap.size, 2, none⟩ = some (.bool false)) := hide (hx.cn hn.code)
  have Y2 : Hid (W4.cell? ⟨W3.heap.size, 2, none⟩ = some (.bool false)) := hide (hy.cn hm.code)
  have X3 : Hid (W4.cell? ⟨W2.heap.size, 3, none⟩ = some (.bool false)) := hide (hx.rc hn.code)
  have Y3 : Hid (W4.cell? ⟨W3.heap.size, 3, none⟩ = some (.bool true)) := hide (hy.rc hm.code)
  have X4 : Hid (W4.cell? ⟨W2.heap.size, 4, none⟩ = some (.bool py)) := hide (hx.py hn.code)
  have Y4 : Hid (W4.cell? ⟨W3.heap.size, 4, none⟩ = some (.bool py)) := hide (hy.py hm.code)
  have X5 : Hid (W4.cell? ⟨W2.heap.size, 5, none⟩ = some (.int .i64 tr)) := hide (hx.tr hn.code)
  have Y5 : Hid (W4.cell? ⟨W3.heap.size, 5, none⟩ = some (.int .i64 tr)) := hide (hy.tr hm.code)
  have X6 : Hid (W4.cell? ⟨W2.heap.size, 6, none⟩ = some (.int .i64 st)) := hide (hx.st hn.code)
  have Y6 : Hid (W4.cell? ⟨W3.heap.size, 6, none⟩ = some (.int .i64 st)) := hide (hy.st hm.code)
  have X19 : Hid (W4.cell? ⟨W2.heap.size, 19, none⟩ = some (.int .i64 qty)) := hide (hx.qty hn.code)
  have Y19 : Hid (W4.cell? ⟨W3.heap.size, 19, none⟩ = some (.int .i64 qty)) := hide (hy.qty hm.code)
  have X20 : Hid (W4.cell? ⟨W2.heap.size, 20, none⟩ = some (.string ⟨acc.toArray⟩)) := hide (hx.acc hn.code)
  have Y20 : Hid (W4.cell? ⟨W3.heap.size, 20, none⟩ = some (.string ⟨acc2.toArray⟩)) := hide (hy.acc hm.code)
  have X21 : Hid (W4.cell? ⟨W2.heap.size, 21, none⟩ = some (.string ⟨agt.toArray⟩)) := hide (hx.agt hn.code)
  have Y21 : Hid (W4.cell? ⟨W3.heap.size, 21, none⟩ = some (.string ⟨agt2.toArray⟩)) := hide (hy.agt hm.code)
  have X22 : Hid (W4.cell? ⟨W2.heap.size, 22, none⟩ = some (.string ⟨oth.toArray⟩)) := hide (hx.oth hn.code)
  have Y22 : Hid (W4.cell? ⟨W3.heap.size, 22, none⟩ = some (.string ⟨oth2.toArray⟩)) := hide (hy.oth hm.code)
  have X23 : Hid (W4.cell? ⟨W2.heap.size, 23, none⟩ = some (.int .i64 amt)) := hide (hx.amt hn.code)
  have Y23 : Hid (W4.cell? ⟨W3.heap.size, 23, none⟩ = some (.int .i64 amt2)) := hide (hy.amt hm.code)
  have X24 : Hid (W4.cell? ⟨W2.heap.size, 24, none⟩ = some (.string ⟨cur.toArray⟩)) := hide (hx.cur hn.code)
  have Y24 : Hid (W4.cell? ⟨W3.heap.size, 24, none⟩ = some (.string ⟨cur2.toArray⟩)) := hide (hy.cur hm.code)
  obtain ⟨F, hF⟩ : ∃ F, fitV p ⟨ref, prev, false, false, py, tr, st, code, qty, acc, agt, oth, amt, cur, pri⟩ q ⟨ref2, prev2, false, true, py, tr, st, code, qty, acc2, agt2, oth2, amt2, cur2, pri2⟩ bs t = F := ⟨_, rfl⟩
  rw [hF]
  unfold fitV at hF
  simp only [Bool.false_eq_true, Bool.true_eq_false, ne_eq, not_true_eq_false, if_false] at hF
  obtain ⟨N0, hN0⟩ : ∃ x, nC ⟨ref, prev, false, false, py, tr, st, code, qty, acc, agt, oth, amt, cur, pri⟩ v = x := ⟨_, rfl⟩
  obtain ⟨M0, hM0⟩ : ∃ x, nC ⟨ref2, prev2, false, true, py, tr, st, code, qty, acc2, agt2, oth2, amt2, cur2, pri2⟩ u = x := ⟨_, rfl⟩
  have R1' : Hid (W2.rangeAt w.heap.size 1 N0.toList) := hide (by rw [← hN0]; exact R1.out)
  have R2' : Hid (W3.rangeAt W1.heap.size 1 M0.toList) := hide (by rw [← hM0]; exact R2.out)
  rw [hN0] at HZ1 HO1 HS1 hW3
  rw [hM0] at HZ2 HO2 HS2 hW4
  obtain ⟨SN, hSN⟩ : ∃ x, sC p ⟨ref, prev, false, false, py, tr, st, code, qty, acc, agt, oth, amt, cur, pri⟩ v = x := ⟨_, rfl⟩
  obtain ⟨SM, hSM⟩ : ∃ x, sC q ⟨ref2, prev2, false, true, py, tr, st, code, qty, acc2, agt2, oth2, amt2, cur2, pri2⟩ u = x := ⟨_, rfl⟩
  rw [hSN] at hW1 ⊢
  rw [hSM] at hW2 ⊢
  have LL : Hid (∀ W, Below W4.heap.size W4 W → Bx W W2.heap.size ⟨ref, prev, false, false, py, tr, st, code, qty, acc, agt, oth, amt, cur, pri⟩ v ∧ Bx W W3.heap.size ⟨ref2, prev2, false, true, py, tr, st, code, qty, acc2, agt2, oth2, amt2, cur2, pri2⟩ u ∧ W.cell? ⟨w.heap.size, 0, none⟩ = some (.int .i64 p) ∧ W.cell? ⟨W1.heap.size, 0, none⟩ = some (.int .i64 q)) := hide (fun W hW => ⟨hx.later hW, hy.later hW, (hW.cell (p := ⟨w.heap.size, 0, none⟩) (Array.getElem?_eq_some_iff.1 hsx).1).trans SX.out, (hW.cell (p := ⟨W1.heap.size, 0, none⟩) (Array.getElem?_eq_some_iff.1 hsy).1).trans SY.out⟩)
  have HCD : Hid (code.length = 12) := hide hn.code
  have ge := GE.out
  rw [decide_eq_false (by simp)] at ge
  clear hr1 hr2 hq2 hq3 hx3 hx hy hsx hsy hb1 hb2 hb3 hSN hSM hn hm hvo huo hN0 hM0 R1 R2 ha hb ht hv hs
  by_cases h : acc ≠ oth2
  · rw [if_pos h] at hF
    subst hF
    have x2 := X2.out
    have y2 := Y2.out
    have x3 := X3.out
    have y3 := Y3.out
    have x4 := X4.out
    have y4 := Y4.out
    have x5 := X5.out
    have y5 := Y5.out
    have x6 := X6.out
    have y6 := Y6.out
    have x19 := X19.out
    have y19 := Y19.out
    have x20 := X20.out
    have y22 := Y22.out
    have e1acc : (acc == oth2) = false := by simpa using h
    have e2acc : (acc != oth2) = true := by simpa using h
    have e3acc : ¬ acc = oth2 := h
    have e4acc : (oth2 == acc) = false := by rw [beq_eq_false_iff_ne]; exact fun q => h q.symm
    go_enter Tryd.func4, Tryd.ntmps4
    go_wp2_with (first
      | (refine wpList_load_mid rfl 26 (.tmp 12) rfl w.heap.size 1 rfl N0.toList _ R1'.out Tryd.underlying26 rfl (by rw [Array.length_toList]; exact HZ1.out) ?_; rw [Array.toArray_toList])
      | (refine wpList_store_row rfl 26 (.tmp 10) _ rfl W2.heap.size N0 rfl rfl _ _ (LC.alloc_new W2 _) HZ1.out (by rw [HS1.out]; rfl) HO1.out ?_; rw [World.setRow_alloc_new])
      | (refine wpList_load_mid rfl 26 (.tmp 14) rfl W1.heap.size 1 rfl M0.toList _ R2'.out Tryd.underlying26 rfl (by rw [Array.length_toList]; exact HZ2.out) ?_; rw [Array.toArray_toList])
      | (refine wpList_store_row rfl 26 (.tmp 11) _ rfl W3.heap.size M0 rfl rfl _ _ (LC.alloc_new W3 _) HZ2.out (by rw [HS2.out]; rfl) HO2.out ?_; rw [World.setRow_alloc_new])
      | (refine wpList_load_midW (by rfl) 23 (.tmp 46) rfl W2.heap.size 7 rfl (cel code).toList _ GX.out Tryd.underlying23 rfl (by rw [Array.length_toList, cel_size, HL1.out]; exact Tryd.sizeIsin6) ?_; rw [Array.toArray_toList])
      | (refine wpList_load_midW (by rfl) 23 (.tmp 48) rfl W3.heap.size 7 rfl (cel code).toList _ GY.out Tryd.underlying23 rfl (by rw [Array.length_toList, cel_size, HL2.out]; exact Tryd.sizeIsin6) ?_; rw [Array.toArray_toList]))
    go_ret2
    exact ⟨rfl, HB.out⟩
  rw [if_neg h] at hF
  obtain rfl : acc = oth2 := Decidable.not_not.1 h
  clear h
  by_cases h : oth ≠ acc2
  · rw [if_pos h] at hF
    subst hF
    have x2 := X2.out
    have y2 := Y2.out
    have x3 := X3.out
    have y3 := Y3.out
    have x4 := X4.out
    have y4 := Y4.out
    have x5 := X5.out
    have y5 := Y5.out
    have x6 := X6.out
    have y6 := Y6.out
    have x19 := X19.out
    have y19 := Y19.out
    have x20 := X20.out
    have y22 := Y22.out
    have x22 := X22.out
    have y20 := Y20.out
    have e1oth : (oth == acc2) = false := by simpa using h
    have e2oth : (oth != acc2) = true := by simpa using h
    have e3oth : ¬ oth = acc2 := h
    have e4oth : (acc2 == oth) = false := by rw [beq_eq_false_iff_ne]; exact fun q => h q.symm
    go_enter Tryd.func4, Tryd.ntmps4
    go_wp2_with (first
      | (refine wpList_load_mid rfl 26 (.tmp 12) rfl w.heap.size 1 rfl N0.toList _ R1'.out Tryd.underlying26 rfl (by rw [Array.length_toList]; exact HZ1.out) ?_; rw [Array.toArray_toList])
      | (refine wpList_store_row rfl 26 (.tmp 10) _ rfl W2.heap.size N0 rfl rfl _ _ (LC.alloc_new W2 _) HZ1.out (by rw [HS1.out]; rfl) HO1.out ?_; rw [World.setRow_alloc_new])
      | (refine wpList_load_mid rfl 26 (.tmp 14) rfl W1.heap.size 1 rfl M0.toList _ R2'.out Tryd.underlying26 rfl (by rw [Array.length_toList]; exact HZ2.out) ?_; rw [Array.toArray_toList])
      | (refine wpList_store_row rfl 26 (.tmp 11) _ rfl W3.heap.size M0 rfl rfl _ _ (LC.alloc_new W3 _) HZ2.out (by rw [HS2.out]; rfl) HO2.out ?_; rw [World.setRow_alloc_new])
      | (refine wpList_load_midW (by rfl) 23 (.tmp 46) rfl W2.heap.size 7 rfl (cel code).toList _ GX.out Tryd.underlying23 rfl (by rw [Array.length_toList, cel_size, HL1.out]; exact Tryd.sizeIsin6) ?_; rw [Array.toArray_toList])
      | (refine wpList_load_midW (by rfl) 23 (.tmp 48) rfl W3.heap.size 7 rfl (cel code).toList _ GY.out Tryd.underlying23 rfl (by rw [Array.length_toList, cel_size, HL2.out]; exact Tryd.sizeIsin6) ?_; rw [Array.toArray_toList]))
    go_ret2
    exact ⟨rfl, HB.out⟩
  rw [if_neg h] at hF
  obtain rfl : oth = acc2 := Decidable.not_not.1 h
  clear h
  have IS1 := hide (fun W (hW : Below W4.heap.size W4 W) => is_any bv bs q agt W (HV.out.later hW) HSS.out HG1.out)
  have IS2 := hide (fun W (hW : Below W4.heap.size W4 W) => is_any bv bs p agt2 W (HV.out.later hW) HSS.out HG2.out)
  have NR := hide (fun W => rnear_any amt amt2 t W HA.out HBb.out HT.out)
  obtain ⟨r1, hr1⟩ : ∃ r, isB bs q agt = r := ⟨_, rfl⟩
  obtain ⟨r2, hr2⟩ : ∃ r, isB bs p agt2 = r := ⟨_, rfl⟩
  obtain ⟨r3, hr3⟩ : ∃ r, nrB amt amt2 t = r := ⟨_, rfl⟩
  rw [hr1] at hF IS1
  rw [hr2] at hF IS2
  rw [hr3] at hF NR
  clear hr1 hr2 hr3
  cases r1 with
  | false =>
    rw [if_pos rfl] at hF
    subst hF
    have x2 := X2.out
    have y2 := Y2.out
    have x3 := X3.out
    have y3 := Y3.out
    have x4 := X4.out
    have y4 := Y4.out
    have x5 := X5.out
    have y5 := Y5.out
    have x6 := X6.out
    have y6 := Y6.out
    have x19 := X19.out
    have y19 := Y19.out
    have x20 := X20.out
    have y22 := Y22.out
    have x22 := X22.out
    have y20 := Y20.out
    have x21 := X21.out
    have sy := SY.out
    go_enter Tryd.func4, Tryd.ntmps4
    go_wp2_with (first
      | (refine wpList_load_mid rfl 26 (.tmp 12) rfl w.heap.size 1 rfl N0.toList _ R1'.out Tryd.underlying26 rfl (by rw [Array.length_toList]; exact HZ1.out) ?_; rw [Array.toArray_toList])
      | (refine wpList_store_row rfl 26 (.tmp 10) _ rfl W2.heap.size N0 rfl rfl _ _ (LC.alloc_new W2 _) HZ1.out (by rw [HS1.out]; rfl) HO1.out ?_; rw [World.setRow_alloc_new])
      | (refine wpList_load_mid rfl 26 (.tmp 14) rfl W1.heap.size 1 rfl M0.toList _ R2'.out Tryd.underlying26 rfl (by rw [Array.length_toList]; exact HZ2.out) ?_; rw [Array.toArray_toList])
      | (refine wpList_store_row rfl 26 (.tmp 11) _ rfl W3.heap.size M0 rfl rfl _ _ (LC.alloc_new W3 _) HZ2.out (by rw [HS2.out]; rfl) HO2.out ?_; rw [World.setRow_alloc_new])
      | (refine wpList_load_midW (by rfl) 23 (.tmp 46) rfl W2.heap.size 7 rfl (cel code).toList _ GX.out Tryd.underlying23 rfl (by rw [Array.length_toList, cel_size, HL1.out]; exact Tryd.sizeIsin6) ?_; rw [Array.toArray_toList])
      | (refine wpList_load_midW (by rfl) 23 (.tmp 48) rfl W3.heap.size 7 rfl (cel code).toList _ GY.out Tryd.underlying23 rfl (by rw [Array.length_toList, cel_size, HL2.out]; exact Tryd.sizeIsin6) ?_; rw [Array.toArray_toList]))
    refine (IS1.out _ (Below.refl _ _)).mono ?_
    rintro e w5 ⟨rfl, hb⟩
    have HBFw5 := hide (HB.out.trans (hb.mono HB.out.size))
    have HLw5 : Hid (Below W4.heap.size W4 w5) := hide hb
    obtain ⟨bx, by_, sx, syw5⟩ := LL.out w5 HLw5.out
    have y21w5 : w5.cell? ⟨W3.heap.size, 21, none⟩ = some (.string ⟨agt2.toArray⟩) := by_.agt HCD.out
    clear hb bx by_
    have HBF := HBFw5
    go_wp2_with fail
    go_ret2
    exact ⟨rfl, HBF.out⟩
  | true =>
    rw [if_neg (by simp)] at hF
    cases r2 with
    | false =>
      rw [if_pos rfl] at hF
      subst hF
      have x2 := X2.out
      have y2 := Y2.out
      have x3 := X3.out
      have y3 := Y3.out
      have x4 := X4.out
      have y4 := Y4.out
      have x5 := X5.out
      have y5 := Y5.out
      have x6 := X6.out
      have y6 := Y6.out
      have x19 := X19.out
      have y19 := Y19.out
      have x20 := X20.out
      have y22 := Y22.out
      have x22 := X22.out
      have y20 := Y20.out
      have x21 := X21.out
      have sy := SY.out
      go_enter Tryd.func4, Tryd.ntmps4
      go_wp2_with (first
        | (refine wpList_load_mid rfl 26 (.tmp 12) rfl w.heap.size 1 rfl N0.toList _ R1'.out Tryd.underlying26 rfl (by rw [Array.length_toList]; exact HZ1.out) ?_; rw [Array.toArray_toList])
        | (refine wpList_store_row rfl 26 (.tmp 10) _ rfl W2.heap.size N0 rfl rfl _ _ (LC.alloc_new W2 _) HZ1.out (by rw [HS1.out]; rfl) HO1.out ?_; rw [World.setRow_alloc_new])
        | (refine wpList_load_mid rfl 26 (.tmp 14) rfl W1.heap.size 1 rfl M0.toList _ R2'.out Tryd.underlying26 rfl (by rw [Array.length_toList]; exact HZ2.out) ?_; rw [Array.toArray_toList])
        | (refine wpList_store_row rfl 26 (.tmp 11) _ rfl W3.heap.size M0 rfl rfl _ _ (LC.alloc_new W3 _) HZ2.out (by rw [HS2.out]; rfl) HO2.out ?_; rw [World.setRow_alloc_new])
        | (refine wpList_load_midW (by rfl) 23 (.tmp 46) rfl W2.heap.size 7 rfl (cel code).toList _ GX.out Tryd.underlying23 rfl (by rw [Array.length_toList, cel_size, HL1.out]; exact Tryd.sizeIsin6) ?_; rw [Array.toArray_toList])
        | (refine wpList_load_midW (by rfl) 23 (.tmp 48) rfl W3.heap.size 7 rfl (cel code).toList _ GY.out Tryd.underlying23 rfl (by rw [Array.length_toList, cel_size, HL2.out]; exact Tryd.sizeIsin6) ?_; rw [Array.toArray_toList]))
      refine (IS1.out _ (Below.refl _ _)).mono ?_
      rintro e w5 ⟨rfl, hb⟩
      have HBFw5 := hide (HB.out.trans (hb.mono HB.out.size))
      have HLw5 : Hid (Below W4.heap.size W4 w5) := hide hb
      obtain ⟨bx, by_, sx, syw5⟩ := LL.out w5 HLw5.out
      have y21w5 : w5.cell? ⟨W3.heap.size, 21, none⟩ = some (.string ⟨agt2.toArray⟩) := by_.agt HCD.out
      clear hb bx by_
      go_wp2_with fail
      refine (IS2.out _ HLw5.out).mono ?_
      rintro e w6 ⟨rfl, hb⟩
      have HLw6 : Hid (Below W4.heap.size W4 w6) := hide (HLw5.out.trans (hb.mono HLw5.out.size))
      have HBFw6 := hide (HB.out.trans (HLw6.out.mono HB.out.size))
      obtain ⟨bx, by_, sx, syw6⟩ := LL.out w6 HLw6.out
      have x4w6 : w6.cell? ⟨W2.heap.size, 4, none⟩ = some (.bool py) := bx.py HCD.out
      have x24w6 : w6.cell? ⟨W2.heap.size, 24, none⟩ = some (.string ⟨cur.toArray⟩) := bx.cur HCD.out
      have y24w6 : w6.cell? ⟨W3.heap.size, 24, none⟩ = some (.string ⟨cur2.toArray⟩) := by_.cur HCD.out
      have x23w6 : w6.cell? ⟨W2.heap.size, 23, none⟩ = some (.int .i64 amt) := bx.amt HCD.out
      have y23w6 : w6.cell? ⟨W3.heap.size, 23, none⟩ = some (.int .i64 amt2) := by_.amt HCD.out
      clear hb bx by_
      have HBF := HBFw6
      go_wp2_with fail
      go_ret2
      exact ⟨rfl, HBF.out⟩
    | true =>
      rw [if_neg (by simp)] at hF
      cases py with
      | false =>
        rw [if_pos rfl] at hF
        subst hF
        have x2 := X2.out
        have y2 := Y2.out
        have x3 := X3.out
        have y3 := Y3.out
        have x4 := X4.out
        have y4 := Y4.out
        have x5 := X5.out
        have y5 := Y5.out
        have x6 := X6.out
        have y6 := Y6.out
        have x19 := X19.out
        have y19 := Y19.out
        have x20 := X20.out
        have y22 := Y22.out
        have x22 := X22.out
        have y20 := Y20.out
        have x21 := X21.out
        have sy := SY.out
        go_enter Tryd.func4, Tryd.ntmps4
        go_wp2_with (first
          | (refine wpList_load_mid rfl 26 (.tmp 12) rfl w.heap.size 1 rfl N0.toList _ R1'.out Tryd.underlying26 rfl (by rw [Array.length_toList]; exact HZ1.out) ?_; rw [Array.toArray_toList])
          | (refine wpList_store_row rfl 26 (.tmp 10) _ rfl W2.heap.size N0 rfl rfl _ _ (LC.alloc_new W2 _) HZ1.out (by rw [HS1.out]; rfl) HO1.out ?_; rw [World.setRow_alloc_new])
          | (refine wpList_load_mid rfl 26 (.tmp 14) rfl W1.heap.size 1 rfl M0.toList _ R2'.out Tryd.underlying26 rfl (by rw [Array.length_toList]; exact HZ2.out) ?_; rw [Array.toArray_toList])
          | (refine wpList_store_row rfl 26 (.tmp 11) _ rfl W3.heap.size M0 rfl rfl _ _ (LC.alloc_new W3 _) HZ2.out (by rw [HS2.out]; rfl) HO2.out ?_; rw [World.setRow_alloc_new])
          | (refine wpList_load_midW (by rfl) 23 (.tmp 46) rfl W2.heap.size 7 rfl (cel code).toList _ GX.out Tryd.underlying23 rfl (by rw [Array.length_toList, cel_size, HL1.out]; exact Tryd.sizeIsin6) ?_; rw [Array.toArray_toList])
          | (refine wpList_load_midW (by rfl) 23 (.tmp 48) rfl W3.heap.size 7 rfl (cel code).toList _ GY.out Tryd.underlying23 rfl (by rw [Array.length_toList, cel_size, HL2.out]; exact Tryd.sizeIsin6) ?_; rw [Array.toArray_toList]))
        refine (IS1.out _ (Below.refl _ _)).mono ?_
        rintro e w5 ⟨rfl, hb⟩
        have HBFw5 := hide (HB.out.trans (hb.mono HB.out.size))
        have HLw5 : Hid (Below W4.heap.size W4 w5) := hide hb
        obtain ⟨bx, by_, sx, syw5⟩ := LL.out w5 HLw5.out
        have y21w5 : w5.cell? ⟨W3.heap.size, 21, none⟩ = some (.string ⟨agt2.toArray⟩) := by_.agt HCD.out
        clear hb bx by_
        go_wp2_with fail
        refine (IS2.out _ HLw5.out).mono ?_
        rintro e w6 ⟨rfl, hb⟩
        have HLw6 : Hid (Below W4.heap.size W4 w6) := hide (HLw5.out.trans (hb.mono HLw5.out.size))
        have HBFw6 := hide (HB.out.trans (HLw6.out.mono HB.out.size))
        obtain ⟨bx, by_, sx, syw6⟩ := LL.out w6 HLw6.out
        have x4w6 : w6.cell? ⟨W2.heap.size, 4, none⟩ = some (.bool false) := bx.py HCD.out
        have x24w6 : w6.cell? ⟨W2.heap.size, 24, none⟩ = some (.string ⟨cur.toArray⟩) := bx.cur HCD.out
        have y24w6 : w6.cell? ⟨W3.heap.size, 24, none⟩ = some (.string ⟨cur2.toArray⟩) := by_.cur HCD.out
        have x23w6 : w6.cell? ⟨W2.heap.size, 23, none⟩ = some (.int .i64 amt) := bx.amt HCD.out
        have y23w6 : w6.cell? ⟨W3.heap.size, 23, none⟩ = some (.int .i64 amt2) := by_.amt HCD.out
        clear hb bx by_
        have HBF := HBFw6
        go_wp2_with fail
        go_ret2
        exact ⟨rfl, HBF.out⟩
      | true =>
        rw [if_neg (by simp)] at hF
        by_cases h : cur ≠ cur2
        · rw [if_pos h] at hF
          subst hF
          have e1cur : (cur == cur2) = false := by simpa using h
          have e2cur : (cur != cur2) = true := by simpa using h
          have e3cur : ¬ cur = cur2 := h
          have e4cur : (cur2 == cur) = false := by rw [beq_eq_false_iff_ne]; exact fun q => h q.symm
          have x2 := X2.out
          have y2 := Y2.out
          have x3 := X3.out
          have y3 := Y3.out
          have x4 := X4.out
          have y4 := Y4.out
          have x5 := X5.out
          have y5 := Y5.out
          have x6 := X6.out
          have y6 := Y6.out
          have x19 := X19.out
          have y19 := Y19.out
          have x20 := X20.out
          have y22 := Y22.out
          have x22 := X22.out
          have y20 := Y20.out
          have x21 := X21.out
          have sy := SY.out
          go_enter Tryd.func4, Tryd.ntmps4
          go_wp2_with (first
            | (refine wpList_load_mid rfl 26 (.tmp 12) rfl w.heap.size 1 rfl N0.toList _ R1'.out Tryd.underlying26 rfl (by rw [Array.length_toList]; exact HZ1.out) ?_; rw [Array.toArray_toList])
            | (refine wpList_store_row rfl 26 (.tmp 10) _ rfl W2.heap.size N0 rfl rfl _ _ (LC.alloc_new W2 _) HZ1.out (by rw [HS1.out]; rfl) HO1.out ?_; rw [World.setRow_alloc_new])
            | (refine wpList_load_mid rfl 26 (.tmp 14) rfl W1.heap.size 1 rfl M0.toList _ R2'.out Tryd.underlying26 rfl (by rw [Array.length_toList]; exact HZ2.out) ?_; rw [Array.toArray_toList])
            | (refine wpList_store_row rfl 26 (.tmp 11) _ rfl W3.heap.size M0 rfl rfl _ _ (LC.alloc_new W3 _) HZ2.out (by rw [HS2.out]; rfl) HO2.out ?_; rw [World.setRow_alloc_new])
            | (refine wpList_load_midW (by rfl) 23 (.tmp 46) rfl W2.heap.size 7 rfl (cel code).toList _ GX.out Tryd.underlying23 rfl (by rw [Array.length_toList, cel_size, HL1.out]; exact Tryd.sizeIsin6) ?_; rw [Array.toArray_toList])
            | (refine wpList_load_midW (by rfl) 23 (.tmp 48) rfl W3.heap.size 7 rfl (cel code).toList _ GY.out Tryd.underlying23 rfl (by rw [Array.length_toList, cel_size, HL2.out]; exact Tryd.sizeIsin6) ?_; rw [Array.toArray_toList]))
          refine (IS1.out _ (Below.refl _ _)).mono ?_
          rintro e w5 ⟨rfl, hb⟩
          have HBFw5 := hide (HB.out.trans (hb.mono HB.out.size))
          have HLw5 : Hid (Below W4.heap.size W4 w5) := hide hb
          obtain ⟨bx, by_, sx, syw5⟩ := LL.out w5 HLw5.out
          have y21w5 : w5.cell? ⟨W3.heap.size, 21, none⟩ = some (.string ⟨agt2.toArray⟩) := by_.agt HCD.out
          clear hb bx by_
          go_wp2_with fail
          refine (IS2.out _ HLw5.out).mono ?_
          rintro e w6 ⟨rfl, hb⟩
          have HLw6 : Hid (Below W4.heap.size W4 w6) := hide (HLw5.out.trans (hb.mono HLw5.out.size))
          have HBFw6 := hide (HB.out.trans (HLw6.out.mono HB.out.size))
          obtain ⟨bx, by_, sx, syw6⟩ := LL.out w6 HLw6.out
          have x4w6 : w6.cell? ⟨W2.heap.size, 4, none⟩ = some (.bool true) := bx.py HCD.out
          have x24w6 : w6.cell? ⟨W2.heap.size, 24, none⟩ = some (.string ⟨cur.toArray⟩) := bx.cur HCD.out
          have y24w6 : w6.cell? ⟨W3.heap.size, 24, none⟩ = some (.string ⟨cur2.toArray⟩) := by_.cur HCD.out
          have x23w6 : w6.cell? ⟨W2.heap.size, 23, none⟩ = some (.int .i64 amt) := bx.amt HCD.out
          have y23w6 : w6.cell? ⟨W3.heap.size, 23, none⟩ = some (.int .i64 amt2) := by_.amt HCD.out
          clear hb bx by_
          have HBF := HBFw6
          go_wp2_with fail
          go_ret2
          exact ⟨rfl, HBF.out⟩
        rw [if_neg h] at hF
        obtain rfl : cur = cur2 := Decidable.not_not.1 h
        clear h
        cases r3 with
        | false =>
          rw [if_pos rfl] at hF
          subst hF
          have x2 := X2.out
          have y2 := Y2.out
          have x3 := X3.out
          have y3 := Y3.out
          have x4 := X4.out
          have y4 := Y4.out
          have x5 := X5.out
          have y5 := Y5.out
          have x6 := X6.out
          have y6 := Y6.out
          have x19 := X19.out
          have y19 := Y19.out
          have x20 := X20.out
          have y22 := Y22.out
          have x22 := X22.out
          have y20 := Y20.out
          have x21 := X21.out
          have sy := SY.out
          go_enter Tryd.func4, Tryd.ntmps4
          go_wp2_with (first
            | (refine wpList_load_mid rfl 26 (.tmp 12) rfl w.heap.size 1 rfl N0.toList _ R1'.out Tryd.underlying26 rfl (by rw [Array.length_toList]; exact HZ1.out) ?_; rw [Array.toArray_toList])
            | (refine wpList_store_row rfl 26 (.tmp 10) _ rfl W2.heap.size N0 rfl rfl _ _ (LC.alloc_new W2 _) HZ1.out (by rw [HS1.out]; rfl) HO1.out ?_; rw [World.setRow_alloc_new])
            | (refine wpList_load_mid rfl 26 (.tmp 14) rfl W1.heap.size 1 rfl M0.toList _ R2'.out Tryd.underlying26 rfl (by rw [Array.length_toList]; exact HZ2.out) ?_; rw [Array.toArray_toList])
            | (refine wpList_store_row rfl 26 (.tmp 11) _ rfl W3.heap.size M0 rfl rfl _ _ (LC.alloc_new W3 _) HZ2.out (by rw [HS2.out]; rfl) HO2.out ?_; rw [World.setRow_alloc_new])
            | (refine wpList_load_midW (by rfl) 23 (.tmp 46) rfl W2.heap.size 7 rfl (cel code).toList _ GX.out Tryd.underlying23 rfl (by rw [Array.length_toList, cel_size, HL1.out]; exact Tryd.sizeIsin6) ?_; rw [Array.toArray_toList])
            | (refine wpList_load_midW (by rfl) 23 (.tmp 48) rfl W3.heap.size 7 rfl (cel code).toList _ GY.out Tryd.underlying23 rfl (by rw [Array.length_toList, cel_size, HL2.out]; exact Tryd.sizeIsin6) ?_; rw [Array.toArray_toList]))
          refine (IS1.out _ (Below.refl _ _)).mono ?_
          rintro e w5 ⟨rfl, hb⟩
          have HBFw5 := hide (HB.out.trans (hb.mono HB.out.size))
          have HLw5 : Hid (Below W4.heap.size W4 w5) := hide hb
          obtain ⟨bx, by_, sx, syw5⟩ := LL.out w5 HLw5.out
          have y21w5 : w5.cell? ⟨W3.heap.size, 21, none⟩ = some (.string ⟨agt2.toArray⟩) := by_.agt HCD.out
          clear hb bx by_
          go_wp2_with fail
          refine (IS2.out _ HLw5.out).mono ?_
          rintro e w6 ⟨rfl, hb⟩
          have HLw6 : Hid (Below W4.heap.size W4 w6) := hide (HLw5.out.trans (hb.mono HLw5.out.size))
          have HBFw6 := hide (HB.out.trans (HLw6.out.mono HB.out.size))
          obtain ⟨bx, by_, sx, syw6⟩ := LL.out w6 HLw6.out
          have x4w6 : w6.cell? ⟨W2.heap.size, 4, none⟩ = some (.bool true) := bx.py HCD.out
          have x24w6 : w6.cell? ⟨W2.heap.size, 24, none⟩ = some (.string ⟨cur.toArray⟩) := bx.cur HCD.out
          have y24w6 : w6.cell? ⟨W3.heap.size, 24, none⟩ = some (.string ⟨cur.toArray⟩) := by_.cur HCD.out
          have x23w6 : w6.cell? ⟨W2.heap.size, 23, none⟩ = some (.int .i64 amt) := bx.amt HCD.out
          have y23w6 : w6.cell? ⟨W3.heap.size, 23, none⟩ = some (.int .i64 amt2) := by_.amt HCD.out
          clear hb bx by_
          go_wp2_with fail
          refine (NR.out _).mono ?_
          rintro e w7 ⟨rfl, hb⟩
          have HLw7 : Hid (Below W4.heap.size W4 w7) := hide (HLw6.out.trans (hb.mono HLw6.out.size))
          have HBFw7 := hide (HB.out.trans (HLw7.out.mono HB.out.size))
          obtain ⟨bx, by_, sx, syw7⟩ := LL.out w7 HLw7.out
          have x23w7 : w7.cell? ⟨W2.heap.size, 23, none⟩ = some (.int .i64 amt) := bx.amt HCD.out
          clear hb bx by_
          have HBF := HBFw7
          go_wp2_with fail
          go_ret2
          exact ⟨rfl, HBF.out⟩
        | true =>
          rw [if_neg (by simp)] at hF
          subst hF
          have x2 := X2.out
          have y2 := Y2.out
          have x3 := X3.out
          have y3 := Y3.out
          have x4 := X4.out
          have y4 := Y4.out
          have x5 := X5.out
          have y5 := Y5.out
          have x6 := X6.out
          have y6 := Y6.out
          have x19 := X19.out
          have y19 := Y19.out
          have x20 := X20.out
          have y22 := Y22.out
          have x22 := X22.out
          have y20 := Y20.out
          have x21 := X21.out
          have sy := SY.out
          go_enter Tryd.func4, Tryd.ntmps4
          go_wp2_with (first
            | (refine wpList_load_mid rfl 26 (.tmp 12) rfl w.heap.size 1 rfl N0.toList _ R1'.out Tryd.underlying26 rfl (by rw [Array.length_toList]; exact HZ1.out) ?_; rw [Array.toArray_toList])
            | (refine wpList_store_row rfl 26 (.tmp 10) _ rfl W2.heap.size N0 rfl rfl _ _ (LC.alloc_new W2 _) HZ1.out (by rw [HS1.out]; rfl) HO1.out ?_; rw [World.setRow_alloc_new])
            | (refine wpList_load_mid rfl 26 (.tmp 14) rfl W1.heap.size 1 rfl M0.toList _ R2'.out Tryd.underlying26 rfl (by rw [Array.length_toList]; exact HZ2.out) ?_; rw [Array.toArray_toList])
            | (refine wpList_store_row rfl 26 (.tmp 11) _ rfl W3.heap.size M0 rfl rfl _ _ (LC.alloc_new W3 _) HZ2.out (by rw [HS2.out]; rfl) HO2.out ?_; rw [World.setRow_alloc_new])
            | (refine wpList_load_midW (by rfl) 23 (.tmp 46) rfl W2.heap.size 7 rfl (cel code).toList _ GX.out Tryd.underlying23 rfl (by rw [Array.length_toList, cel_size, HL1.out]; exact Tryd.sizeIsin6) ?_; rw [Array.toArray_toList])
            | (refine wpList_load_midW (by rfl) 23 (.tmp 48) rfl W3.heap.size 7 rfl (cel code).toList _ GY.out Tryd.underlying23 rfl (by rw [Array.length_toList, cel_size, HL2.out]; exact Tryd.sizeIsin6) ?_; rw [Array.toArray_toList]))
          refine (IS1.out _ (Below.refl _ _)).mono ?_
          rintro e w5 ⟨rfl, hb⟩
          have HBFw5 := hide (HB.out.trans (hb.mono HB.out.size))
          have HLw5 : Hid (Below W4.heap.size W4 w5) := hide hb
          obtain ⟨bx, by_, sx, syw5⟩ := LL.out w5 HLw5.out
          have y21w5 : w5.cell? ⟨W3.heap.size, 21, none⟩ = some (.string ⟨agt2.toArray⟩) := by_.agt HCD.out
          clear hb bx by_
          go_wp2_with fail
          refine (IS2.out _ HLw5.out).mono ?_
          rintro e w6 ⟨rfl, hb⟩
          have HLw6 : Hid (Below W4.heap.size W4 w6) := hide (HLw5.out.trans (hb.mono HLw5.out.size))
          have HBFw6 := hide (HB.out.trans (HLw6.out.mono HB.out.size))
          obtain ⟨bx, by_, sx, syw6⟩ := LL.out w6 HLw6.out
          have x4w6 : w6.cell? ⟨W2.heap.size, 4, none⟩ = some (.bool true) := bx.py HCD.out
          have x24w6 : w6.cell? ⟨W2.heap.size, 24, none⟩ = some (.string ⟨cur.toArray⟩) := bx.cur HCD.out
          have y24w6 : w6.cell? ⟨W3.heap.size, 24, none⟩ = some (.string ⟨cur.toArray⟩) := by_.cur HCD.out
          have x23w6 : w6.cell? ⟨W2.heap.size, 23, none⟩ = some (.int .i64 amt) := bx.amt HCD.out
          have y23w6 : w6.cell? ⟨W3.heap.size, 23, none⟩ = some (.int .i64 amt2) := by_.amt HCD.out
          clear hb bx by_
          go_wp2_with fail
          refine (NR.out _).mono ?_
          rintro e w7 ⟨rfl, hb⟩
          have HLw7 : Hid (Below W4.heap.size W4 w7) := hide (HLw6.out.trans (hb.mono HLw6.out.size))
          have HBFw7 := hide (HB.out.trans (HLw7.out.mono HB.out.size))
          obtain ⟨bx, by_, sx, syw7⟩ := LL.out w7 HLw7.out
          have x23w7 : w7.cell? ⟨W2.heap.size, 23, none⟩ = some (.int .i64 amt) := bx.amt HCD.out
          clear hb bx by_
          have HBF := HBFw7
          go_wp2_with fail
          go_ret2
          exact ⟨rfl, HBF.out⟩
end Go.Proofs.YtdfhfjkcafchiaaDoor
