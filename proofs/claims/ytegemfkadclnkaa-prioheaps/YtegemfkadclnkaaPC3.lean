/-
  My own text: the document's row: Pop, Remove, Peek, Push (printed by mkpc3.py).
-/
import Derived.Test.YtegemfkadclnkaaPC2
namespace Go.Proofs.Ytegemfkadclnkaa
open Go.RowKit

theorem RmS.mn {k : Pr → Int} {p : Pr → Bool} {R : List En} {F : Int} (h : RmS k p R R.length F) (hr : Rs 0 R) : (F = -1 ∧ mn k p R = none) ∨ ∃ (m : Nat) (y : En), F = (m : Int) ∧ R[m]? = some y ∧ mn k p R = some y := by
  rcases h with ⟨h1, h2⟩ | ⟨m, y, h1, h2, h3, h4, h5⟩
  · refine .inl ⟨h1, mn_none.2 (fun e he => ?_)⟩
    obtain ⟨j, hj, rfl⟩ := List.mem_iff_getElem.1 he
    exact h2 j _ hj (List.getElem?_eq_getElem hj)
  · refine .inr ⟨m, y, h1, h3, mn_of hr (List.mem_of_getElem? h3) h4 (fun e he hp => ?_)⟩
    obtain ⟨j, hj, rfl⟩ := List.mem_iff_getElem.1 he
    exact h5 j _ hj (List.getElem?_eq_getElem hj) hp
theorem takeQ {f : Bool} {p : Pr → Bool} {F : Int} {B rb : Nat} {v : Value} {R : List En} {w : World} (hF : RmS (kB f) p R R.length F) (h : RQ w B rb f v R) (hr : Rs 0 R) (hlen : R.length ≤ 8796093022207) :
    Calls Try.prog 25 #[.pointer (some ⟨rb, 0, none⟩), .int .i64 F] w fun e w' => e = .returned (.tuple #[pv (ans (mn (kB f) p R)), .bool (mn (kB f) p R).isSome]) ∧ ∃ v', RQ w' B rb f v' (nx R (mn (kB f) p R)) ∧ Fq w w' rb v v' := by
  rcases hF.mn hr with ⟨rfl, e⟩ | ⟨m, y, rfl, hy, e⟩
  · rw [e]
    refine (take_no (-1) (by omega) rb w).mono ?_
    rintro e w' ⟨rfl, hb⟩
    exact ⟨rfl, v, h.later hb, Fq.of_below hb⟩
  · rw [e]
    exact take_yes m y f B rb v R w h hr hy hlen
theorem pW_all : pW true 0 = fun _ => true := rfl
theorem pW_one (z : Int) : pW false z = fun x => x.2 == z := by funext x; simp [pW]
set_option maxRecDepth 100000 in
set_option maxHeartbeats 2000000 in
theorem rpopQ {f : Bool} {B rb : Nat} {v : Value} {R : List En} {w : World} (h : RQ w B rb f v R) (hr : Rs 0 R) (hlen : R.length ≤ 8796093022207) :
    Calls Try.prog 9 #[.pointer (some ⟨rb, 0, none⟩)] w fun e w' => e = .returned (.tuple #[pv (ans (mn (kB f) (fun _ => true) R)), .bool (mn (kB f) (fun _ => true) R).isSome]) ∧ ∃ v', RQ w' B rb f v' (nx R (mn (kB f) (fun _ => true) R)) ∧ Fq w w' rb v v' := by
  have b1 : Below w.heap.size w (w.alloc zPr) := (Below.refl _ _).alloc (Nat.le_refl _) _
  have h1 := h.later b1
  have HFI := hide (first_any f true 0 B rb v R (w.alloc zPr) h1 hr (by omega))
  have HH := hide h1
  have HRS := hide (And.intro hr hlen)
  have B1 := hide b1
  have HRB := hide (And.intro (blk_lt h.hdr) (fun g hg => (h.row.lt g hg).2))
  obtain ⟨M, hM⟩ : ∃ M, Hid (mn (kB f) (fun _ => true) R = M) := ⟨_, hide rfl⟩
  obtain ⟨p1, p2, hpp⟩ : ∃ p1 p2, Hid (ans M = (p1, p2)) := ⟨_, _, hide rfl⟩
  obtain ⟨sm, hsm⟩ : ∃ sm, Hid (M.isSome = sm) := ⟨_, hide rfl⟩
  rw [hM.out, hpp.out, hsm.out]
  unfold pv
  dsimp only
  clear h h1 b1 hr hlen
  go_enter Try.func9, Try.ntmps9
  go_wp2_with fail
  refine HFI.out.mono ?_
  rintro e w1 ⟨F, rfl, hF, hb1⟩
  have HTK := hide (takeQ hF (HH.out.later hb1) HRS.out.1 HRS.out.2)
  rw [pW_all, hM.out, hpp.out, hsm.out] at HTK
  unfold pv at HTK
  dsimp only at HTK
  have R1 := hide (blk_later (alloc_new w zPr) hb1)
  have F1 := hide (Fq.of_below (hb := rb) (v := v) (B1.out.trans (hb1.mono (by simp))))
  have S1 := hide hb1.size
  clear hb1 HFI hF
  go_wp2_with fail
  refine HTK.out.mono ?_
  rintro e w2 ⟨rfl, v', h2, f2⟩
  have hs0 : w.heap.size < w1.heap.size := by have := S1.out; simp at this; omega
  have hne : w.heap.size ≠ rb ∧ some w.heap.size ≠ v'.ownBlock := ⟨by have := HRB.out.1; omega, fun e => by
    rcases f2.own _ e.symm with q | q
    · have := HRB.out.2 _ q; omega
    · omega⟩
  have hneq : some w.heap.size ≠ v.ownBlock := fun e => by have := HRB.out.2 _ e.symm; omega
  have RD := hide ((f2.block w.heap.size hs0 hne.1 hneq).trans R1.out)
  have HE := hide (h2.box (cs := #[.int .i64 p1, .int .i64 p2]) (F1.out.trans f2) (Nat.le_refl _) hne)
  clear h2 f2 hne hneq HTK hs0
  go_wp2_with (refine wpList_store_row rfl 25 _ _ rfl w.heap.size #[.int .i64 p1, .int .i64 p2] rfl rfl _ _ RD.out Try.sizePr rfl (by simp [Value.oneCell']) ?_)
  refine bodyPost_ret (v := .tuple #[.agg #[.int .i64 p1, .int .i64 p2], .bool sm]) ?_ rfl ⟨rfl, _, HE.out.1, HE.out.2⟩
  rw [results_cell_tmp rfl]
  simp only [asAddr]
  have hld := run_loadVar_row (P := Try.prog) (w2.setRow w.heap.size #[.int .i64 p1, .int .i64 p2]) w.heap.size 25 25 #[.int .i64 p1, .int .i64 p2] (0, 0) _ (setRow_heap _ _ _ _ _ _ RD.out) Try.underlying25 rfl Try.sizePr
  simp [Result.andThen, hld]
set_option maxRecDepth 100000 in
set_option maxHeartbeats 2000000 in
theorem rremQ {f : Bool} {B rb : Nat} {v : Value} {R : List En} {w : World} (z : Int) (h : RQ w B rb f v R) (hr : Rs 0 R) (hlen : R.length ≤ 8796093022207) :
    Calls Try.prog 16 #[.pointer (some ⟨rb, 0, none⟩), .int .i64 z] w fun e w' => e = .returned (.tuple #[pv (ans (mn (kB f) (fun x => x.2 == z) R)), .bool (mn (kB f) (fun x => x.2 == z) R).isSome]) ∧ ∃ v', RQ w' B rb f v' (nx R (mn (kB f) (fun x => x.2 == z) R)) ∧ Fq w w' rb v v' := by
  have b1 : Below w.heap.size w (w.alloc zPr) := (Below.refl _ _).alloc (Nat.le_refl _) _
  have h1 := h.later b1
  have HFI := hide (first_any f false z B rb v R (w.alloc zPr) h1 hr (by omega))
  have HH := hide h1
  have HRS := hide (And.intro hr hlen)
  have B1 := hide b1
  have HRB := hide (And.intro (blk_lt h.hdr) (fun g hg => (h.row.lt g hg).2))
  obtain ⟨M, hM⟩ : ∃ M, Hid (mn (kB f) (fun x => x.2 == z) R = M) := ⟨_, hide rfl⟩
  obtain ⟨p1, p2, hpp⟩ : ∃ p1 p2, Hid (ans M = (p1, p2)) := ⟨_, _, hide rfl⟩
  obtain ⟨sm, hsm⟩ : ∃ sm, Hid (M.isSome = sm) := ⟨_, hide rfl⟩
  rw [hM.out, hpp.out, hsm.out]
  unfold pv
  dsimp only
  clear h h1 b1 hr hlen
  go_enter Try.func16, Try.ntmps16
  go_wp2_with fail
  refine HFI.out.mono ?_
  rintro e w1 ⟨F, rfl, hF, hb1⟩
  have HTK := hide (takeQ hF (HH.out.later hb1) HRS.out.1 HRS.out.2)
  rw [pW_one, hM.out, hpp.out, hsm.out] at HTK
  unfold pv at HTK
  dsimp only at HTK
  have R1 := hide (blk_later (alloc_new w zPr) hb1)
  have F1 := hide (Fq.of_below (hb := rb) (v := v) (B1.out.trans (hb1.mono (by simp))))
  have S1 := hide hb1.size
  clear hb1 HFI hF
  go_wp2_with fail
  refine HTK.out.mono ?_
  rintro e w2 ⟨rfl, v', h2, f2⟩
  have hs0 : w.heap.size < w1.heap.size := by have := S1.out; simp at this; omega
  have hne : w.heap.size ≠ rb ∧ some w.heap.size ≠ v'.ownBlock := ⟨by have := HRB.out.1; omega, fun e => by
    rcases f2.own _ e.symm with q | q
    · have := HRB.out.2 _ q; omega
    · omega⟩
  have hneq : some w.heap.size ≠ v.ownBlock := fun e => by have := HRB.out.2 _ e.symm; omega
  have RD := hide ((f2.block w.heap.size hs0 hne.1 hneq).trans R1.out)
  have HE := hide (h2.box (cs := #[.int .i64 p1, .int .i64 p2]) (F1.out.trans f2) (Nat.le_refl _) hne)
  clear h2 f2 hne hneq HTK hs0
  go_wp2_with (refine wpList_store_row rfl 25 _ _ rfl w.heap.size #[.int .i64 p1, .int .i64 p2] rfl rfl _ _ RD.out Try.sizePr rfl (by simp [Value.oneCell']) ?_)
  refine bodyPost_ret (v := .tuple #[.agg #[.int .i64 p1, .int .i64 p2], .bool sm]) ?_ rfl ⟨rfl, _, HE.out.1, HE.out.2⟩
  rw [results_cell_tmp rfl]
  simp only [asAddr]
  have hld := run_loadVar_row (P := Try.prog) (w2.setRow w.heap.size #[.int .i64 p1, .int .i64 p2]) w.heap.size 25 25 #[.int .i64 p1, .int .i64 p2] (0, 0) _ (setRow_heap _ _ _ _ _ _ RD.out) Try.underlying25 rfl Try.sizePr
  simp [Result.andThen, hld]
set_option maxRecDepth 100000 in
set_option maxHeartbeats 2000000 in
theorem rpeekQ {f : Bool} {B rb : Nat} {v : Value} {R : List En} {w : World} (h : RQ w B rb f v R) (hr : Rs 0 R) (hlen : R.length ≤ 8796093022207) :
    Calls Try.prog 13 #[.pointer (some ⟨rb, 0, none⟩)] w fun e w' => e = .returned (.tuple #[pv (ans (mn (kB f) (fun _ => true) R)), .bool (mn (kB f) (fun _ => true) R).isSome]) ∧ Below w.heap.size w w' := by
  have b1 : Below w.heap.size w (w.alloc zPr) := (Below.refl _ _).alloc (Nat.le_refl _) _
  have h1 := h.later b1
  have HFI := hide (first_any f true 0 B rb v R (w.alloc zPr) h1 hr (by omega))
  have HH := hide h1
  have HRS := hide hr
  have B1 := hide b1
  obtain ⟨M, hM⟩ : ∃ M, Hid (mn (kB f) (fun _ => true) R = M) := ⟨_, hide rfl⟩
  rw [hM.out]
  clear h h1 b1 hr hlen
  go_enter Try.func13, Try.ntmps13
  go_wp2_with fail
  refine HFI.out.mono ?_
  rintro e w1 ⟨F, rfl, hF, hb1⟩
  have RD := hide (blk_later (alloc_new w zPr) hb1)
  have B2 := hide (B1.out.trans (hb1.mono (by simp)))
  have hw := HH.out.later hb1
  rw [pW_all] at hF
  rcases hF.mn HRS.out with ⟨rfl, em⟩ | ⟨m, y, rfl, hy, em⟩
  · rw [hM.out] at em
    subst em
    have d1 : decide ((-1 : Int) < 0) = true := rfl
    clear hF hw hb1 HFI hM
    go_wp2_with (refine wpList_store_row rfl 25 _ _ rfl w.heap.size #[.int .i64 0, .int .i64 0] rfl rfl _ _ RD.out Try.sizePr rfl (by simp [Value.oneCell']) ?_)
    refine bodyPost_ret (v := .tuple #[pv (0, 0), .bool false]) ?_ rfl ⟨rfl, belowRow B2.out (Nat.le_refl _)⟩
    rw [results_cell_tmp rfl]
    simp only [asAddr]
    have hld := run_loadVar_row (P := Try.prog) (w1.setRow w.heap.size #[.int .i64 0, .int .i64 0]) w.heap.size 25 25 #[.int .i64 0, .int .i64 0] (0, 0) _ (setRow_heap _ _ _ _ _ _ RD.out) Try.underlying25 rfl Try.sizePr
    simp [Result.andThen, hld, pv]
  · rw [hM.out] at em
    subst em
    have hml := (List.getElem?_eq_some_iff.1 hy).1
    have d1 : decide ((m : Int) < 0) = false := by rw [decide_eq_false_iff_not]; omega
    have c1 := hw.c1
    obtain ⟨g, cap, hv⟩ : ∃ g cap, v = .slice (some ⟨g, 0, none⟩) R.length cap := by
      rcases hw.row.2 with ⟨_, e⟩ | ⟨g, cap, cur, e, _⟩
      · rw [fs_len] at e; omega
      · rw [fs_len] at e; exact ⟨g, cap, e⟩
    subst hv
    obtain ⟨_, y0, y1⟩ := hw.row.cellsP (fs_at hy)
    have k0 : (0 : Int) ≤ (m : Int) := by omega
    have k1 : (m : Int) < (R.length : Int) := by omega
    clear hF hw hb1 HFI hy HH HRS hM
    generalize R.length = n at *
    go_wp2_with (refine wpList_store_row rfl 25 _ _ rfl w.heap.size #[.int .i64 y.1.1, .int .i64 y.1.2] rfl rfl _ _ RD.out Try.sizePr rfl (by simp [Value.oneCell']) ?_)
    refine bodyPost_ret (v := .tuple #[pv y.1, .bool true]) ?_ rfl ⟨rfl, belowRow B2.out (Nat.le_refl _)⟩
    rw [results_cell_tmp rfl]
    simp only [asAddr]
    have hld := run_loadVar_row (P := Try.prog) (w1.setRow w.heap.size #[.int .i64 y.1.1, .int .i64 y.1.2]) w.heap.size 25 25 #[.int .i64 y.1.1, .int .i64 y.1.2] (0, 0) _ (setRow_heap _ _ _ _ _ _ RD.out) Try.underlying25 rfl Try.sizePr
    simp [Result.andThen, hld, pv]
set_option maxRecDepth 100000 in
set_option maxHeartbeats 4000000 in
theorem rpushQ (x : Pr) (N : Nat) {f : Bool} {B rb : Nat} {v : Value} {R : List En} {w : World} (h : RQ w B rb f v R) (hlen : R.length + 1 ≤ 8796093022207) :
    Calls Try.prog 11 #[.pointer (some ⟨rb, 0, none⟩), pv x] w fun e w' => (∃ u, e = .returned u) ∧ ∃ v', RQ w' B rb f v' (R ++ [(x, N)]) ∧ Fq w w' rb v v' := by
  obtain ⟨x1, x2⟩ := x
  unfold pv
  dsimp only
  obtain ⟨W1, hW1⟩ : ∃ W, Hid (w.alloc (.cells #[.int .i64 x1, .int .i64 x2] 25) = W) := ⟨_, hide rfl⟩
  have b1 : Below w.heap.size w W1 := by rw [← hW1.out]; exact (Below.refl _ _).alloc (Nat.le_refl _) _
  have p1 : W1.heap[w.heap.size]? = some (.cells #[.int .i64 x1, .int .i64 x2] 25 (0, 0)) := by rw [← hW1.out]; exact alloc_new w _
  have h1 := h.later b1
  obtain ⟨W2, hW2⟩ : ∃ W, Hid ((W1.alloc (.cells #[.int .i64 x1, .int .i64 x2] 25)).drew = W) := ⟨_, hide rfl⟩
  have b2 : Below W1.heap.size W1 W2 := by rw [← hW2.out]; exact ((Below.refl _ W1).alloc (Nat.le_refl _) _).trans drew_below
  have l2 : W2.heap[W1.heap.size]? = some (.cells #[.int .i64 x1, .int .i64 x2] 25 (0, 0)) := by rw [← hW2.out]; exact alloc_new W1 _
  have h2 := h1.later b2
  have p2 := blk_later p1 b2
  obtain ⟨v', W3, hrun, o3, g3, q3⟩ := run_append_pr W2 B 29 v (fs R) h2.row W1.heap.size (x1, x2) l2 (by rw [fs_len]; omega) h2.bw
  have o3' : OM W3 B v' (fs (R ++ [((x1, x2), N)])) := by
    have : fs (R ++ [((x1, x2), N)]) = fs R ++ [(x1, x2)] := by unfold fs; simp
    rw [this]; exact o3
  have hhd : some rb ≠ v.ownBlock := om_ne h2.row h2.hdr (by decide)
  have hpd : some w.heap.size ≠ v.ownBlock := fun e => by have := (h.row.lt _ e.symm).2; omega
  have hd3 := (g3.block rb (blk_lt h2.hdr) hhd).trans h2.hdr
  have p3 := (g3.block w.heap.size (blk_lt p2) hpd).trans p2
  have h4 : RQ (W3.setCell ⟨rb, 1, none⟩ v') B rb f v' (R ++ [((x1, x2), N)]) := by
    have e1 := setCell_eq_setRow W3 rb 1 _ _ _ v' hd3
    exact ⟨by rw [e1]; exact setRow_heap W3 rb _ _ _ _ hd3, owns_later o3' (fun g hg => Below.heap_setCell _ _ _ g (fun e => om_ne o3' hd3 (by decide) (by rw [show rb = g from e.symm]; exact hg.symm))), by rw [(setCell_rest W3 _ v').2.2.2]; exact Nat.le_trans h2.bw g3.size, h.bh⟩
  have f4 : Fq w (W3.setCell ⟨rb, 1, none⟩ v') rb v v' := by
    have q1 : Fq w W2 rb v v := Fq.of_below (b1.trans (b2.mono b1.size))
    exact q1.trans ⟨g3.os, g3.tape, g3.output, by rw [(setCell_rest W3 _ v').2.2.2]; exact g3.size, fun g hg a1 a2 => (Below.heap_setCell _ _ _ g a1).trans (g3.block g hg a2), q3⟩
  have HE := hide (And.intro h4 f4)
  obtain ⟨a', cap', hv'⟩ := rm_lt o3.rm
  obtain ⟨a, cap, hv⟩ := rm_lt h.row.rm
  have f3 : W3.frozen? ⟨rb, 1, none⟩ = false := by unfold World.frozen?; simp [hd3]
  have hS : ∀ W : World, W.heap[rb]? = some (.cells #[.bool f, v] 31 (0, 0)) → W.heap[w.heap.size]? = some (.cells #[.int .i64 x1, .int .i64 x2] 25 (0, 0)) → W.cell? ⟨rb, 1, none⟩ = some v ∧ W.cell? ⟨w.heap.size, 0, none⟩ = some (.int .i64 x1) ∧ W.cell? ⟨w.heap.size, 1, none⟩ = some (.int .i64 x2) := fun W e1 e2 =>
    ⟨by rw [cell_of_row _ _ 1 _ _ _ e1]; rfl, by rw [cell_of_row _ _ 0 _ _ _ e2]; rfl, by rw [cell_of_row _ _ 1 _ _ _ e2]; rfl⟩
  have hHeld := hide (hS W1.drew h1.hdr p1)
  have HS2 := hide (hS W2 h2.hdr p2)
  have HS3 := hide (hS W3 hd3 p3)
  have c3 := HS3.out.1
  have HRUN : Hid (∀ ty, (Builtin.append_ #[29, 29] ty #[v, .slice (some ⟨W1.heap.size, 0, none⟩) 1 1]).run Try.prog W2 = .ok v' W3) := hide (fun ty => hrun)
  generalize (fs R ++ [(x1, x2)]).length = m at *
  generalize (fs R).length = n at *
  subst hv
  subst hv'
  clear h h1 h2 h4 f4 b1 b2 p1 p2 p3 l2 o3 o3' g3 q3 hhd hpd hd3 hlen hS hrun
  go_enter Try.func11, Try.ntmps11
  go_wp2_with fail
  rw [hW1.out]
  refine s_begins (S := fun W => W.cell? ⟨rb, 1, none⟩ = some (.slice a n cap) ∧ W.cell? ⟨w.heap.size, 0, none⟩ = some (.int .i64 x1) ∧ W.cell? ⟨w.heap.size, 1, none⟩ = some (.int .i64 x2)) [10] 11 #[false, false, false, false, false, false, false, false, false, false, false] (by kernel_rfl) (by kernel_rfl) (by kernel_rfl) ?_
  refine sk0 (v := ?_) 0 4 #[true, false, false, false, false, false, false, false, false, false, false] rfl rfl (by kernel_rfl) (by kernel_rfl) (by kernel_rfl) (by kernel_rfl) (fun _ _ _ h => h) (by kernel_rfl) (by rfl) ?hy (fun _ => hHeld.out) ?_
  case hy => intro W; first | (go_simp; done) | (go_simp; with_reducible rfl)
  simp only [List.setIfInBounds_toArray, List.set_cons_zero, List.set_cons_succ]
  refine sk0 (v := ?_) 1 5 #[true, true, false, false, false, false, false, false, false, false, false] rfl rfl (by kernel_rfl) (by kernel_rfl) (by kernel_rfl) (by kernel_rfl) (fun _ _ _ h => h) (by kernel_rfl) (by rfl) ?hy (fun _ => hHeld.out) ?_
  case hy => intro W; first | (go_simp; done) | (go_simp; with_reducible rfl)
  simp only [List.setIfInBounds_toArray, List.set_cons_zero, List.set_cons_succ]
  refine sk0 (v := ?_) 2 6 #[true, true, true, false, false, false, false, false, false, false, false] rfl rfl (by kernel_rfl) (by kernel_rfl) (by kernel_rfl) (by kernel_rfl) (fun _ _ _ h => h) (by kernel_rfl) (by rfl) ?hy (fun _ => hHeld.out) ?_
  case hy => intro W; first | (go_simp; done) | (go_simp; with_reducible rfl)
  simp only [List.setIfInBounds_toArray, List.set_cons_zero, List.set_cons_succ]
  refine sk0 (v := ?_) 3 7 #[true, true, true, true, false, false, false, false, false, false, false] rfl rfl (by kernel_rfl) (by kernel_rfl) (by kernel_rfl) (by kernel_rfl) (fun _ _ _ h => h) (by kernel_rfl) (by rfl) ?hy (fun _ => hHeld.out) ?_
  case hy => intro W; first | (go_simp; done) | (go_simp; with_reducible rfl)
  simp only [List.setIfInBounds_toArray, List.set_cons_zero, List.set_cons_succ]
  refine sk1 (v := ?_) 4 8 #[true, true, true, true, true, false, false, false, false, false, false] rfl rfl (by kernel_rfl) (by kernel_rfl) (by kernel_rfl) (by kernel_rfl) (by kernel_rfl) (by kernel_rfl) (fun _ _ _ h => h) (by kernel_rfl) (by rfl) ?hy hHeld.out ?_
  case hy => rintro W ⟨e1, e2, e4⟩; first | (go_simp; done) | (go_simp; with_reducible rfl)
  simp only [List.setIfInBounds_toArray, List.set_cons_zero, List.set_cons_succ]
  refine sk1 (v := ?_) 5 9 #[true, true, true, true, true, true, false, false, false, false, false] rfl rfl (by kernel_rfl) (by kernel_rfl) (by kernel_rfl) (by kernel_rfl) (by kernel_rfl) (by kernel_rfl) (fun _ _ _ h => h) (by kernel_rfl) (by rfl) ?hy hHeld.out ?_
  case hy => rintro W ⟨e1, e2, e4⟩; first | (go_simp; done) | (go_simp; with_reducible rfl)
  simp only [List.setIfInBounds_toArray, List.set_cons_zero, List.set_cons_succ]
  refine s_ready 6 #[true, true, true, true, true, true, true, false, false, false, false] rfl (by kernel_rfl) (by kernel_rfl) (by rfl) (fun K hK => ?_)
  go_simp
  rw [hW2.out]
  refine hK.out _ _ (fun _ => HS2.out) ?_
  clear hK K
  refine s_ready 7 #[true, true, true, true, true, true, true, true, false, false, false] rfl (by kernel_rfl) (by kernel_rfl) (by rfl) (fun K hK => ?_)
  refine op_append_gen _ _ rfl (.slice a n cap) ⟨W1.heap.size, 0, none⟩ 1 1 rfl rfl _ W3 (HRUN.out _) ?_
  simp only [Act.put, List.setIfInBounds_toArray]
  refine hK.out _ _ (fun _ => HS3.out) ?_
  clear hK K
  refine s_ready 8 #[true, true, true, true, true, true, true, true, true, false, false] rfl (by kernel_rfl) (by kernel_rfl) (by rfl) (fun K hK => ?_)
  go_simp
  refine hK.out _ _ (fun _ => HS3.out) ?_
  clear hK K
  refine s_ready 9 #[true, true, true, true, true, true, true, true, true, true, false] rfl (by kernel_rfl) (by kernel_rfl) (by rfl) (fun K hK => ?_)
  go_simp
  refine hK.out _ _ (fun _ => HS3.out) ?_
  clear hK K
  refine s_ready 10 #[true, true, true, true, true, true, true, true, true, true, true] rfl (by kernel_rfl) (by kernel_rfl) (by rfl) (fun K hK => ?_)
  go_simp
  refine hK.out _ _ (fun h => absurd h (by decide)) ?_
  clear hK K
  refine s_done (by kernel_rfl) ?_ _
  go_wp2_with fail
  refine bodyPost_end (results_none rfl _ _ _) rfl ?_
  exact ⟨⟨_, rfl⟩, _, HE.out.1, HE.out.2⟩
end Go.Proofs.Ytegemfkadclnkaa
