/-
  My own text: a marked operation written, by the program: the order of two operations is left open (printed by mkg21.py).
-/
import Derived.Test.YtdiamlajmcikhaaGreatDoorG20
namespace Go.Proofs.YtdiamlajmcikhaaGreatDoor
open Go.RowKit

section
variable {P : Program} {ops : Array Oper} {Q : Exit → Act → World → Prop} {md : Region.Mode} {S : World → Prop} {z : Nat}
/-- Two may come up. -/
theorem z_ready2 {f : Nat} {ls : Array Bool} {a : Act} {w : World} {oi oj : Oper} (i j : Nat) (lsi lsj : Array Bool) (hi : ops[i]? = some oi) (hj : ops[j]? = some oj) (hr : Region.ready md ops ls = [i, j]) (hli : ls.setIfInBounds i true = lsi) (hlj : ls.setIfInBounds j true = lsj)
    (hwi : Region.wanted oi (yielded ops a.tmps) = true) (hwj : Region.wanted oj (yielded ops a.tmps) = true)
    (h1 : ∀ K' : Act → World → Prop, Shut (∀ a w, (i ≠ z → S w) → ((i ≠ z → S w) → anyZ P md ops Q S z f lsi a w) → K' a w) → Oper.wp P oi a w K' Q)
    (h2 : ∀ K' : Act → World → Prop, Shut (∀ a w, (j ≠ z → S w) → ((j ≠ z → S w) → anyZ P md ops Q S z f lsj a w) → K' a w) → Oper.wp P oj a w K' Q) : anyZ P md ops Q S z (f + 1) ls a w := by
  refine ⟨fun h0 => (by rw [hr] at h0; cases h0), fun n hn => ?_⟩
  rw [hr] at hn
  rcases List.mem_cons.1 hn with rfl | hn
  · refine wpOp_step hi (fun K' hK => ?_)
    rw [if_pos hwi]
    refine h1 K' (fun a w h1 h2 => hK a w ⟨h1, ?_⟩)
    rw [hli]; exact h2 h1
  · obtain rfl := List.mem_singleton.1 hn
    refine wpOp_step hj (fun K' hK => ?_)
    rw [if_pos hwj]
    refine h2 K' (fun a w h1 h2 => hK a w ⟨h1, ?_⟩)
    rw [hlj]; exact h2 h1
theorem op_call_fn {o : Oper} {a : Act} {K : Act → World → Prop} {w : World} (f : FuncId) (args : Array Value) (he : (execOp a.eval o).run P w = .ok (.enter f args) w) (h : Calls P f args w fun e w' => ∃ v, e = .returned v ∧ K (a.put o.dst v) w') : o.wp P a w K Q := by
  unfold Oper.wp
  rw [he, Oper.upon_enter]
  refine h.mono ?_
  rintro e w' ⟨v, rfl, hk⟩
  exact hk
end
set_option maxRecDepth 100000 in
set_option maxHeartbeats 4000000 in
theorem withMark_any (cd ac as_ qt nm id : Int) (lv pv v : Value) (R : List Int) (w0 w : World) (hB : Below w0.heap.size w0 w) (hO : LN.OM w w0.heap.size v R) (hn : R.length + 4 ≤ 17592186044416) :
    Calls Tryz.prog 67 #[v, .agg #[.int .i64 cd, .int .i64 ac, .int .i64 as_, .int .i64 qt, .int .i64 nm, .int .i64 id, lv, pv]] w fun e w' => ∃ v', e = .returned v' ∧ LN.OM w' w0.heap.size v' (R ++ [ac, as_, qt, nm]) ∧ Below w0.heap.size w0 w' := by
  obtain ⟨i0, hi, hz0, hz1, hz2⟩ := info_parts LN.Tryz.infoB
  have HII := hide (And.intro hi (And.intro hz0 (And.intro hz1 hz2)))
  obtain ⟨ra, rc, hv⟩ := LN.OM.slice hO
  subst hv
  have HW := hide (fun (W : World) (hb : Below w0.heap.size w0 W) (ho : LN.OM W w0.heap.size (.slice ra R.length rc) R) => withHeld_any cd ac as_ qt nm id lv pv (.slice ra R.length rc) R w0 W hb ho (by omega))
  have HB1 := hide (hB.alloc hB.size (.cells #[.int .i64 cd, .int .i64 ac, .int .i64 as_, .int .i64 qt, .int .i64 nm, .int .i64 id, lv, pv] 26))
  have HO1 := hide (show LN.OM (w.alloc (.cells #[.int .i64 cd, .int .i64 ac, .int .i64 as_, .int .i64 qt, .int .i64 nm, .int .i64 id, lv, pv] 26)) w0.heap.size (.slice ra R.length rc) R from World.ownsRow.alloc hO _)
  have Z1 := hide (alloc_new w (.cells #[.int .i64 cd, .int .i64 ac, .int .i64 as_, .int .i64 qt, .int .i64 nm, .int .i64 id, lv, pv] 26))
  clear hO hi hz0 hz1 hz2
  go_enter Tryz.func67, Tryz.ntmps67
  go_wp2_with fail
  obtain ⟨O, hO⟩ : ∃ O, O = w.heap.size := ⟨_, rfl⟩
  rw [← hO] at Z1 ⊢
  generalize w.alloc (.cells #[.int .i64 cd, .int .i64 ac, .int .i64 as_, .int .i64 qt, .int .i64 nm, .int .i64 id, lv, pv] 26) = V at *
  clear hO
  have hS0 : V.cell? ⟨O, 0, none⟩ = some (.int .i64 cd) ∧ V.cell? ⟨O, 1, none⟩ = some (.int .i64 ac) ∧ V.cell? ⟨O, 2, none⟩ = some (.int .i64 as_) ∧ V.cell? ⟨O, 3, none⟩ = some (.int .i64 qt) ∧ V.cell? ⟨O, 4, none⟩ = some (.int .i64 nm) ∧ V.cell? ⟨O, 5, none⟩ = some (.int .i64 id) ∧ V.cell? ⟨O, 6, none⟩ = some (lv) ∧ V.cell? ⟨O, 7, none⟩ = some (pv) := ⟨by rw [cell_of_row _ _ 0 _ _ _ Z1.out]; rfl, by rw [cell_of_row _ _ 1 _ _ _ Z1.out]; rfl, by rw [cell_of_row _ _ 2 _ _ _ Z1.out]; rfl, by rw [cell_of_row _ _ 3 _ _ _ Z1.out]; rfl, by rw [cell_of_row _ _ 4 _ _ _ Z1.out]; rfl, by rw [cell_of_row _ _ 5 _ _ _ Z1.out]; rfl, by rw [cell_of_row _ _ 6 _ _ _ Z1.out]; rfl, by rw [cell_of_row _ _ 7 _ _ _ Z1.out]; rfl⟩
  refine z_begins (S := fun W => W.cell? ⟨O, 0, none⟩ = some (.int .i64 cd) ∧ W.cell? ⟨O, 1, none⟩ = some (.int .i64 ac) ∧ W.cell? ⟨O, 2, none⟩ = some (.int .i64 as_) ∧ W.cell? ⟨O, 3, none⟩ = some (.int .i64 qt) ∧ W.cell? ⟨O, 4, none⟩ = some (.int .i64 nm) ∧ W.cell? ⟨O, 5, none⟩ = some (.int .i64 id) ∧ W.cell? ⟨O, 6, none⟩ = some (lv) ∧ W.cell? ⟨O, 7, none⟩ = some (pv)) 7 8 #[false, false, false, false, false, false, false, false] (by kernel_rfl) (by kernel_rfl) (by kernel_rfl) hS0 (fun hHeld => ?_)
  refine zk (v := ?_) 0 5 #[true, false, false, false, false, false, false, false] rfl rfl (by kernel_rfl) (by kernel_rfl) (by kernel_rfl) (by kernel_rfl) (fun _ _ _ h => h) (by kernel_rfl) (by rfl) ?hy hHeld ?_
  case hy => rintro W ⟨q0, q1, q2, q3, q4, q5, q6, q7⟩; first | (go_simp; done) | (go_simp; with_reducible rfl)
  simp only [List.setIfInBounds_toArray, List.set_cons_zero, List.set_cons_succ]
  refine zk (v := ?_) 1 6 #[true, true, false, false, false, false, false, false] rfl rfl (by kernel_rfl) (by kernel_rfl) (by kernel_rfl) (by kernel_rfl) (fun _ _ _ h => h) (by kernel_rfl) (by rfl) ?hy hHeld ?_
  case hy => rintro W ⟨q0, q1, q2, q3, q4, q5, q6, q7⟩; first | (go_simp; done) | (go_simp; with_reducible rfl)
  simp only [List.setIfInBounds_toArray, List.set_cons_zero, List.set_cons_succ]
  refine zk (v := ?_) 3 8 #[true, true, false, true, false, false, false, false] rfl rfl (by kernel_rfl) (by kernel_rfl) (by kernel_rfl) (by kernel_rfl) (fun _ _ _ h => h) (by kernel_rfl) (by rfl) ?hy hHeld ?_
  case hy => rintro W ⟨q0, q1, q2, q3, q4, q5, q6, q7⟩; first | (go_simp; done) | (go_simp; with_reducible rfl)
  simp only [List.setIfInBounds_toArray, List.set_cons_zero, List.set_cons_succ]
  refine zk (v := ?_) 4 9 #[true, true, false, true, true, false, false, false] rfl rfl (by kernel_rfl) (by kernel_rfl) (by kernel_rfl) (by kernel_rfl) (fun _ _ _ h => h) (by kernel_rfl) (by rfl) ?hy hHeld ?_
  case hy => rintro W ⟨q0, q1, q2, q3, q4, q5, q6, q7⟩; first | (go_simp; done) | (go_simp; with_reducible rfl)
  simp only [List.setIfInBounds_toArray, List.set_cons_zero, List.set_cons_succ]
  have b0 : Below V.heap.size V V.drew := drew_below
  have HBd := hide (HB1.out.trans (b0.mono HB1.out.size))
  have HOd := hide (show LN.OM V.drew w0.heap.size (.slice ra R.length rc) R from owns_lat HO1.out b0)
  have Zd := hide (blk_later Z1.out b0)
  refine z_ready2 2 5 #[true, true, true, true, true, false, false, false] #[true, true, false, true, true, true, false, false] rfl rfl (by kernel_rfl) (by kernel_rfl) (by kernel_rfl) (by rfl) (by rfl) (fun K hK => ?_) (fun K hK => ?_)
  · refine op_call_fn 64 #[.slice ra R.length rc, .agg #[.int .i64 cd, .int .i64 ac, .int .i64 as_, .int .i64 qt, .int .i64 nm, .int .i64 id, lv, pv]] (by kernel_rfl) ?_
    refine (HW.out _ HBd.out HOd.out).mono ?_
    rintro e w3 ⟨g, cap, rfl, hO3, hg3, hb3⟩
    refine ⟨_, rfl, ?_⟩
    go_simp
    have Z3 := hide ((hg3.block O (Array.getElem?_eq_some_iff.1 Zd.out).1 (fun e => by
      obtain ⟨c2, fz, h2⟩ := ownsRow_kind HOd.out _ e.symm
      rw [Zd.out] at h2
      injection h2 with h2
      injection h2 with _ h2 _
      exact absurd h2 (by decide))).trans Zd.out)
    have HS3 : Hid (w3.cell? ⟨O, 0, none⟩ = some (.int .i64 cd) ∧ w3.cell? ⟨O, 1, none⟩ = some (.int .i64 ac) ∧ w3.cell? ⟨O, 2, none⟩ = some (.int .i64 as_) ∧ w3.cell? ⟨O, 3, none⟩ = some (.int .i64 qt) ∧ w3.cell? ⟨O, 4, none⟩ = some (.int .i64 nm) ∧ w3.cell? ⟨O, 5, none⟩ = some (.int .i64 id) ∧ w3.cell? ⟨O, 6, none⟩ = some (lv) ∧ w3.cell? ⟨O, 7, none⟩ = some (pv)) := hide ⟨by rw [cell_of_row _ _ 0 _ _ _ Z3.out]; rfl, by rw [cell_of_row _ _ 1 _ _ _ Z3.out]; rfl, by rw [cell_of_row _ _ 2 _ _ _ Z3.out]; rfl, by rw [cell_of_row _ _ 3 _ _ _ Z3.out]; rfl, by rw [cell_of_row _ _ 4 _ _ _ Z3.out]; rfl, by rw [cell_of_row _ _ 5 _ _ _ Z3.out]; rfl, by rw [cell_of_row _ _ 6 _ _ _ Z3.out]; rfl, by rw [cell_of_row _ _ 7 _ _ _ Z3.out]; rfl⟩
    have HO3 := hide hO3
    have HB3 := hide hb3
    clear hO3 hg3 hb3
    refine hK.out _ _ (fun _ => HS3.out) (fun hHeld => ?_)
    clear hK K
    obtain ⟨W4, hW4⟩ : ∃ x, w3.alloc (.cells #[.int .i64 nm] 2) = x := ⟨_, rfl⟩
    have b4 : Below w3.heap.size w3 W4 := by rw [← hW4]; exact (Below.refl _ _).alloc (Nat.le_refl _) _
    have hc4 : W4.cell? ⟨w3.heap.size, 0, none⟩ = some (.int .i64 nm) := by rw [← hW4, cell_of_row _ _ 0 _ _ _ (alloc_new w3 _)]; rfl
    have HB4 := hide (HB3.out.trans (b4.mono HB3.out.size))
    have HO4 := hide (owns_lat HO3.out b4)
    have Z4 := hide (blk_later Z3.out b4)
    have HS4 : Hid (W4.cell? ⟨O, 0, none⟩ = some (.int .i64 cd) ∧ W4.cell? ⟨O, 1, none⟩ = some (.int .i64 ac) ∧ W4.cell? ⟨O, 2, none⟩ = some (.int .i64 as_) ∧ W4.cell? ⟨O, 3, none⟩ = some (.int .i64 qt) ∧ W4.cell? ⟨O, 4, none⟩ = some (.int .i64 nm) ∧ W4.cell? ⟨O, 5, none⟩ = some (.int .i64 id) ∧ W4.cell? ⟨O, 6, none⟩ = some (lv) ∧ W4.cell? ⟨O, 7, none⟩ = some (pv)) := hide ⟨by rw [cell_of_row _ _ 0 _ _ _ Z4.out]; rfl, by rw [cell_of_row _ _ 1 _ _ _ Z4.out]; rfl, by rw [cell_of_row _ _ 2 _ _ _ Z4.out]; rfl, by rw [cell_of_row _ _ 3 _ _ _ Z4.out]; rfl, by rw [cell_of_row _ _ 4 _ _ _ Z4.out]; rfl, by rw [cell_of_row _ _ 5 _ _ _ Z4.out]; rfl, by rw [cell_of_row _ _ 6 _ _ _ Z4.out]; rfl, by rw [cell_of_row _ _ 7 _ _ _ Z4.out]; rfl⟩
    refine z_ready 5 #[true, true, true, true, true, true, false, false] rfl (by kernel_rfl) (by kernel_rfl) (by rfl) (fun K hK => ?_)
    go_simp
    refine hK.out _ _ (fun _ => HS4.out) (fun hHeld => ?_)
    clear hK K
    have ho3 : W4.ownsRow w0.heap.size 2 1 (.slice (some ⟨g, 0, none⟩) (R.length + 3) cap) (R.length + 3) (LN.mc (R ++ [ac, as_, qt])) := by
      have h9 := HO4.out
      unfold LN.OM at h9
      rw [List.length_append] at h9
      exact h9
    obtain ⟨g9, cap9, w9, hrun, hO9, hg9, _, _⟩ := run_append_lies (P := Tryz.prog) W4 51 51 w0.heap.size 2 i0 _ 1 8 Tryz.underlying51 HII.out.1 HII.out.2.1 HII.out.2.2.1 HII.out.2.2.2 rfl (by decide) (.slice (some ⟨g, 0, none⟩) (R.length + 3) cap) (R.length + 3) _ ho3 ⟨w3.heap.size, 0, none⟩ 1 1 [.int .i64 nm] rfl (by intro j u hj; match j, hj with | 0, hj => cases hj; simpa [Addr.add] using hc4) (by intro u hu; simp at hu; subst hu; rfl) (by decide) (by unfold maxLen; omega) (by omega) HB4.out.size _ rfl
    have HFO : Hid (LN.OM w9 w0.heap.size (.slice (some ⟨g9, 0, none⟩) (R.length + 3 + 1) cap9) (R ++ [ac, as_, qt, nm])) := hide (by
      unfold LN.OM
      rw [show R ++ [ac, as_, qt, nm] = (R ++ [ac, as_, qt]) ++ [nm] by simp, LN.mc_app]
      simp only [List.length_append, List.length_cons, List.length_nil]
      exact hO9)
    have HFB := hide (HB4.out.grown hg9 HB4.out.size (fun k hk => (World.ownsRow.lt ho3 k hk).1))
    have Z9 := hide ((hg9.block O (Array.getElem?_eq_some_iff.1 Z4.out).1 (fun e => by
      obtain ⟨c2, fz, h2⟩ := ownsRow_kind ho3 _ e.symm
      rw [Z4.out] at h2
      injection h2 with h2
      injection h2 with _ h2 _
      exact absurd h2 (by decide))).trans Z4.out)
    have HS9 : Hid (w9.cell? ⟨O, 0, none⟩ = some (.int .i64 cd) ∧ w9.cell? ⟨O, 1, none⟩ = some (.int .i64 ac) ∧ w9.cell? ⟨O, 2, none⟩ = some (.int .i64 as_) ∧ w9.cell? ⟨O, 3, none⟩ = some (.int .i64 qt) ∧ w9.cell? ⟨O, 4, none⟩ = some (.int .i64 nm) ∧ w9.cell? ⟨O, 5, none⟩ = some (.int .i64 id) ∧ w9.cell? ⟨O, 6, none⟩ = some (lv) ∧ w9.cell? ⟨O, 7, none⟩ = some (pv)) := hide ⟨by rw [cell_of_row _ _ 0 _ _ _ Z9.out]; rfl, by rw [cell_of_row _ _ 1 _ _ _ Z9.out]; rfl, by rw [cell_of_row _ _ 2 _ _ _ Z9.out]; rfl, by rw [cell_of_row _ _ 3 _ _ _ Z9.out]; rfl, by rw [cell_of_row _ _ 4 _ _ _ Z9.out]; rfl, by rw [cell_of_row _ _ 5 _ _ _ Z9.out]; rfl, by rw [cell_of_row _ _ 6 _ _ _ Z9.out]; rfl, by rw [cell_of_row _ _ 7 _ _ _ Z9.out]; rfl⟩
    have HRUN := hide hrun
    refine z_ready 6 #[true, true, true, true, true, true, true, false] rfl (by kernel_rfl) (by kernel_rfl) (by rfl) (fun K hK => ?_)
    refine op_append_gen _ _ rfl (.slice (some ⟨g, 0, none⟩) (R.length + 3) cap) ⟨w3.heap.size, 0, none⟩ 1 1 rfl rfl _ w9 HRUN.out ?_
    simp only [Act.put, List.setIfInBounds_toArray]
    refine hK.out _ _ (fun _ => HS9.out) (fun hHeld => ?_)
    clear hK K
    refine z_ready 7 #[true, true, true, true, true, true, true, true] rfl (by kernel_rfl) (by kernel_rfl) (by rfl) (fun K hK => ?_)
    go_simp
    refine hK.out _ _ (fun h => absurd rfl h) (fun _ => ?_)
    clear hK K
    refine z_done (by kernel_rfl) ?_ _
    clear hrun hO9 hg9 HRUN HS9 hHeld
    go_wp2_with fail
    go_ret
    exact ⟨_, rfl, HFO.out, HFB.out⟩
  · obtain ⟨W4, hW4⟩ : ∃ x, V.drew.alloc (.cells #[.int .i64 nm] 2) = x := ⟨_, rfl⟩
    have b4 : Below V.drew.heap.size V.drew W4 := by rw [← hW4]; exact (Below.refl _ _).alloc (Nat.le_refl _) _
    have hc4 : W4.cell? ⟨V.heap.size, 0, none⟩ = some (.int .i64 nm) := by rw [← hW4, show V.heap.size = V.drew.heap.size from rfl, cell_of_row _ _ 0 _ _ _ (alloc_new V.drew _)]; rfl
    have hT4 : V.heap.size < W4.heap.size := World.block_lt_of_cell? W4 _ hc4
    have HB4 := hide (HBd.out.trans (b4.mono HBd.out.size))
    have HO4 := hide (show LN.OM W4 w0.heap.size (.slice ra R.length rc) R from owns_lat HOd.out b4)
    have Z4 := hide (blk_later Zd.out b4)
    have HLT := hide (fun b (e : (Value.slice ra R.length rc).ownBlock = some b) => (World.ownsRow.lt HOd.out b e).2)
    have HS4 : Hid (W4.cell? ⟨O, 0, none⟩ = some (.int .i64 cd) ∧ W4.cell? ⟨O, 1, none⟩ = some (.int .i64 ac) ∧ W4.cell? ⟨O, 2, none⟩ = some (.int .i64 as_) ∧ W4.cell? ⟨O, 3, none⟩ = some (.int .i64 qt) ∧ W4.cell? ⟨O, 4, none⟩ = some (.int .i64 nm) ∧ W4.cell? ⟨O, 5, none⟩ = some (.int .i64 id) ∧ W4.cell? ⟨O, 6, none⟩ = some (lv) ∧ W4.cell? ⟨O, 7, none⟩ = some (pv)) := hide ⟨by rw [cell_of_row _ _ 0 _ _ _ Z4.out]; rfl, by rw [cell_of_row _ _ 1 _ _ _ Z4.out]; rfl, by rw [cell_of_row _ _ 2 _ _ _ Z4.out]; rfl, by rw [cell_of_row _ _ 3 _ _ _ Z4.out]; rfl, by rw [cell_of_row _ _ 4 _ _ _ Z4.out]; rfl, by rw [cell_of_row _ _ 5 _ _ _ Z4.out]; rfl, by rw [cell_of_row _ _ 6 _ _ _ Z4.out]; rfl, by rw [cell_of_row _ _ 7 _ _ _ Z4.out]; rfl⟩
    go_simp
    refine hK.out _ _ (fun _ => HS4.out) (fun hHeld => ?_)
    clear hK K
    refine z_ready 2 #[true, true, true, true, true, true, false, false] rfl (by kernel_rfl) (by kernel_rfl) (by rfl) (fun K hK => ?_)
    refine op_call_fn 64 #[.slice ra R.length rc, .agg #[.int .i64 cd, .int .i64 ac, .int .i64 as_, .int .i64 qt, .int .i64 nm, .int .i64 id, lv, pv]] (by kernel_rfl) ?_
    refine (HW.out _ HB4.out HO4.out).mono ?_
    rintro e w3 ⟨g, cap, rfl, hO3, hg3, hb3⟩
    refine ⟨_, rfl, ?_⟩
    go_simp
    have Z3 := hide ((hg3.block O (Array.getElem?_eq_some_iff.1 Z4.out).1 (fun e => by
      obtain ⟨c2, fz, h2⟩ := ownsRow_kind HO4.out _ e.symm
      rw [Z4.out] at h2
      injection h2 with h2
      injection h2 with _ h2 _
      exact absurd h2 (by decide))).trans Z4.out)
    have hc5 : w3.cell? ⟨V.heap.size, 0, none⟩ = some (.int .i64 nm) := hg3.cell hc4 (fun e => by have h1 := HLT.out _ e.symm; exact absurd h1 (Nat.lt_irrefl _))
    have HS3 : Hid (w3.cell? ⟨O, 0, none⟩ = some (.int .i64 cd) ∧ w3.cell? ⟨O, 1, none⟩ = some (.int .i64 ac) ∧ w3.cell? ⟨O, 2, none⟩ = some (.int .i64 as_) ∧ w3.cell? ⟨O, 3, none⟩ = some (.int .i64 qt) ∧ w3.cell? ⟨O, 4, none⟩ = some (.int .i64 nm) ∧ w3.cell? ⟨O, 5, none⟩ = some (.int .i64 id) ∧ w3.cell? ⟨O, 6, none⟩ = some (lv) ∧ w3.cell? ⟨O, 7, none⟩ = some (pv)) := hide ⟨by rw [cell_of_row _ _ 0 _ _ _ Z3.out]; rfl, by rw [cell_of_row _ _ 1 _ _ _ Z3.out]; rfl, by rw [cell_of_row _ _ 2 _ _ _ Z3.out]; rfl, by rw [cell_of_row _ _ 3 _ _ _ Z3.out]; rfl, by rw [cell_of_row _ _ 4 _ _ _ Z3.out]; rfl, by rw [cell_of_row _ _ 5 _ _ _ Z3.out]; rfl, by rw [cell_of_row _ _ 6 _ _ _ Z3.out]; rfl, by rw [cell_of_row _ _ 7 _ _ _ Z3.out]; rfl⟩
    have HO3 := hide hO3
    have HB3 := hide hb3
    clear hO3 hg3 hb3 hc4
    refine hK.out _ _ (fun _ => HS3.out) (fun hHeld => ?_)
    clear hK K
    have ho3 : w3.ownsRow w0.heap.size 2 1 (.slice (some ⟨g, 0, none⟩) (R.length + 3) cap) (R.length + 3) (LN.mc (R ++ [ac, as_, qt])) := by
      have h9 := HO3.out
      unfold LN.OM at h9
      rw [List.length_append] at h9
      exact h9
    obtain ⟨g9, cap9, w9, hrun, hO9, hg9, _, _⟩ := run_append_lies (P := Tryz.prog) w3 51 51 w0.heap.size 2 i0 _ 1 8 Tryz.underlying51 HII.out.1 HII.out.2.1 HII.out.2.2.1 HII.out.2.2.2 rfl (by decide) (.slice (some ⟨g, 0, none⟩) (R.length + 3) cap) (R.length + 3) _ ho3 ⟨V.heap.size, 0, none⟩ 1 1 [.int .i64 nm] rfl (by intro j u hj; match j, hj with | 0, hj => cases hj; simpa [Addr.add] using hc5) (by intro u hu; simp at hu; subst hu; rfl) (by decide) (by unfold maxLen; omega) (by omega) HB3.out.size _ rfl
    have HFO : Hid (LN.OM w9 w0.heap.size (.slice (some ⟨g9, 0, none⟩) (R.length + 3 + 1) cap9) (R ++ [ac, as_, qt, nm])) := hide (by
      unfold LN.OM
      rw [show R ++ [ac, as_, qt, nm] = (R ++ [ac, as_, qt]) ++ [nm] by simp, LN.mc_app]
      simp only [List.length_append, List.length_cons, List.length_nil]
      exact hO9)
    have HFB := hide (HB3.out.grown hg9 HB3.out.size (fun k hk => (World.ownsRow.lt ho3 k hk).1))
    have Z9 := hide ((hg9.block O (Array.getElem?_eq_some_iff.1 Z3.out).1 (fun e => by
      obtain ⟨c2, fz, h2⟩ := ownsRow_kind ho3 _ e.symm
      rw [Z3.out] at h2
      injection h2 with h2
      injection h2 with _ h2 _
      exact absurd h2 (by decide))).trans Z3.out)
    have HS9 : Hid (w9.cell? ⟨O, 0, none⟩ = some (.int .i64 cd) ∧ w9.cell? ⟨O, 1, none⟩ = some (.int .i64 ac) ∧ w9.cell? ⟨O, 2, none⟩ = some (.int .i64 as_) ∧ w9.cell? ⟨O, 3, none⟩ = some (.int .i64 qt) ∧ w9.cell? ⟨O, 4, none⟩ = some (.int .i64 nm) ∧ w9.cell? ⟨O, 5, none⟩ = some (.int .i64 id) ∧ w9.cell? ⟨O, 6, none⟩ = some (lv) ∧ w9.cell? ⟨O, 7, none⟩ = some (pv)) := hide ⟨by rw [cell_of_row _ _ 0 _ _ _ Z9.out]; rfl, by rw [cell_of_row _ _ 1 _ _ _ Z9.out]; rfl, by rw [cell_of_row _ _ 2 _ _ _ Z9.out]; rfl, by rw [cell_of_row _ _ 3 _ _ _ Z9.out]; rfl, by rw [cell_of_row _ _ 4 _ _ _ Z9.out]; rfl, by rw [cell_of_row _ _ 5 _ _ _ Z9.out]; rfl, by rw [cell_of_row _ _ 6 _ _ _ Z9.out]; rfl, by rw [cell_of_row _ _ 7 _ _ _ Z9.out]; rfl⟩
    have HRUN := hide hrun
    refine z_ready 6 #[true, true, true, true, true, true, true, false] rfl (by kernel_rfl) (by kernel_rfl) (by rfl) (fun K hK => ?_)
    refine op_append_gen _ _ rfl (.slice (some ⟨g, 0, none⟩) (R.length + 3) cap) ⟨V.heap.size, 0, none⟩ 1 1 rfl rfl _ w9 HRUN.out ?_
    simp only [Act.put, List.setIfInBounds_toArray]
    refine hK.out _ _ (fun _ => HS9.out) (fun hHeld => ?_)
    clear hK K
    refine z_ready 7 #[true, true, true, true, true, true, true, true] rfl (by kernel_rfl) (by kernel_rfl) (by rfl) (fun K hK => ?_)
    go_simp
    refine hK.out _ _ (fun h => absurd rfl h) (fun _ => ?_)
    clear hK K
    refine z_done (by kernel_rfl) ?_ _
    clear hrun hO9 hg9 HRUN HS9 hHeld
    go_wp2_with fail
    go_ret
    exact ⟨_, rfl, HFO.out, HFB.out⟩
end Go.Proofs.YtdiamlajmcikhaaGreatDoor
