/-
  My own text: the document's Sorted (printed by mkph1.py).
-/
import Derived.Test.YtegemfkadclnkaaPC8
import Derived.Test.YtegemfkadclnkaaSM
namespace Go.Proofs.Ytegemfkadclnkaa
open Go.RowKit

theorem op_append_any {P : Program} {o : Oper} {a : Act} {K : Act → World → Prop} {Q : Exit → Act → World → Prop} {w : World} {t : TypeId} (s x : Operand) (ho : o.op = .call { callee := .builtin .append, args := #[s, x], argTypes := #[t, t] }) (v u : Value) (hs : a.eval s = v) (hx : a.eval x = u)
    (v' : Value) (w' : World) (hr : (Builtin.append_ #[t, t] o.type #[v, u]).run P w = .ok v' w') (h : K (a.put o.dst v') w') : o.wp P a w K Q := by
  unfold Oper.wp execOp
  simp only [ho, resolve, invoke, builtin, Sem.run_bind, Sem.run_pure, Result.andThen_ok, List.map_toArray, List.map_cons, List.map_nil, hs, hx, hr]
  exact h
theorem go_stop_here {p : Prop} (h : id p) : p := h
theorem two_new (w : World) (a b : Obj) : ((w.alloc a).alloc b).heap[w.heap.size + 1]? = some b := by rw [show w.heap.size + 1 = (w.alloc a).heap.size by simp]; exact alloc_new _ _
/-- append(nil, pairs..). -/
theorem run_copyM (w : World) (ty : TypeId) (B : Nat) (v : Value) (L : List Pr) (h : OM w B v L) (hn : L.length ≤ 8796093022208) :
    ∃ v' w', (Builtin.append_ #[29, 29] ty #[.slice none 0 0, v]).run Try.prog w = .ok v' w' ∧ OM w' w.heap.size v' L ∧ Below w.heap.size w w' := by
  obtain ⟨i0, hi, hz0, hz1, hz2⟩ := info_parts Try.infoMk
  have h' := h
  rcases h.2 with ⟨rfl, h0⟩ | ⟨g, cap, cur, rfl, hb, hh, hc, hm, hcs, hx⟩
  · obtain rfl : L = [] := List.eq_nil_of_length_eq_zero h0
    refine ⟨.slice none 0 0, w, ?_, World.ownsRow_nil _ _ _ 2, Below.refl _ _⟩
    simp [Builtin.append_, run_underlying Try.underlying29, sizeOf, typeInfo, hi, Builtin.lenOf, Builtin.firstCells]
  · obtain ⟨v', w', hrun, r1, r2, r3⟩ := run_append_own2 (P := Try.prog) w w.heap.size 29 ty 25 i0 _ 2 16 Try.underlying29 hi hz0 hz1 hz2 rfl (by decide) (.slice none 0 0) 0 [] (World.ownsRow_nil _ _ _ 2) ⟨g, 0, none⟩ L.length cap (mc L) (mc_len L) (fun j u hj => World.ownsRow.cells h' rfl j u hj) (mc_one L) (by unfold maxLen; omega) (by omega) (Nat.le_refl _)
    refine ⟨v', w', hrun, ?_, below_gb r2 (Nat.le_refl _) (fun q hq => by cases hq)⟩
    rw [Nat.zero_add, List.nil_append] at r1
    exact r1
theorem owns_low {B C : Nat} {e : TypeId} {k : Nat} {v : Value} {n : Nat} {xs : List Value} {w : World} (h : w.ownsRow B e k v n xs) (hc : C ≤ B) : w.ownsRow C e k v n xs := by
  refine ⟨h.1, ?_⟩
  rcases h.2 with h0 | ⟨g, cap, cur, hv, h1, h2⟩
  · exact .inl h0
  · exact .inr ⟨g, cap, cur, hv, Nat.le_trans hc h1, h2⟩
def lenV : Value → Nat
  | .slice _ n _ => n
  | _ => 0
/-- What stands while the row is emptied. -/
structure Rz (w wr : World) (cb : Nat) (f : Bool) (S D : List Pr) (R : List En) (n : Nat) (vt vo : Value) : Prop where
  rq : RQ wr w.heap.size cb f vt R
  om : OM wr w.heap.size vo D
  ap : ∀ g, vt.ownBlock = some g → vo.ownBlock ≠ some g
  eq : S = D ++ srt (kB f) (n - D.length) R
  ln : D.length + R.length = n
  rs : Rs 0 R
  bl : Below w.heap.size w wr
theorem Rz.kept {w wr w5 : World} {cb : Nat} {f : Bool} {S D : List Pr} {R : List En} {n : Nat} {vt vt5 vo : Value} (h : Rz w wr cb f S D R n vt vo) (f5 : Fq wr w5 cb vt vt5) : OM w5 w.heap.size vo D :=
  owns_later h.om (fun g hg => f5.block g (h.om.lt g hg).2 (fun e => om_ne h.om h.rq.hdr (by decide) (by rw [← e]; exact hg.symm)) (fun e => h.ap g e.symm hg))
theorem Rz.step {w wr w5 w6 : World} {cb : Nat} {f : Bool} {S D : List Pr} {R : List En} {n : Nat} {vt vt5 vo v6 : Value} {x1 x2 : Int} {xn : Nat} {o1 o2 : Obj} (h : Rz w wr cb f S D R n vt vo) (hx : mn (kB f) (fun _ => true) R = some ((x1, x2), xn)) (q5 : RQ w5 w.heap.size cb f vt5 (er R ((x1, x2), xn))) (f5 : Fq wr w5 cb vt vt5)
    (r1 : OM w6 w.heap.size v6 (D ++ [(x1, x2)])) (r2 : ((w5.alloc o1).alloc o2).grownBy w6 vo.ownBlock) (r3 : ∀ g, v6.ownBlock = some g → vo.ownBlock = some g ∨ ((w5.alloc o1).alloc o2).heap.size ≤ g) : Rz w w6 cb f S (D ++ [(x1, x2)]) (er R ((x1, x2), xn)) n vt5 v6 := by
  have hs : ((w5.alloc o1).alloc o2).heap.size = w5.heap.size + 2 := by simp
  have ba : Below w5.heap.size w5 ((w5.alloc o1).alloc o2) := ((Below.refl _ _).alloc (Nat.le_refl _) _).alloc (by simp) _
  have o5 := (h.kept f5).alloc o1
  have o6 := World.ownsRow.alloc o5 o2
  have q6 := q5.later ba
  have ap5 : ∀ g, vt5.ownBlock = some g → vo.ownBlock ≠ some g := fun g e1 e2 => by
    rcases f5.own g e1 with e | e
    · exact h.ap g e e2
    · have := (h.om.lt g e2).2; omega
  have hl := er_length (mn_some hx).1
  have hln := h.ln
  have b5 := h.bl.trans (h.rq.below f5)
  have b6 := b5.trans (ba.mono b5.size)
  refine ⟨q6.keep r2.size (fun g hg => ?_), r1, fun g e1 e2 => ?_, ?_, by simp; omega, h.rs.er _, b6.trans (below_gb r2 b6.size (fun g hg => (o6.lt g hg).1))⟩
  · rcases hg with rfl | e
    · exact r2.block _ (blk_lt q6.hdr) (om_ne o6 q6.hdr (by decide))
    · exact r2.block _ (q6.row.lt g e).2 (fun e' => ap5 g e e'.symm)
  · rcases r3 g e2 with e | e
    · exact ap5 g e1 e
    · have := (q5.row.lt g e1).2; omega
  · have e := h.eq
    rw [show n - D.length = (n - (D ++ [(x1, x2)]).length) + 1 by simp; omega, srt_some hx] at e
    rw [e, List.append_assoc]; rfl
set_option maxRecDepth 100000 in
set_option maxHeartbeats 8000000 in
theorem rsorted_any {f : Bool} {B rb : Nat} {v : Value} {R : List En} {w : World} (h : RQ w B rb f v R) (hr : Rs 0 R) (hlen : R.length ≤ 5864062014805) :
    Calls Try.prog 20 #[.pointer (some ⟨rb, 0, none⟩)] w fun e w' => ∃ v', e = .returned v' ∧ OM w' w.heap.size v' (srt (kB f) R.length R) ∧ Below w.heap.size w w' := by
  obtain ⟨W1, hW1⟩ : ∃ W, Hid (w.alloc (.cells #[.bool f, .slice none 0 0] 31) = W) := ⟨_, hide rfl⟩
  have b1 : Below w.heap.size w W1 := by rw [← hW1.out]; exact (Below.refl _ _).alloc (Nat.le_refl _) _
  have n1 : W1.heap[w.heap.size]? = some (.cells #[.bool f, .slice none 0 0] 31 (0, 0)) := by rw [← hW1.out]; exact alloc_new w _
  have b1' : Below w.heap.size w W1.drew := b1.trans (drew_below.mono b1.size)
  have h1 := h.later b1'
  obtain ⟨v3, W3, hrun, o3, b3⟩ := run_copyM W1.drew 29 B v (fs R) h1.row (by unfold fs; rw [List.length_map]; omega)
  obtain ⟨a3, k3, hv3⟩ := rm_lt o3.rm
  obtain ⟨m3, hm3⟩ : ∃ m3, Hid ((fs R).length = m3) := ⟨_, hide rfl⟩
  rw [hm3.out] at hv3
  subst hv3
  have n3 := blk_later n1 (drew_below.trans b3)
  obtain ⟨W4, hW4⟩ : ∃ W, Hid (W3.setCell ⟨w.heap.size, 1, none⟩ (.slice a3 m3 k3) = W) := ⟨_, hide rfl⟩
  have c0 := h.c0
  have x0 : W1.cell? ⟨w.heap.size, 1, none⟩ = some (.slice none 0 0) := by rw [cell_of_row _ _ 1 _ _ _ n1]; rfl
  have x1 : W1.cell? ⟨rb, 1, none⟩ = some v := (h.later b1).c1
  have hHeld := hide (And.intro (show W1.drew.cell? ⟨w.heap.size, 1, none⟩ = some (.slice none 0 0) from x0) (show W1.drew.cell? ⟨rb, 1, none⟩ = some v from x1))
  have HRUN := hide hrun
  have f3 : W3.frozen? ⟨w.heap.size, 1, none⟩ = false := by unfold World.frozen?; simp [n3]
  have c3 : W3.cell? ⟨w.heap.size, 1, none⟩ = some (.slice none 0 0) := by rw [cell_of_row _ _ 1 _ _ _ n3]; rfl
  have e4 := setCell_eq_setRow W3 w.heap.size 1 _ _ _ (.slice a3 m3 k3) n3
  have bb3 : Below w.heap.size w W3 := b1'.trans (b3.mono b1'.size)
  have o3l := owns_low o3 b1'.size
  have q4 : RQ W4 w.heap.size w.heap.size f (.slice a3 m3 k3) R := by
    rw [← hW4.out]
    exact ⟨by rw [e4]; exact setRow_heap W3 w.heap.size _ _ _ _ n3, owns_later o3l (fun g hg => Below.heap_setCell _ _ _ g (fun e => om_ne o3l n3 (by decide) (by rw [show w.heap.size = g from e.symm]; exact hg.symm))), by rw [(setCell_rest W3 _ (.slice a3 m3 k3)).2.2.2]; exact bb3.size, Nat.le_refl _⟩
  have b4 : Below w.heap.size w W4 := by
    rw [← hW4.out]
    exact ⟨(setCell_rest W3 _ (.slice a3 m3 k3)).1.trans bb3.os, (setCell_rest W3 _ (.slice a3 m3 k3)).2.1.trans bb3.tape, (setCell_rest W3 _ (.slice a3 m3 k3)).2.2.1.trans bb3.output, by rw [(setCell_rest W3 _ (.slice a3 m3 k3)).2.2.2]; exact bb3.size, fun g hg => (Below.heap_setCell _ _ _ g (Nat.ne_of_lt hg)).trans (bb3.block g hg)⟩
  obtain ⟨n, hn⟩ : ∃ n, Hid (R.length = n) := ⟨_, hide rfl⟩
  obtain ⟨S, hS⟩ : ∃ S, Hid (srt (kB f) R.length R = S) := ⟨_, hide rfl⟩
  have H4 : Hid (Rz w W4 w.heap.size f S [] R n (.slice a3 m3 k3) (.slice none 0 0)) := hide ⟨q4, World.ownsRow_nil _ _ _ 2, fun g _ e => by (cases e), by rw [← hS.out, ← hn.out]; rfl, by rw [← hn.out]; simp, hr, b4⟩
  rw [hS.out]
  have HNL : Hid (n ≤ 5864062014805) := hide (by rw [← hn.out]; exact hlen)
  obtain ⟨cb, hcb⟩ : ∃ cb, Hid (w.heap.size = cb) := ⟨_, hide rfl⟩
  clear hrun o3 o3l b3 bb3 q4 b4 n1 b1 b1' h1 hr hlen n3 e4 h
  clear x0 x1
  go_enter Try.func20, Try.ntmps20
  go_wp2_with fail
  rw [hW1.out]
  refine s_begins (S := fun W => W.cell? ⟨w.heap.size, 1, none⟩ = some (.slice none 0 0) ∧ W.cell? ⟨rb, 1, none⟩ = some v) [9] 13 #[false, false, false, false, false, false, false, false, false, false, false, false, false] (by kernel_rfl) (by kernel_rfl) (by kernel_rfl) ?_
  refine sk0 (v := ?_) 0 13 #[true, false, false, false, false, false, false, false, false, false, false, false, false] rfl rfl (by kernel_rfl) (by kernel_rfl) (by kernel_rfl) (by kernel_rfl) (fun _ _ _ h => h) (by kernel_rfl) (by rfl) ?hy (fun _ => hHeld.out) ?_
  case hy => intro W; first | (go_simp; done) | (go_simp; with_reducible rfl)
  simp only [List.setIfInBounds_toArray, List.set_cons_zero, List.set_cons_succ]
  refine sk0 (v := ?_) 1 14 #[true, true, false, false, false, false, false, false, false, false, false, false, false] rfl rfl (by kernel_rfl) (by kernel_rfl) (by kernel_rfl) (by kernel_rfl) (fun _ _ _ h => h) (by kernel_rfl) (by rfl) ?hy (fun _ => hHeld.out) ?_
  case hy => intro W; first | (go_simp; done) | (go_simp; with_reducible rfl)
  simp only [List.setIfInBounds_toArray, List.set_cons_zero, List.set_cons_succ]
  refine sk0 (v := ?_) 2 15 #[true, true, true, false, false, false, false, false, false, false, false, false, false] rfl rfl (by kernel_rfl) (by kernel_rfl) (by kernel_rfl) (by kernel_rfl) (fun _ _ _ h => h) (by kernel_rfl) (by rfl) ?hy (fun _ => hHeld.out) ?_
  case hy => intro W; first | (go_simp; done) | (go_simp; with_reducible rfl)
  simp only [List.setIfInBounds_toArray, List.set_cons_zero, List.set_cons_succ]
  refine sk0 (v := ?_) 3 16 #[true, true, true, true, false, false, false, false, false, false, false, false, false] rfl rfl (by kernel_rfl) (by kernel_rfl) (by kernel_rfl) (by kernel_rfl) (fun _ _ _ h => h) (by kernel_rfl) (by rfl) ?hy (fun _ => hHeld.out) ?_
  case hy => intro W; first | (go_simp; done) | (go_simp; with_reducible rfl)
  simp only [List.setIfInBounds_toArray, List.set_cons_zero, List.set_cons_succ]
  refine sk1 (v := ?_) 4 17 #[true, true, true, true, true, false, false, false, false, false, false, false, false] rfl rfl (by kernel_rfl) (by kernel_rfl) (by kernel_rfl) (by kernel_rfl) (by kernel_rfl) (by kernel_rfl) (fun _ _ _ h => h) (by kernel_rfl) (by rfl) ?hy hHeld.out ?_
  case hy => rintro W ⟨e1, e2⟩; first | (go_simp; done) | (go_simp; with_reducible rfl)
  simp only [List.setIfInBounds_toArray, List.set_cons_zero, List.set_cons_succ]
  refine sk0 (v := ?_) 5 18 #[true, true, true, true, true, true, false, false, false, false, false, false, false] rfl rfl (by kernel_rfl) (by kernel_rfl) (by kernel_rfl) (by kernel_rfl) (fun _ _ _ h => h) (by kernel_rfl) (by rfl) ?hy (fun _ => hHeld.out) ?_
  case hy => intro W; first | (go_simp; done) | (go_simp; with_reducible rfl)
  simp only [List.setIfInBounds_toArray, List.set_cons_zero, List.set_cons_succ]
  refine sk0 (v := ?_) 6 19 #[true, true, true, true, true, true, true, false, false, false, false, false, false] rfl rfl (by kernel_rfl) (by kernel_rfl) (by kernel_rfl) (by kernel_rfl) (fun _ _ _ h => h) (by kernel_rfl) (by rfl) ?hy (fun _ => hHeld.out) ?_
  case hy => intro W; first | (go_simp; done) | (go_simp; with_reducible rfl)
  simp only [List.setIfInBounds_toArray, List.set_cons_zero, List.set_cons_succ]
  refine sk0 (v := ?_) 7 20 #[true, true, true, true, true, true, true, true, false, false, false, false, false] rfl rfl (by kernel_rfl) (by kernel_rfl) (by kernel_rfl) (by kernel_rfl) (fun _ _ _ h => h) (by kernel_rfl) (by rfl) ?hy (fun _ => hHeld.out) ?_
  case hy => intro W; first | (go_simp; done) | (go_simp; with_reducible rfl)
  simp only [List.setIfInBounds_toArray, List.set_cons_zero, List.set_cons_succ]
  refine sk1 (v := ?_) 8 21 #[true, true, true, true, true, true, true, true, true, false, false, false, false] rfl rfl (by kernel_rfl) (by kernel_rfl) (by kernel_rfl) (by kernel_rfl) (by kernel_rfl) (by kernel_rfl) (fun _ _ _ h => h) (by kernel_rfl) (by rfl) ?hy hHeld.out ?_
  case hy => rintro W ⟨e1, e2⟩; first | (go_simp; done) | (go_simp; with_reducible rfl)
  simp only [List.setIfInBounds_toArray, List.set_cons_zero, List.set_cons_succ]
  refine s_ready 9 #[true, true, true, true, true, true, true, true, true, true, false, false, false] rfl (by kernel_rfl) (by kernel_rfl) (by rfl) (fun K hK => ?_)
  refine op_append_any _ _ rfl _ _ rfl rfl _ W3 HRUN.out ?_
  simp only [Act.put, List.setIfInBounds_toArray]
  refine hK.out _ _ (fun h => absurd h (by decide)) ?_
  clear hK K
  refine s_ready 10 #[true, true, true, true, true, true, true, true, true, true, true, false, false] rfl (by kernel_rfl) (by kernel_rfl) (by rfl) (fun K hK => ?_)
  go_simp
  refine hK.out _ _ (fun h => absurd h (by decide)) ?_
  clear hK K
  refine s_ready 11 #[true, true, true, true, true, true, true, true, true, true, true, true, false] rfl (by kernel_rfl) (by kernel_rfl) (by rfl) (fun K hK => ?_)
  go_simp
  refine hK.out _ _ (fun h => absurd h (by decide)) ?_
  clear hK K
  refine s_ready 12 #[true, true, true, true, true, true, true, true, true, true, true, true, true] rfl (by kernel_rfl) (by kernel_rfl) (by rfl) (fun K hK => ?_)
  go_simp
  rw [hW4.out]
  refine hK.out _ _ (fun h => absurd h (by decide)) ?_
  clear hK K
  refine s_done (by kernel_rfl) ?_ _
  go_wp2_with fail
  rw [hcb.out] at H4 ⊢
  go_loopw [4] (fun vo wr => ∃ (D : List Pr) (R : List En) (vt : Value), lenV vo = D.length ∧ Hid (Rz w wr cb f S D R n vt vo)) (fun vo _ => n - lenV vo)
  case atStart => exact ⟨[], R, _, rfl, H4⟩
  case round =>
    obtain ⟨D, R1, vt, hl, HR⟩ := hrel
    obtain ⟨ta, tc, hvt⟩ := rm_lt HR.out.rq.row.rm
    obtain ⟨m, hm⟩ : ∃ m, Hid (R1.length = m) := ⟨_, hide rfl⟩
    rw [show (fs R1).length = m by rw [← hm.out]; unfold fs; rw [List.length_map]] at hvt
    subst hvt
    have c1 := HR.out.rq.c1
    by_cases hm0 : 0 < m
    · have d1 : decide ((0 : Int) < (m : Int)) = true := by rw [decide_eq_true_eq]; omega
      obtain ⟨⟨⟨x1, x2⟩, xn⟩, hx⟩ := mn_ex (k := kB f) (R := R1) (by rw [hm.out]; exact hm0)
      have HX := hide hx
      have HP := hide (rpopQ HR.out.rq HR.out.rs (by have := HR.out.ln; have := HNL.out; omega))
      rw [hx] at HP
      unfold pv ans nx at HP
      dsimp only at HP
      clear hx
      go_wp2_with fail
      refine HP.out.mono ?_
      rintro e w5 ⟨rfl, vt5, q5, f5⟩
      have HO5 := hide (HR.out.kept f5)
      have HS5 : Hid (w.heap.size ≤ w5.heap.size) := hide q5.bw
      have HSTEP := hide (fun o1 o2 w6 v6 r1 r2 r3 => HR.out.step (w6 := w6) (v6 := v6) (o1 := o1) (o2 := o2) HX.out q5 f5 r1 r2 r3)
      have HDL : Hid (D.length < n) := hide (by have := HR.out.ln; have := hm.out; omega)
      clear q5 f5 HP c1
      go_wp2_with (at_builtin; apply go_stop_here)
      show wpList _ _ _ _ _ _
      refine wp_append_pr _ w.heap.size rfl _ _ rfl _ D rfl (World.ownsRow.alloc (World.ownsRow.alloc HO5.out _) _) _ (x1, x2) rfl (two_new _ _ _) (by have := HDL.out; have := HNL.out; omega) (by have := HS5.out; simp; omega) ?_
      intro v6 w6 r1 r2 r3
      have HF := hide (HSTEP.out _ _ w6 v6 r1 r2 r3)
      clear r1 r2 r3
      go_wp2_with fail
      obtain ⟨oa, oc, hv6⟩ := rm_lt HF.out.om.rm
      go_roundw
      case rel => exact ⟨_, _, _, by rw [hv6]; rfl, HF⟩
      case measure => rw [hv6, hl]; simp [lenV]; have := HDL.out; omega
    · have d1 : decide ((0 : Int) < (m : Int)) = false := by rw [decide_eq_false_iff_not]; omega
      have HF : Hid (OM wr w.heap.size u4 S ∧ Below w.heap.size w wr) := hide (by
        have h0 : R1 = [] := List.length_eq_zero_iff.1 (by have := hm.out; omega)
        have e1 := HR.out.eq
        have e2 := HR.out.ln
        subst h0
        have e3 : n - D.length = 0 := by simp at e2; omega
        rw [e3] at e1
        have e4 : S = D := by rw [e1]; simp [srt]
        rw [e4]; exact ⟨HR.out.om, HR.out.bl⟩)
      go_wp2_with fail
      go_ret
      exact ⟨_, rfl, HF.out⟩
end Go.Proofs.Ytegemfkadclnkaa
