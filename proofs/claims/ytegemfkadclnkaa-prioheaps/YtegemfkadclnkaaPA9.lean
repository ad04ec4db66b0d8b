/-
  My own text: Push (printed by mkpa9.py).
-/
import Derived.Test.YtegemfkadclnkaaPA8
namespace Go.Proofs.Ytegemfkadclnkaa
open Go.RowKit

theorem op_append_gen {P : Program} {o : Oper} {a : Act} {K : Act → World → Prop} {Q : Exit → Act → World → Prop} {w : World} {t : TypeId} (s x : Operand) (ho : o.op = .call { callee := .builtin .append, args := #[s, x], argTypes := #[t, t] }) (v : Value) (b : Addr) (m c : Nat) (hs : a.eval s = v) (hx : a.eval x = .slice (some b) m c)
    (v' : Value) (w' : World) (hr : (Builtin.append_ #[t, t] o.type #[v, .slice (some b) m c]).run P w = .ok v' w') (h : K (a.put o.dst v') w') : o.wp P a w K Q := by
  unfold Oper.wp execOp
  simp only [ho, resolve, invoke, builtin, Sem.run_bind, Sem.run_pure, Result.andThen_ok, List.map_toArray, List.map_cons, List.map_nil, hs, hx, hr]
  exact h
theorem HP.setn {w : World} {B hb lb : Nat} {lf : FuncId} {v : Value} {E : List En} {N M : Nat} (h : HP w B hb lb lf v E N) : HP (w.setCell ⟨hb, 2, none⟩ (.int .i64 (M : Int))) B hb lb lf v E M := by
  have e1 := setCell_eq_setRow w hb 2 _ _ _ (.int .i64 (M : Int)) h.hdr
  refine ⟨by rw [e1]; exact setRow_heap w hb _ _ _ _ h.hdr, ?_, owns_later h.row (fun g hg => Below.heap_setCell _ _ _ g (fun e => own_ne h.row h.hdr (by decide) (by rw [show hb = g from e.symm]; exact hg.symm)))⟩
  rw [Below.heap_setCell _ _ _ lb (fun e => by
    have h1 := h.les
    rw [show lb = hb from e, h.hdr] at h1
    injection h1 with h1; injection h1 with _ h1; exact absurd h1 (by decide))]
  exact h.les
set_option maxRecDepth 100000 in
set_option maxHeartbeats 4000000 in
theorem push_any {lf : FuncId} {k : Pr → Int} (hl : LOk lf k) (x : Pr) (B hb lb : Nat) (v : Value) (E : List En) (N : Nat) (w : World) (h : HP w B hb lb lf v E N) (hk : HeapOk (ltE k) E) (hlen : E.length < 5864062014805) (hN : N < 4611686018427387904) (hB : B ≤ w.heap.size) :
    Calls Try.prog 10 #[.pointer (some ⟨hb, 0, none⟩), pv x] w fun e w' => (∃ u, e = .returned u) ∧ ∃ v' E', E'.Perm (E ++ [(x, N)]) ∧ HeapOk (ltE k) E' ∧ HP w' B hb lb lf v' E' (N + 1) ∧ Fq w w' hb v v' := by
  obtain ⟨x1, x2⟩ := x
  unfold pv
  dsimp only
  obtain ⟨i0, hi, hz0, hz1, hz2⟩ := info_parts Try.infoEn
  obtain ⟨W1, hW1⟩ : ∃ W, Hid (w.alloc (.cells #[.int .i64 x1, .int .i64 x2] 25) = W) := ⟨_, hide rfl⟩
  have b1 : Below w.heap.size w W1 := by rw [← hW1.out]; exact (Below.refl _ _).alloc (Nat.le_refl _) _
  have p1 : W1.heap[w.heap.size]? = some (.cells #[.int .i64 x1, .int .i64 x2] 25 (0, 0)) := by rw [← hW1.out]; exact alloc_new w _
  have h1 := h.later b1
  obtain ⟨W2, hW2⟩ : ∃ W, Hid ((W1.alloc (.cells #[.int .i64 x1, .int .i64 x2, .int .i64 (N : Int)] 51)).drew = W) := ⟨_, hide rfl⟩
  have b2 : Below W1.heap.size W1 W2 := by rw [← hW2.out]; exact ((Below.refl _ W1).alloc (Nat.le_refl _) _).trans drew_below
  have l2 : W2.heap[W1.heap.size]? = some (.cells #[.int .i64 x1, .int .i64 x2, .int .i64 (N : Int)] 51 (0, 0)) := by rw [← hW2.out]; exact alloc_new W1 _
  have h2 := h1.later b2
  have p2 := blk_later p1 b2
  obtain ⟨n, hn⟩ : ∃ n, Hid (E.length = n) := ⟨_, hide rfl⟩
  obtain ⟨v', W3, hrun, o3, g3, q3⟩ := (fun ty => run_append_own2 (P := Try.prog) W2 B 53 ty 51 i0 _ 3 24 Try.underlying53 hi hz0 hz1 hz2 rfl (by decide) v E.length (ec E) h2.row ⟨W1.heap.size, 0, none⟩ 1 1 (e3 ((x1, x2), N)) rfl (fun j u hj => by
      rw [Addr.add_lit, cell_of_row _ _ _ _ _ _ l2]
      match j, hj with
      | 0, hj => exact hj
      | 1, hj => exact hj
      | 2, hj => exact hj) (by intro u hu; simp [e3] at hu; rcases hu with rfl | rfl | rfl <;> rfl) (by unfold maxLen; omega) (by omega) (by have := b1.size; have := b2.size; omega)) 53
  have o3' : OE W3 B v' (E ++ [((x1, x2), N)]) := by
    unfold OE
    rw [List.length_append, ec_app]; exact o3
  have hhd : some hb ≠ v.ownBlock := own_ne h2.row h2.hdr (by decide)
  have hpd : some w.heap.size ≠ v.ownBlock := own_ne h2.row p2 (by decide)
  have hd3 := (g3.block hb (blk_lt h2.hdr) hhd).trans h2.hdr
  have p3 := (g3.block w.heap.size (blk_lt p2) hpd).trans p2
  have le3 := (g3.block lb (blk_lt h2.les) (own_ne h2.row h2.les (by decide))).trans h2.les
  obtain ⟨W4, hW4⟩ : ∃ W, Hid (W3.setCell ⟨hb, 0, none⟩ v' = W) := ⟨_, hide rfl⟩
  -- the heap in W3, its old header with the new row's owner
  have h4 : HP W4 B hb lb lf v' (E ++ [((x1, x2), N)]) N := by
    rw [← hW4.out]
    have e1 := setCell_eq_setRow W3 hb 0 _ _ _ v' hd3
    refine ⟨by rw [e1]; exact setRow_heap W3 hb _ _ _ _ hd3, ?_, owns_later o3' (fun g hg => Below.heap_setCell _ _ _ g (fun e => own_ne o3' hd3 (by decide) (by rw [show hb = g from e.symm]; exact hg.symm)))⟩
    rw [Below.heap_setCell _ _ _ lb (fun e => by
      have h1 := le3
      rw [show lb = hb from e, hd3] at h1
      injection h1 with h1; injection h1 with _ h1; exact absurd h1 (by decide))]
    exact le3
  obtain ⟨W5, hW5⟩ : ∃ W, Hid (W4.setCell ⟨hb, 2, none⟩ (.int .i64 ((N : Int) + 1)) = W) := ⟨_, hide rfl⟩
  have h5 : HP W5 B hb lb lf v' (E ++ [((x1, x2), N)]) (N + 1) := by rw [← hW5.out]; exact h4.setn (M := N + 1)
  have f5 : Fq w W5 hb v v' := by
    have q1 : Fq w W2 hb v v := Fq.of_below (b1.trans (b2.mono b1.size))
    have q2 : Fq W2 W3 hb v v := Fq.of_gb g3
    have q4 : Fq W2 W4 hb v v' := ⟨by rw [← hW4.out]; exact g3.os, by rw [← hW4.out]; exact g3.tape, by rw [← hW4.out]; exact g3.output, by rw [← hW4.out, (setCell_rest W3 _ v').2.2.2]; exact g3.size, fun g hg a1 a2 => by rw [← hW4.out]; exact (Below.heap_setCell _ _ _ g a1).trans (g3.block g hg a2), q3⟩
    have q5 : Fq W4 W5 hb v' v' := by rw [← hW5.out]; exact Fq.hdr _ (fun q hq => .inl hq)
    exact (q1.trans q4).trans q5
  obtain ⟨u1, u2⟩ := push_hole hk ((x1, x2), N)
  have HRI := hide (rise_any hl E.length B hb lb v' _ (N + 1) W5 h5 (by simp) u1 (by simp; omega))
  rw [hn.out] at HRI u2
  have HU2 := hide u2
  have F5 := hide f5
  obtain ⟨a', cap', hv', _⟩ := h5.row.slc
  obtain ⟨m, hm⟩ : ∃ m : Nat, Hid ((E ++ [((x1, x2), N)]).length = m) := ⟨_, hide rfl⟩
  rw [hm.out] at hv'
  obtain ⟨a, cap, hv, _⟩ := h.row.slc
  rw [hn.out] at hv
  have c5 := h5.c0
  have c42 := h4.c2
  have f4 : W4.frozen? ⟨hb, 2, none⟩ = false := by unfold World.frozen?; simp [h4.hdr]
  have f3 : W3.frozen? ⟨hb, 0, none⟩ = false := by unfold World.frozen?; simp [hd3]
  have c3 : W3.cell? ⟨hb, 0, none⟩ = some v := by rw [cell_of_row _ _ 0 _ _ _ hd3]; rfl
  have hS : ∀ W : World, W.heap[hb]? = some (.cells #[v, .func (Fn.func 23) #[] #[.pointer (some ⟨lb, 0, none⟩)], .int .i64 (N : Int)] 55 (0, 0)) → W.heap[w.heap.size]? = some (.cells #[.int .i64 x1, .int .i64 x2] 25 (0, 0)) → W.cell? ⟨hb, 0, none⟩ = some v ∧ W.cell? ⟨hb, 2, none⟩ = some (.int .i64 (N : Int)) ∧ W.cell? ⟨w.heap.size, 0, none⟩ = some (.int .i64 x1) ∧ W.cell? ⟨w.heap.size, 1, none⟩ = some (.int .i64 x2) := fun W e1 e2 =>
    ⟨by rw [cell_of_row _ _ 0 _ _ _ e1]; rfl, by rw [cell_of_row _ _ 2 _ _ _ e1]; rfl, by rw [cell_of_row _ _ 0 _ _ _ e2]; rfl, by rw [cell_of_row _ _ 1 _ _ _ e2]; rfl⟩
  have hHeld := hide (hS W1.drew h1.hdr p1)
  have HS2 := hide (hS W2 h2.hdr p2)
  have HS3 := hide (hS W3 hd3 p3)
  have HRUN : Hid (∀ ty, (Builtin.append_ #[53, 53] ty #[v, .slice (some ⟨W1.heap.size, 0, none⟩) 1 1]).run Try.prog W2 = .ok v' W3) := hide (fun ty => hrun)
  have wN : wrap64 ((N : Int) + 1) = (N : Int) + 1 := by unfold wrap64; omega
  have wm : wrap64 ((m : Int) - 1) = (n : Int) := by
    have h1 := hm.out
    have h2 := hn.out
    rw [List.length_append] at h1
    have h3 : E.length + 1 = m := h1
    unfold wrap64; omega
  subst hv
  subst hv'
  have e5 := hW5.out
  clear hW5
  subst e5
  clear h h1 h2 h4 h5 b1 b2 p1 p2 p3 l2 o3 o3' g3 q3 hhd hpd hd3 le3 f5 hk hl hlen hN hB u1 u2 hS hrun hi hz0 hz1 hz2 i0
  go_enter Try.func10, Try.ntmps10
  go_wp2_with fail
  rw [hW1.out]
  refine s_begins (S := fun W => W.cell? ⟨hb, 0, none⟩ = some (.slice a n cap) ∧ W.cell? ⟨hb, 2, none⟩ = some (.int .i64 (N : Int)) ∧ W.cell? ⟨w.heap.size, 0, none⟩ = some (.int .i64 x1) ∧ W.cell? ⟨w.heap.size, 1, none⟩ = some (.int .i64 x2)) [15] 16 #[false, false, false, false, false, false, false, false, false, false, false, false, false, false, false, false] (by kernel_rfl) (by kernel_rfl) (by kernel_rfl) ?_
  refine sk0 (v := ?_) 0 4 #[true, false, false, false, false, false, false, false, false, false, false, false, false, false, false, false] rfl rfl (by kernel_rfl) (by kernel_rfl) (by kernel_rfl) (by kernel_rfl) (fun _ _ _ h => h) (by kernel_rfl) (by rfl) ?hy (fun _ => hHeld.out) ?_
  case hy => intro W; first | (go_simp; done) | (go_simp; with_reducible rfl)
  simp only [List.setIfInBounds_toArray, List.set_cons_zero, List.set_cons_succ]
  refine sk0 (v := ?_) 1 5 #[true, true, false, false, false, false, false, false, false, false, false, false, false, false, false, false] rfl rfl (by kernel_rfl) (by kernel_rfl) (by kernel_rfl) (by kernel_rfl) (fun _ _ _ h => h) (by kernel_rfl) (by rfl) ?hy (fun _ => hHeld.out) ?_
  case hy => intro W; first | (go_simp; done) | (go_simp; with_reducible rfl)
  simp only [List.setIfInBounds_toArray, List.set_cons_zero, List.set_cons_succ]
  refine sk0 (v := ?_) 2 6 #[true, true, true, false, false, false, false, false, false, false, false, false, false, false, false, false] rfl rfl (by kernel_rfl) (by kernel_rfl) (by kernel_rfl) (by kernel_rfl) (fun _ _ _ h => h) (by kernel_rfl) (by rfl) ?hy (fun _ => hHeld.out) ?_
  case hy => intro W; first | (go_simp; done) | (go_simp; with_reducible rfl)
  simp only [List.setIfInBounds_toArray, List.set_cons_zero, List.set_cons_succ]
  refine sk0 (v := ?_) 3 7 #[true, true, true, true, false, false, false, false, false, false, false, false, false, false, false, false] rfl rfl (by kernel_rfl) (by kernel_rfl) (by kernel_rfl) (by kernel_rfl) (fun _ _ _ h => h) (by kernel_rfl) (by rfl) ?hy (fun _ => hHeld.out) ?_
  case hy => intro W; first | (go_simp; done) | (go_simp; with_reducible rfl)
  simp only [List.setIfInBounds_toArray, List.set_cons_zero, List.set_cons_succ]
  refine sk1 (v := ?_) 4 8 #[true, true, true, true, true, false, false, false, false, false, false, false, false, false, false, false] rfl rfl (by kernel_rfl) (by kernel_rfl) (by kernel_rfl) (by kernel_rfl) (by kernel_rfl) (by kernel_rfl) (fun _ _ _ h => h) (by kernel_rfl) (by rfl) ?hy hHeld.out ?_
  case hy => rintro W ⟨e1, e2, e4, e5⟩; first | (go_simp; done) | (go_simp; with_reducible rfl)
  simp only [List.setIfInBounds_toArray, List.set_cons_zero, List.set_cons_succ]
  refine sk1 (v := ?_) 5 9 #[true, true, true, true, true, true, false, false, false, false, false, false, false, false, false, false] rfl rfl (by kernel_rfl) (by kernel_rfl) (by kernel_rfl) (by kernel_rfl) (by kernel_rfl) (by kernel_rfl) (fun _ _ _ h => h) (by kernel_rfl) (by rfl) ?hy hHeld.out ?_
  case hy => rintro W ⟨e1, e2, e4, e5⟩; first | (go_simp; done) | (go_simp; with_reducible rfl)
  simp only [List.setIfInBounds_toArray, List.set_cons_zero, List.set_cons_succ]
  refine sk0 (v := ?_) 6 10 #[true, true, true, true, true, true, true, false, false, false, false, false, false, false, false, false] rfl rfl (by kernel_rfl) (by kernel_rfl) (by kernel_rfl) (by kernel_rfl) (fun _ _ _ h => h) (by kernel_rfl) (by rfl) ?hy (fun _ => hHeld.out) ?_
  case hy => intro W; first | (go_simp; done) | (go_simp; with_reducible rfl)
  simp only [List.setIfInBounds_toArray, List.set_cons_zero, List.set_cons_succ]
  refine sk0 (v := ?_) 7 11 #[true, true, true, true, true, true, true, true, false, false, false, false, false, false, false, false] rfl rfl (by kernel_rfl) (by kernel_rfl) (by kernel_rfl) (by kernel_rfl) (fun _ _ _ h => h) (by kernel_rfl) (by rfl) ?hy (fun _ => hHeld.out) ?_
  case hy => intro W; first | (go_simp; done) | (go_simp; with_reducible rfl)
  simp only [List.setIfInBounds_toArray, List.set_cons_zero, List.set_cons_succ]
  refine sk0 (v := ?_) 8 12 #[true, true, true, true, true, true, true, true, true, false, false, false, false, false, false, false] rfl rfl (by kernel_rfl) (by kernel_rfl) (by kernel_rfl) (by kernel_rfl) (fun _ _ _ h => h) (by kernel_rfl) (by rfl) ?hy (fun _ => hHeld.out) ?_
  case hy => intro W; first | (go_simp; done) | (go_simp; with_reducible rfl)
  simp only [List.setIfInBounds_toArray, List.set_cons_zero, List.set_cons_succ]
  refine sk1 (v := ?_) 9 13 #[true, true, true, true, true, true, true, true, true, true, false, false, false, false, false, false] rfl rfl (by kernel_rfl) (by kernel_rfl) (by kernel_rfl) (by kernel_rfl) (by kernel_rfl) (by kernel_rfl) (fun _ _ _ h => h) (by kernel_rfl) (by rfl) ?hy hHeld.out ?_
  case hy => rintro W ⟨e1, e2, e4, e5⟩; first | (go_simp; done) | (go_simp; with_reducible rfl)
  simp only [List.setIfInBounds_toArray, List.set_cons_zero, List.set_cons_succ]
  refine sk0 (v := ?_) 10 14 #[true, true, true, true, true, true, true, true, true, true, true, false, false, false, false, false] rfl rfl (by kernel_rfl) (by kernel_rfl) (by kernel_rfl) (by kernel_rfl) (fun _ _ _ h => h) (by kernel_rfl) (by rfl) ?hy (fun _ => hHeld.out) ?_
  case hy => intro W; first | (go_simp; done) | (go_simp; with_reducible rfl)
  simp only [List.setIfInBounds_toArray, List.set_cons_zero, List.set_cons_succ]
  refine s_ready 11 #[true, true, true, true, true, true, true, true, true, true, true, true, false, false, false, false] rfl (by kernel_rfl) (by kernel_rfl) (by rfl) (fun K hK => ?_)
  go_simp
  rw [hW2.out]
  refine hK.out _ _ (fun _ => HS2.out) ?_
  clear hK K
  refine s_ready 12 #[true, true, true, true, true, true, true, true, true, true, true, true, true, false, false, false] rfl (by kernel_rfl) (by kernel_rfl) (by rfl) (fun K hK => ?_)
  refine op_append_gen _ _ rfl (.slice a n cap) ⟨W1.heap.size, 0, none⟩ 1 1 rfl rfl _ W3 (HRUN.out _) ?_
  simp only [Act.put, List.setIfInBounds_toArray]
  refine hK.out _ _ (fun _ => HS3.out) ?_
  clear hK K
  refine s_ready 13 #[true, true, true, true, true, true, true, true, true, true, true, true, true, true, false, false] rfl (by kernel_rfl) (by kernel_rfl) (by rfl) (fun K hK => ?_)
  go_simp
  refine hK.out _ _ (fun _ => HS3.out) ?_
  clear hK K
  refine s_ready 14 #[true, true, true, true, true, true, true, true, true, true, true, true, true, true, true, false] rfl (by kernel_rfl) (by kernel_rfl) (by rfl) (fun K hK => ?_)
  go_simp
  refine hK.out _ _ (fun _ => HS3.out) ?_
  clear hK K
  refine s_ready 15 #[true, true, true, true, true, true, true, true, true, true, true, true, true, true, true, true] rfl (by kernel_rfl) (by kernel_rfl) (by rfl) (fun K hK => ?_)
  go_simp
  rw [hW4.out]
  refine hK.out _ _ (fun h => absurd h (by decide)) ?_
  clear hK K
  refine s_done (by kernel_rfl) ?_ _
  go_wp2_with fail
  refine HRI.out.mono ?_
  rintro e w6 ⟨q, E6, rfl, q1, q2, q3, q4, q5, q6⟩
  have HE : Hid (E6.Perm (E ++ [((x1, x2), N)]) ∧ HeapOk (ltE k) E6 ∧ HP w6 B hb lb lf _ E6 (N + 1) ∧ Fq w w6 hb _ _) := hide ⟨q2, q4 HU2.out, q5, F5.out.trans (Fq.of_gb q6)⟩
  clear q1 q2 q3 q4 q5 q6 HRI
  go_wp2_with fail
  refine bodyPost_end (results_none rfl _ _ _) rfl ?_
  exact ⟨⟨_, rfl⟩, _, _, HE.out⟩
end Go.Proofs.Ytegemfkadclnkaa
