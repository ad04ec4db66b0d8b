/-
  My own text: the document's store: the versions of a key that is new are laid down (printed by mkrf10.py).
-/
import Derived.Test.YtgeholiagcckoaaGreatDoorRF9
import Derived.Test.YtgeholiagcckoaaGreatDoorQRz
namespace Go.Proofs.YtgeholiagcckoaaGreatDoor
open Go.RowKit

theorem op_append_gen {P : Program} {o : Oper} {a : Act} {K : Act → World → Prop} {Q : Exit → Act → World → Prop} {w : World} {t : TypeId} (s x : Operand) (ho : o.op = .call { callee := .builtin .append, args := #[s, x], argTypes := #[t, t] }) (v : Value) (b : Addr) (m c : Nat) (hs : a.eval s = v) (hx : a.eval x = .slice (some b) m c)
    (v' : Value) (w' : World) (hr : (Builtin.append_ #[t, t] o.type #[v, .slice (some b) m c]).run P w = .ok v' w') (h : K (a.put o.dst v') w') : o.wp P a w K Q := by
  unfold Oper.wp execOp
  simp only [ho, resolve, invoke, builtin, Sem.run_bind, Sem.run_pure, Result.andThen_ok, List.map_toArray, List.map_cons, List.map_nil, hs, hx, hr]
  exact h
set_option maxRecDepth 100000 in
set_option maxHeartbeats 1000000 in
theorem rSetNew_any (k : Ky) (L : List Ver) (v : Value) (B rb : Nat) (sh : Int) (R : List Rw) (D : List (Int × Bool)) (vr vd : Value) (kk : Nat) (H : Nat → Prop) (w : World) (h : RF B w rb sh R D vr vd kk H) (hl : kk < 3518437208882)
    (hv : OR w B 180 2 v L.length (vc L)) (hk : LK L (kk + 1)) (hH : ∀ g, v.ownBlock = some g → H g) (hi : rat R k = -1) :
    Calls Tryz.prog 101 #[.pointer (some ⟨rb, 0, none⟩), .agg #[.int .i64 k.1, .int .i64 k.2], v] w fun e w' => (∃ u, e = .returned u) ∧ ∃ vr', RF B w' rb sh (rset R k L v) D vr' vd (kk + 1) (hN w w' H) ∧ RFr w w' H (hN w w' H) := by
  have HA := hide (fun (W : World) (hb : Below w.heap.size w W) => rAt_any k B rb sh R D vr vd kk H W (h.later hb) (by omega))
  rw [hi] at HA
  have hf := rat_idx.1 hi
  have hR : rset R k L v = R ++ [(k, L, v)] := by unfold rset; rw [hf]
  rw [hR]
  have HN : Hid (∀ p ∈ R, p.1 ≠ k) := hide (fun p hp => by
    have := List.findIdx?_eq_none_iff.1 hf p hp
    simpa using this)
  obtain ⟨j0, hi0, hz0, hz1, hz2⟩ := info_parts Tryz.infoRow
  have HI := hide (And.intro hi0 (And.intro hz0 (And.intro hz1 hz2)))
  have HLL := hide (And.intro hl h.len.1)
  have HH := hide h
  have HV := hide (And.intro hv (And.intro hk hH))
  obtain ⟨va, vcap, rfl⟩ := hv.slc
  obtain ⟨k1, k2⟩ := k
  dsimp only at HA ⊢
  clear h hv hk hH hi hf hR hi0 hz0 hz1 hz2 hl
  go_enter Tryz.func101, Tryz.ntmps101
  go_wp2_with fail
  obtain ⟨w1, hw1⟩ : ∃ w1, w.alloc (Obj.cells #[.int .i64 k1, .int .i64 k2] 26) = w1 := ⟨_, rfl⟩
  have BW := hide (show Below w.heap.size w w1 by rw [← hw1]; exact (Below.refl _ _).alloc (Nat.le_refl _) _)
  have b0 : w1.heap[w.heap.size]? = some (.cells #[.int .i64 k1, .int .i64 k2] 26 (0, 0)) := by rw [← hw1]; exact alloc_newV w _
  rw [hw1]
  refine (HA.out w1 BW.out).mono ?_
  rintro e w2 ⟨rfl, hb⟩
  have B2 := hide (BW.out.trans (hb.mono BW.out.size))
  have b2 := (hb.block w.heap.size (Array.getElem?_eq_some_iff.1 b0).1).trans b0
  have x0 : w2.cell? ⟨w.heap.size, 0, none⟩ = some (.int .i64 k1) := by rw [cell_of_row _ _ 0 _ _ _ b2]; rfl
  have x1 : w2.cell? ⟨w.heap.size, 1, none⟩ = some (.int .i64 k2) := by rw [cell_of_row _ _ 1 _ _ _ b2]; rfl
  have H2 := hide (HH.out.later B2.out)
  have c0 : w2.cell? ⟨rb, 1, none⟩ = some vr := by rw [cell_of_row _ _ 1 _ _ _ H2.out.hdr]; rfl
  have KK := hide (show w2.drew.heap[w.heap.size]? = some (.cells #[.int .i64 k1, .int .i64 k2] 26 (0, 0)) from b2)
  clear hb HA b0 b2 hw1
  go_wp2_with fail
  obtain ⟨av, nv, cv, hvv⟩ : ∃ av nv cv, vr = .slice av nv cv := by
    rcases HH.out.rows.2 with ⟨e, _⟩ | ⟨_, _, _, _, e, _⟩ <;> exact ⟨_, _, _, e⟩
  refine z_begins (S := fun W => W.cell? ⟨rb, 1, none⟩ = some vr ∧ W.cell? ⟨w.heap.size, 0, none⟩ = some (.int .i64 k1) ∧ W.cell? ⟨w.heap.size, 1, none⟩ = some (.int .i64 k2)) 12 13 #[false, false, false, false, false, false, false, false, false, false, false, false, false] (by kernel_rfl) (by kernel_rfl) (by kernel_rfl) ?hS0 (fun hHeld => ?_)
  case hS0 => exact ⟨c0, x0, x1⟩
  refine zk (v := ?_) 0 12 #[true, false, false, false, false, false, false, false, false, false, false, false, false] rfl rfl (by kernel_rfl) (by kernel_rfl) (by kernel_rfl) (by kernel_rfl) (fun _ _ _ h => h) (by kernel_rfl) (by rfl) ?hy hHeld ?_
  case hy => rintro W ⟨e1, e2, e3⟩; first | (go_simp; done) | (go_simp; with_reducible rfl)
  simp only [List.setIfInBounds_toArray, List.set_cons_zero, List.set_cons_succ]
  refine zk (v := ?_) 1 13 #[true, true, false, false, false, false, false, false, false, false, false, false, false] rfl rfl (by kernel_rfl) (by kernel_rfl) (by kernel_rfl) (by kernel_rfl) (fun _ _ _ h => h) (by kernel_rfl) (by rfl) ?hy hHeld ?_
  case hy => rintro W ⟨e1, e2, e3⟩; first | (go_simp; done) | (go_simp; with_reducible rfl)
  simp only [List.setIfInBounds_toArray, List.set_cons_zero, List.set_cons_succ]
  refine zk (v := ?_) 2 14 #[true, true, true, false, false, false, false, false, false, false, false, false, false] rfl rfl (by kernel_rfl) (by kernel_rfl) (by kernel_rfl) (by kernel_rfl) (fun _ _ _ h => h) (by kernel_rfl) (by rfl) ?hy hHeld ?_
  case hy => rintro W ⟨e1, e2, e3⟩; first | (go_simp; done) | (go_simp; with_reducible rfl)
  simp only [List.setIfInBounds_toArray, List.set_cons_zero, List.set_cons_succ]
  refine zk (v := ?_) 3 15 #[true, true, true, true, false, false, false, false, false, false, false, false, false] rfl rfl (by kernel_rfl) (by kernel_rfl) (by kernel_rfl) (by kernel_rfl) (fun _ _ _ h => h) (by kernel_rfl) (by rfl) ?hy hHeld ?_
  case hy => rintro W ⟨e1, e2, e3⟩; first | (go_simp; done) | (go_simp; with_reducible rfl)
  simp only [List.setIfInBounds_toArray, List.set_cons_zero, List.set_cons_succ]
  refine zk (v := ?_) 4 16 #[true, true, true, true, true, false, false, false, false, false, false, false, false] rfl rfl (by kernel_rfl) (by kernel_rfl) (by kernel_rfl) (by kernel_rfl) (fun _ _ _ h => h) (by kernel_rfl) (by rfl) ?hy hHeld ?_
  case hy => rintro W ⟨e1, e2, e3⟩; first | (go_simp; done) | (go_simp; with_reducible rfl)
  simp only [List.setIfInBounds_toArray, List.set_cons_zero, List.set_cons_succ]
  refine zk (v := ?_) 5 17 #[true, true, true, true, true, true, false, false, false, false, false, false, false] rfl rfl (by kernel_rfl) (by kernel_rfl) (by kernel_rfl) (by kernel_rfl) (fun _ _ _ h => h) (by kernel_rfl) (by rfl) ?hy hHeld ?_
  case hy => rintro W ⟨e1, e2, e3⟩; first | (go_simp; done) | (go_simp; with_reducible rfl)
  simp only [List.setIfInBounds_toArray, List.set_cons_zero, List.set_cons_succ]
  refine zk (v := ?_) 6 18 #[true, true, true, true, true, true, true, false, false, false, false, false, false] rfl rfl (by kernel_rfl) (by kernel_rfl) (by kernel_rfl) (by kernel_rfl) (fun _ _ _ h => h) (by kernel_rfl) (by rfl) ?hy hHeld ?_
  case hy => rintro W ⟨e1, e2, e3⟩; first | (go_simp; done) | (go_simp; with_reducible rfl)
  simp only [List.setIfInBounds_toArray, List.set_cons_zero, List.set_cons_succ]
  refine zk (v := ?_) 7 19 #[true, true, true, true, true, true, true, true, false, false, false, false, false] rfl rfl (by kernel_rfl) (by kernel_rfl) (by kernel_rfl) (by kernel_rfl) (fun _ _ _ h => h) (by kernel_rfl) (by rfl) ?hy hHeld ?_
  case hy => rintro W ⟨e1, e2, e3⟩; first | (go_simp; done) | (go_simp; with_reducible rfl)
  simp only [List.setIfInBounds_toArray, List.set_cons_zero, List.set_cons_succ]
  obtain ⟨W3, hW3⟩ : ∃ W3, w2.drew.alloc (.cells #[.int .i64 k1, .int .i64 k2, .slice va L.length vcap] 129) = W3 := ⟨_, rfl⟩
  have HBd : Hid (Below w.heap.size w w2.drew) := hide B2.out.drew
  have H2d := hide (HH.out.later HBd.out)
  have b3 : Below w2.drew.heap.size w2.drew W3 := by rw [← hW3]; exact (Below.refl _ _).alloc (Nat.le_refl _) _
  have HB3 := hide b3
  have HO3 : Hid (OR W3 B 129 3 vr R.length (rwc R)) := hide (H2d.out.rows.later b3)
  have HN3 : Hid (∀ j u, ([.int .i64 k1, .int .i64 k2, .slice va L.length vcap] : List Value)[j]? = some u → W3.cell? ((⟨w2.heap.size, 0, none⟩ : Addr).add j) = some u) := hide (fun j u hj => by
    rw [← hW3, Addr.add_lit, show w2.heap.size = w2.drew.heap.size from rfl, cell_of_row _ w2.drew.heap.size _ _ _ _ (alloc_newV w2.drew _)]
    match j, hj with
    | 0, hj => cases hj; rfl
    | 1, hj => cases hj; rfl
    | 2, hj => cases hj; rfl)
  have HZ3 : Hid (B ≤ W3.heap.size) := hide (by have := HH.out.lt rb HH.out.hb; have := HBd.out.size; have := b3.size; omega)
  have HS3 : Hid (W3.cell? ⟨rb, 1, none⟩ = some vr ∧ W3.cell? ⟨w.heap.size, 0, none⟩ = some (.int .i64 k1) ∧ W3.cell? ⟨w.heap.size, 1, none⟩ = some (.int .i64 k2)) := hide ⟨(b3.cell (World.block_lt_of_cell? _ _ c0)).trans c0, (b3.cell (World.block_lt_of_cell? _ _ x0)).trans x0, (b3.cell (World.block_lt_of_cell? _ _ x1)).trans x1⟩
  have KK3 := hide ((b3.block w.heap.size (Array.getElem?_eq_some_iff.1 KK.out).1).trans KK.out)
  refine z_ready 8 #[true, true, true, true, true, true, true, true, true, false, false, false, false] rfl (by kernel_rfl) (by kernel_rfl) (by rfl) (fun K hK => ?_)
  go_simp
  refine hK.out _ _ (fun _ => HS3.out) (fun hHeld => ?_)
  clear hK K
  obtain ⟨v', w4, hrun, r1, r2, r3⟩ := run_append_or (P := Tryz.prog) W3 B 89 89 129 j0 _ 3 40 Tryz.underlying89 HI.out.1 HI.out.2.1 HI.out.2.2.1 HI.out.2.2.2 rfl (by decide) vr R.length (rwc R) HO3.out ⟨w2.heap.size, 0, none⟩ 1 [.int .i64 k1, .int .i64 k2, .slice va L.length vcap] rfl HN3.out (by intro u hu; simp at hu; rcases hu with rfl | rfl | rfl <;> rfl) (by have := HLL.out; unfold maxLen; omega) (by have := HLL.out; omega) HZ3.out
  have HE := hide (setN_end (k := (k1, k2)) HH.out HV.out.1 HV.out.2.1 HV.out.2.2 HN.out HBd.out HB3.out r1 r2 r3)
  have k4 := HE.out.1
  have kk4 : w4.heap[w.heap.size]? = _ := (r2.block w.heap.size (Array.getElem?_eq_some_iff.1 KK3.out).1 (fun e => HO3.out.row_ne KK3.out (by decide) e.symm)).trans KK3.out
  have c4 : w4.cell? ⟨rb, 1, none⟩ = some vr := by rw [cell_of_row w4 rb 1 _ _ _ k4]; rfl
  have f4 : w4.frozen? ⟨rb, 1, none⟩ = false := by unfold World.frozen?; simp [k4]
  obtain ⟨a4, cap4, rfl⟩ := r1.slc
  have HS4 : Hid (w4.cell? ⟨rb, 1, none⟩ = some vr ∧ w4.cell? ⟨w.heap.size, 0, none⟩ = some (.int .i64 k1) ∧ w4.cell? ⟨w.heap.size, 1, none⟩ = some (.int .i64 k2)) := hide ⟨c4, by rw [cell_of_row w4 _ 0 _ _ _ kk4]; rfl, by rw [cell_of_row w4 _ 1 _ _ _ kk4]; rfl⟩
  have HRUN := hide hrun
  clear r1 r2 r3 k4 kk4 hW3 c0 x0 x1 b3 hrun
  refine z_ready 9 #[true, true, true, true, true, true, true, true, true, true, false, false, false] rfl (by kernel_rfl) (by kernel_rfl) (by rfl) (fun K hK => ?_)
  refine op_append_gen _ _ rfl vr ⟨w2.heap.size, 0, none⟩ 1 1 hvv.symm rfl _ w4 HRUN.out ?_
  simp only [Act.put, List.setIfInBounds_toArray]
  refine hK.out _ _ (fun _ => HS4.out) (fun hHeld => ?_)
  clear hK K
  refine z_ready 10 #[true, true, true, true, true, true, true, true, true, true, true, false, false] rfl (by kernel_rfl) (by kernel_rfl) (by rfl) (fun K hK => ?_)
  go_simp
  refine hK.out _ _ (fun _ => HS4.out) (fun hHeld => ?_)
  clear hK K
  refine z_ready 11 #[true, true, true, true, true, true, true, true, true, true, true, true, false] rfl (by kernel_rfl) (by kernel_rfl) (by rfl) (fun K hK => ?_)
  go_simp
  refine hK.out _ _ (fun _ => HS4.out) (fun hHeld => ?_)
  clear hK K
  refine z_ready 12 #[true, true, true, true, true, true, true, true, true, true, true, true, true] rfl (by kernel_rfl) (by kernel_rfl) (by rfl) (fun K hK => ?_)
  go_simp
  refine hK.out _ _ (fun h => absurd rfl h) (fun _ => ?_)
  clear hK K
  refine z_done (by kernel_rfl) ?_ _
  go_wp2_with fail
  refine bodyPost_ret (results_none rfl _ _ _) rfl ?_
  exact ⟨⟨_, rfl⟩, _, HE.out.2⟩
end Go.Proofs.YtgeholiagcckoaaGreatDoor
