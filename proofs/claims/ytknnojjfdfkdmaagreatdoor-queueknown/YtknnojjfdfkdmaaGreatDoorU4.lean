/-
  My own text: layer 19: slices.Delete of one entry; a row with one more, a row without one, by the program.
-/
import Derived.Test.YtknnojjfdfkdmaaGreatDoorU3
namespace Go.Proofs.YtknnojjfdfkdmaaGreatDoor
open Go.RowKit

theorem zerosE (m : Nat) : (Builtin.zeroCells (Value.pointer none).cells m).toList = List.replicate m (.pointer none) := by
  have hc : (Value.pointer none).cells = #[.pointer none] := rfl
  rw [hc]
  apply List.ext_getElem
  · simp [Builtin.zeroCells]
  · intro i h1 h2
    simp only [Builtin.zeroCells]
    simp [Nat.mod_one]
theorem run_clearE (w : World) (ty : TypeId) (g o n c : Nat) (hn : 0 < n) (hc : ∀ j, j < n → (w.cell? ⟨g, o + j, none⟩).isSome = true) (hf : ∀ j, j < n → w.frozen? ⟨g, o + j, none⟩ = false) :
    (Builtin.clear_ #[60] ty #[.slice (some ⟨g, o, none⟩) n c]).run Tryz.prog w = .ok (.tuple #[]) (w.setCells g o (List.replicate n (.pointer none))) := by
  have hst := run_storeCells_cells (P := Tryz.prog) g o (List.replicate n (.pointer none)) 0 w (by simpa using hc) (by simpa using hf) (by intro v hv'; rw [List.eq_of_mem_replicate hv']; rfl)
  simp only [Nat.add_zero] at hst
  have hv : ∀ w, (zeroValue 63).run Tryz.prog w = .ok (.pointer none) w := fun w => by kernel_rfl
  obtain ⟨m, rfl⟩ : ∃ m, n = m + 1 := ⟨n - 1, by omega⟩
  simp [Builtin.clear_, run_underlying Tryz.underlying60, hv, zerosE, hst]
theorem step_append_run {P : Program} {ops : Array Oper} {o : Oper} {a : Act} {w : World} {K : Act → World → Prop} {Q : Exit → Act → World → Prop} {E : Prop}
    (hg : o.guard = none) (s x : Operand) (t tn : TypeId) (ho : o.op = .call { callee := .builtin .append, args := #[s, x], argTypes := #[t, tn] }) (vs vx : Value) (hs : a.eval s = vs) (hx : a.eval x = vx)
    {v' : Value} {w' : World} (hr : (Builtin.append_ #[t, tn] o.type #[vs, vx]).run P w = .ok v' w') (h : K (a.put o.dst v') w') : if Region.wanted o (yielded ops a.tmps) = true then Oper.wp P o a w K Q else E := by
  have hw : Region.wanted o (yielded ops a.tmps) = true := by simp [Region.wanted, hg]
  rw [if_pos hw]
  exact Lib.wp_append_run w s x t tn ho vs vx hs hx v' w' hr h
/-- Draws alone. -/
def Dq (W : World) : Type := { w' : World // ∃ q, w' = W.drewN q }
theorem del_at {L : List Nat} {p j x : Nat} (hp : p < L.length) (h : (L.take p ++ L.drop (p + 1))[j]? = some x) : (j < p ∧ L[j]? = some x) ∨ (p ≤ j ∧ L[j + 1]? = some x) := by
  have hlen : (L.take p).length = p := by rw [List.length_take]; omega
  by_cases h1 : j < p
  · rw [List.getElem?_append_left (by omega), List.getElem?_take, if_pos h1] at h
    exact .inl ⟨h1, h⟩
  · rw [List.getElem?_append_right (by omega), hlen, List.getElem?_drop, show p + 1 + (j - p) = j + 1 by omega] at h
    exact .inr ⟨by omega, h⟩
theorem del_len {L : List Nat} {p : Nat} (hp : p < L.length) : (L.take p ++ L.drop (p + 1)).length = L.length - 1 := by
  rw [List.length_append, List.length_take, List.length_drop]; omega
theorem del_nums {p n cap : Nat} (hp : p < n) (hn : n ≤ cap) (h0 : 0 < p) : (0 : Int) ≤ (p : Int) ∧ (p : Int) ≤ (p : Int) + 1 ∧ (p : Int) + 1 ≤ (n : Int) ∧ (n : Int) ≤ (cap : Int) ∧ ((p : Int) + 1).toNat = p + 1 ∧ ¬ ((p : Int) = (p : Int) + 1) ∧ ((p : Int) == (p : Int) + 1) = false ∧ (p : Int) ≤ (cap : Int) ∧ (p : Int) ≤ (n : Int) ∧ ¬ (n = p) ∧ ¬ (cap = p) ∧ p + (n - (p + 1)) = n - 1 ∧ (0 : Int) ≤ (p : Int) + 1 :=
  ⟨by omega, by omega, by omega, by omega, by omega, by omega, by rw [beq_eq_false_iff_ne]; omega, by omega, by omega, by omega, by omega, by omega, by omega⟩
set_option maxRecDepth 100000 in
set_option maxHeartbeats 1000000 in
theorem delete_any (v : Value) (p : Nat) (L : List Nat) (w : World) (h : PR w v L) (hp : p < L.length) (h0 : 0 < p) (hl : L.length ≤ 8796093022000) :
    Calls Tryz.prog 57 #[v, .int .i64 (p : Int), .int .i64 ((p : Int) + 1)] w fun r w' => ∃ v', r = .returned v' ∧ PR w' v' (L.take p ++ L.drop (p + 1)) ∧ w.grownBy w' v.ownBlock ∧ v'.ownBlock = v.ownBlock := by
  obtain ⟨i0, hi, hz0, hz1, hz2⟩ := info_parts Tryz.infoE
  rcases h.get with ⟨rfl, rfl⟩ | ⟨g, off, cap, cur, rfl, hh, hn, hm, hsz, hc⟩
  · simp at hp
  obtain ⟨D, hD⟩ : ∃ D : List Value, D = (L.map ep).drop (p + 1) := ⟨_, rfl⟩
  have hDl : D.length = L.length - (p + 1) := by rw [hD, List.length_drop, List.length_map]
  have hDat : ∀ (j : Nat) (u : Value), D[j]? = some u → ∃ x, L[p + 1 + j]? = some x ∧ u = ep x := fun j u hj => by
    rw [hD, List.getElem?_drop, List.getElem?_map] at hj
    obtain ⟨x, hx, rfl⟩ := Option.map_eq_some_iff.1 hj
    exact ⟨x, hx, rfl⟩
  have hDe : ∀ (j x : Nat), L[p + 1 + j]? = some x → D[j]? = some (ep x) := fun j x hx => by
    rw [hD, List.getElem?_drop, List.getElem?_map, hx]; rfl
  have hD1 : ∀ u ∈ D, u.oneCell' = true := fun u hu => by rw [hD] at hu; exact ep_one (List.mem_of_mem_drop hu)
  clear hD
  have hrun : ∀ (ty : TypeId) (a2 : Addr) (sc q : Nat), (p + 1 < L.length → a2 = ⟨g, off + (p + 1), none⟩) → (Builtin.append_ #[60, 60] ty #[.slice (some ⟨g, off, none⟩) p cap, .slice (some a2) (L.length - (p + 1)) sc]).run Tryz.prog (w.drewN q) = .ok (.slice (some ⟨g, off, none⟩) (L.length - 1) cap) ((w.drewN q).setCells g (off + p) D) := fun ty a2 sc q ha2 => by
    have := run_append_room_cells (P := Tryz.prog) (w.drewN q) 60 ty 63 i0 Tryz.underlying60 hi g off p cap a2 (L.length - (p + 1)) sc D (by rw [hz1, Nat.mul_one]; exact hDl)
      (fun j u hj => by
        have hjl := (List.getElem?_eq_some_iff.1 hj).1
        obtain ⟨x, hx, rfl⟩ := hDat j u hj
        rw [ha2 (by omega), Addr.add_lit, Nat.add_assoc]; exact hc _ x hx) hD1 (by omega) (fun j hj => some_row (w := w.drewN q) hh (by rw [hz1]; omega)) (fun j _ => clr_row (w := w.drewN q) hh _)
    rw [hz1, Nat.mul_one, show p + (L.length - (p + 1)) = L.length - 1 by omega] at this
    exact this
  have hcells : ∀ q, ∀ (j x : Nat), (L.take p ++ L.drop (p + 1))[j]? = some x → ((w.drewN q).setCells g (off + p) D).cell? ⟨g, off + j, none⟩ = some (ep x) := fun q j x hx => by
    rcases del_at hp hx with ⟨h1, h2⟩ | ⟨h1, h2⟩
    · rw [World.cell?_setCells_out g _ _ (w.drewN q) ⟨g, off + j, none⟩ (fun _ _ => .inl (by show off + j < off + p; omega))]
      exact hc j x h2
    · have hxl := (List.getElem?_eq_some_iff.1 h2).1
      have a1 := World.cell?_setCells_in g D (off + p) (w.drewN q) (fun i hi => some_row (w := w.drewN q) hh (by omega)) (j - p) (by omega)
      rw [show off + p + (j - p) = off + j by omega] at a1
      have a2 := hDe (j - p) x (by rw [show p + 1 + (j - p) = j + 1 by omega]; exact h2)
      rw [a1, ← a2]; exact (List.getElem?_eq_getElem (by omega)).symm
  have hblk : ∀ q, ∃ cur', ((w.drewN q).setCells g (off + p) D).heap[g]? = some (.cells cur' 63 (0, 0)) ∧ cur'.size = cur.size := fun q => sc_block D g (off + p) (w.drewN q) cur _ _ hh
  have hgr : ∀ q, w.grownBy ((w.drewN q).setCells g (off + p) D) (some g) := fun q => gb_trans (b := w.drewN q) ⟨rfl, rfl, rfl, Nat.le_refl _, fun _ _ _ => rfl⟩ (sc_grown _ g (off + p) D)
  have HF : Hid (∀ W1 : World, (∃ q, W1 = (w.drewN q).setCells g (off + p) D) → (∀ ty, (Builtin.clear_ #[60] ty #[.slice (some ⟨g, off + (L.length - 1), none⟩) (L.length - (L.length - 1)) (cap - (L.length - 1))]).run Tryz.prog W1 = .ok (.tuple #[]) (W1.setCells g (off + (L.length - 1)) [.pointer none])) ∧ PR (W1.setCells g (off + (L.length - 1)) [.pointer none]) (.slice (some ⟨g, off, none⟩) (L.length - 1) cap) (L.take p ++ L.drop (p + 1)) ∧ w.grownBy (W1.setCells g (off + (L.length - 1)) [.pointer none]) (some g)) := hide (by
    rintro W1 ⟨q, rfl⟩
    obtain ⟨cur1, hh1, hs1⟩ := hblk q
    have hc1 := hcells q
    have hg1 := hgr q
    generalize (w.drewN q).setCells g (off + p) D = W1 at *
    refine ⟨fun ty => ?_, ?_, gb_trans hg1 (sc_grown _ _ _ _)⟩
    · have := run_clearE W1 ty g (off + (L.length - 1)) (L.length - (L.length - 1)) (cap - (L.length - 1)) (by omega) (fun j hj => some_row hh1 (by omega)) (fun j _ => clr_row hh1 _)
      rw [show L.length - (L.length - 1) = 1 by omega] at this ⊢
      exact this
    · obtain ⟨cur2, hh2, hs2⟩ := sc_block [.pointer none] g (off + (L.length - 1)) W1 cur1 _ _ hh1
      have hPR := PR.mk (w := W1.setCells g (off + (L.length - 1)) [.pointer none]) (g := g) (off := off) (cap := cap) (cur := cur2) (L := L.take p ++ L.drop (p + 1)) hh2 (by rw [del_len hp]; omega) hm (by omega) (fun j x hx => by
        have hjl := (List.getElem?_eq_some_iff.1 hx).1
        rw [del_len hp] at hjl
        rw [World.cell?_setCells_out g _ _ W1 ⟨g, off + j, none⟩ (fun _ _ => .inl (by show off + j < off + (L.length - 1); omega))]
        exact hc1 j x hx)
      rw [del_len hp] at hPR
      exact hPR)
  obtain ⟨n1, n2, n3, n4, n5, n6, n7, n8, n9, n10, n11, n12, n13⟩ := del_nums hp hn h0
  clear hDl hDat hDe hD1 hcells hblk hgr hsz hm hc hh hi hz0 hz1 hz2
  show Calls Tryz.prog 57 #[.slice (some ⟨g, off, none⟩) L.length cap, .int .i64 (p : Int), .int .i64 ((p : Int) + 1)] w fun r w' => ∃ v', r = .returned v' ∧ PR w' v' (L.take p ++ L.drop (p + 1)) ∧ w.grownBy w' (some g) ∧ v'.ownBlock = some g
  go_enter Tryz.func57, Tryz.ntmps57
  go_wp2_with fail
  by_cases hcp : cap = p + 1
  · have hL : L.length = p + 1 := by omega
    subst hcp
    have hr1 : ∀ ty a2 sc q, _ := fun ty a2 sc q => hrun ty a2 sc q (fun h => by omega)
    rw [hL] at hr1 HF n3 n4 n9 n10 n12 ⊢
    have e0 : p + 1 - (p + 1) = 0 := by omega
    have e1 : p + 1 - 1 = p := by omega
    have e2 : p + 1 - p = 1 := by omega
    rw [e0, e1] at hr1
    rw [e1, e2] at HF
    clear hrun hL
    haveI : Nonempty (Dq w) := ⟨⟨w, 0, rfl⟩⟩
    refine region_qtails (C := fun w' => ∃ z : Dq w, w' = z.1) 6 1 rfl (by kernel_rfl) (by kernel_rfl) ⟨⟨_, 1, rfl⟩, rfl⟩ ?_
    simp only [List.take_succ_cons, List.take_zero, List.drop_succ_cons, List.drop_zero]
    repeat (first
      | go_big_quiet_skip
      | (go_big_quiet_want; (go_big_quiet_op; go_big_quiet_on)))
    refine wpQuiet_nil ?_
    rintro w3 ⟨z, rfl⟩
    obtain ⟨w3, q, rfl⟩ := z
    dsimp only
    obtain ⟨W1, hW1⟩ : ∃ W1, (w.drewN q).setCells g (off + p) D = W1 := ⟨_, rfl⟩
    have hr2 : ∀ ty a2 sc, _ := fun ty a2 sc => hr1 ty a2 sc q
    rw [hW1] at hr2
    obtain ⟨h1, h2, h3⟩ := HF.out W1 ⟨q, hW1.symm⟩
    have H2 := hide h2
    have H3 := hide h3
    clear h2 h3 HF hr1 hW1
    go_wp2_with (at_builtin; refine Lib.wpList_append_run _ rfl _ _ 60 60 rfl _ _ rfl rfl _ _ (hr2 _ _ _) ?_)
    go_ret
    exact ⟨_, rfl, H2.out, H3.out, rfl⟩
  · have hr1 : ∀ ty sc q, _ := fun ty sc q => hrun ty ⟨g, off + (p + 1), none⟩ sc q (fun _ => rfl)
    haveI : Nonempty (Dq w) := ⟨⟨w, 0, rfl⟩⟩
    refine region_qtails (C := fun w' => ∃ z : Dq w, w' = z.1) 6 1 rfl (by kernel_rfl) (by kernel_rfl) ⟨⟨_, 1, rfl⟩, rfl⟩ ?_
    simp only [List.take_succ_cons, List.take_zero, List.drop_succ_cons, List.drop_zero]
    repeat (first
      | go_big_quiet_skip
      | (go_big_quiet_want; (go_big_quiet_op; go_big_quiet_on)))
    refine wpQuiet_nil ?_
    rintro w3 ⟨z, rfl⟩
    obtain ⟨w3, q, rfl⟩ := z
    dsimp only
    obtain ⟨W1, hW1⟩ : ∃ W1, (w.drewN q).setCells g (off + p) D = W1 := ⟨_, rfl⟩
    have hr2 : ∀ ty sc, _ := fun ty sc => hr1 ty sc q
    rw [hW1] at hr2
    obtain ⟨h1, h2, h3⟩ := HF.out W1 ⟨q, hW1.symm⟩
    have H2 := hide h2
    have H3 := hide h3
    clear h2 h3 HF hrun hr1 hW1
    go_wp2_with (at_builtin; refine Lib.wpList_append_run _ rfl _ _ 60 60 rfl _ _ rfl rfl _ _ (hr2 _ _) ?_)
    go_ret
    exact ⟨_, rfl, H2.out, H3.out, rfl⟩
end Go.Proofs.YtknnojjfdfkdmaaGreatDoor
