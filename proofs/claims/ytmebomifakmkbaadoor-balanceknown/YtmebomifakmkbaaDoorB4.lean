/-
  My own text: slices.Grow of nothing, slices.Concat of three rows of marks.
-/
import Derived.Test.YtmebomifakmkbaaDoorB3
import Derived.Lib.AppendZeros
import Derived.ArgAppend
namespace Go.Proofs.YtmebomifakmkbaaDoor
open Go.RowKit

theorem Tryd.infoMk : (Tryd.prog.info? 36).map (fun i => (i.zero, i.size, i.bytes)) = some (some (.agg #[.int .i64 0, .int .i64 0]), 2, 16) := by kernel_rfl
theorem owns_later {B : Nat} {e : TypeId} {k : Nat} {v : Value} {n : Nat} {xs : List Value} {w w' : World} (h : w.ownsRow B e k v n xs) (hb : Below w.heap.size w w') : w'.ownsRow B e k v n xs := by
  refine ⟨h.1, ?_⟩
  rcases h.2 with h2 | ⟨g, cap, cur, hv, hg, hh, h3⟩
  · exact .inl h2
  · exact .inr ⟨g, cap, cur, hv, hg, (hb.block g (Array.getElem?_eq_some_iff.1 hh).1).trans hh, h3⟩
/-- A row of marks of one's own. -/
abbrev OM (w : World) (B : Nat) (v : Value) (L : List Mk) : Prop := w.ownsRow B 36 2 v L.length (mc L)
theorem OM.rm {w : World} {B : Nat} {v : Value} {L : List Mk} (h : OM w B v L) : RM w v L := by
  have h' := h
  rcases h.2 with ⟨rfl, h0⟩ | ⟨g, cap, cur, rfl, hb, hh, hn, h3⟩
  · exact ⟨none, 0, by rw [h0], by omega, .inl (List.eq_nil_of_length_eq_zero h0)⟩
  · refine ⟨_, cap, rfl, hn, .inr ⟨g, 0, rfl, (Array.getElem?_eq_some_iff.1 hh).1, fun j p hj => ?_⟩⟩
    have hjl := (List.getElem?_eq_some_iff.1 hj).1
    obtain ⟨e0, e1⟩ := mc_at hj
    rw [Nat.zero_add]
    exact ⟨(h'.cellAt (j * 2) (by omega)).trans e0, (h'.cellAt (j * 2 + 1) (by omega)).trans e1⟩
theorem mc_cells : ∀ {L : List Mk} {j : Nat} {u : Value}, (mc L)[j]? = some u → ∃ (i : Nat) (p : Mk), L[i]? = some p ∧ ((j = i * 2 ∧ u = .int .i64 p.1) ∨ (j = i * 2 + 1 ∧ u = .int .i64 p.2))
  | p :: t, 0, u, h => by cases h; exact ⟨0, p, rfl, .inl ⟨rfl, rfl⟩⟩
  | p :: t, 1, u, h => by cases h; exact ⟨0, p, rfl, .inr ⟨rfl, rfl⟩⟩
  | p :: t, j + 2, u, h => by
    obtain ⟨i, q, h1, h2⟩ := mc_cells (L := t) (j := j) (u := u) h
    refine ⟨i + 1, q, h1, ?_⟩
    rcases h2 with ⟨h2, h3⟩ | ⟨h2, h3⟩
    · exact .inl ⟨by omega, h3⟩
    · exact .inr ⟨by omega, h3⟩
/-- append(row, marks..). -/
theorem run_append_rm (w : World) (B : Nat) (ty : TypeId) (v : Value) (M : List Mk) (hown : OM w B v M) (x : Value) (L : List Mk) (hx : RM w x L) (hn : M.length + L.length ≤ 8796093022208) (hB : B ≤ w.heap.size) :
    ∃ v' w', (Builtin.append_ #[22, 22] ty #[v, x]).run Tryd.prog w = .ok v' w' ∧ OM w' B v' (M ++ L) ∧ w.grownBy w' v.ownBlock := by
  obtain ⟨i0, hi, hz0, hz1, hz2⟩ := info_parts Tryd.infoMk
  obtain ⟨a, cap, rfl, _, hc⟩ := hx
  cases a with
  | none =>
    obtain rfl : L = [] := hc.resolve_right (fun ⟨b, off, h, _⟩ => by cases h)
    refine ⟨v, w, ?_, by rw [List.append_nil]; exact hown, ⟨rfl, rfl, rfl, Nat.le_refl _, fun _ _ _ => rfl⟩⟩
    rcases hown.2 with ⟨rfl, h0⟩ | ⟨g, cap', cur, rfl, _, _, hnc, _⟩
    · simp [Builtin.append_, run_underlying Tryd.underlying22, sizeOf, typeInfo, hi, Builtin.lenOf, Builtin.firstCells]
    · simp [Builtin.append_, run_underlying Tryd.underlying22, sizeOf, typeInfo, hi, Builtin.lenOf, Builtin.firstCells, hnc, storeCells]
  | some ad =>
    have hnews : ∀ j u, (mc L)[j]? = some u → w.cell? (ad.add j) = some u := fun j u hj => by
      obtain ⟨i, p, h1, h2⟩ := mc_cells hj
      have hne : ¬ L = [] := fun e => by rw [e] at h1; simp at h1
      obtain ⟨b, off, ha, _, hcc⟩ := hc.resolve_left hne
      cases ha
      rcases h2 with ⟨rfl, rfl⟩ | ⟨rfl, rfl⟩
      · rw [Addr.add_lit]; exact (hcc i p h1).1
      · have := (hcc i p h1).2
        rw [Addr.add_lit, ← Nat.add_assoc]; exact this
    obtain ⟨v', w', hrun, r1, r2, _⟩ := run_append_own (P := Tryd.prog) w B 22 ty 36 i0 _ 2 16 Tryd.underlying22 hi hz0 hz1 hz2 rfl (by decide) v M.length (mc M) hown ad L.length cap (mc L) (mc_len L) hnews (mc_one L) (by unfold maxLen; omega) (by omega) hB
    refine ⟨v', w', hrun, ?_, r2⟩
    unfold OM
    rw [List.length_append, mc_app]; exact r1
theorem drew_below {B : Nat} {w : World} : Below B w w.drew := ⟨rfl, rfl, rfl, Nat.le_refl _, fun _ _ => rfl⟩
set_option maxRecDepth 100000 in
set_option maxHeartbeats 1000000 in
theorem grow_any (n : Nat) (w : World) (hn : n ≤ 8796093022208) :
    Calls Tryd.prog 74 #[.slice none 0 0, .int .i64 (n : Int)] w fun e w' => ∃ v, e = .returned v ∧ OM w' w.heap.size v [] ∧ Below w.heap.size w w' := by
  obtain ⟨i0, hi, hz0, hz1, hz2⟩ := info_parts Tryd.infoMk
  by_cases h0 : 0 < n
  · have hrun := fun ty => Lib.run_append_nil_zeros (P := Tryd.prog) w 22 3 ty 36 i0 _ .i64 .i64 Tryd.underlying22 Tryd.underlying3 hi hz0 n h0 (by rw [hz1]; decide) (by omega) (by rw [hz2]; omega)
    have hge := grownCap_ge w n 0 36
    have hle : grownCap w n 0 36 ≤ maxLen := grownCap_le_maxLen w n 0 _ (by unfold maxLen; omega)
    obtain ⟨W, HW⟩ : ∃ W, Hid (w.drew.alloc (.cells (Builtin.zeroCells (Value.agg #[.int .i64 0, .int .i64 0]).cells n ++ Builtin.zeroCells (Value.agg #[.int .i64 0, .int .i64 0]).cells (grownCap w n 0 36 - n)) 36) = W) := ⟨_, hide rfl⟩
    have HO : Hid (OM W w.heap.size (.slice (some ⟨w.heap.size, 0, none⟩) 0 (grownCap w n 0 36)) []) := hide ⟨rfl, .inr ⟨w.heap.size, _, _, rfl, Nat.le_refl _, by rw [← HW.out]; exact alloc_new w.drew _, Nat.zero_le _, hle, by
      rw [Array.size_append, size_zeroCells, size_zeroCells, ← Nat.add_mul]
      rw [show n + (grownCap w n 0 36 - n) = grownCap w n 0 36 by omega]
      rfl, by simp [mc]⟩⟩
    have HB : Hid (Below w.heap.size w W) := hide (by rw [← HW.out]; exact (drew_below (w := w)).alloc (Nat.le_refl _) _)
    rw [HW.out] at hrun
    have HR := hide hrun
    generalize grownCap w n 0 36 = C at *
    have d1 : decide ((n : Int) < 0) = false := by rw [decide_eq_false_iff_not]; omega
    have d2 : decide (0 < (n : Int)) = true := by rw [decide_eq_true_eq]; omega
    have hw0 : wrap64 (n : Int) = (n : Int) := by unfold wrap64; omega
    have hc0 : ¬ C = 0 := by omega
    clear hrun hi hz0 hz1 hz2 HW hle
    go_enter Tryd.func74, Tryd.ntmps74
    go_wp2_with (at_builtin; refine Lib.wpList_append_run _ rfl _ _ _ _ rfl _ _ rfl rfl _ _ (HR.out _) ?_)
    go_ret
    exact ⟨_, rfl, HO.out, HB.out⟩
  · have h1 : n = 0 := by omega
    subst h1
    have HO : Hid (OM w w.heap.size (.slice none 0 0) []) := hide (World.ownsRow_nil w _ _ 2)
    go_enter Tryd.func74, Tryd.ntmps74
    go_wp2_with fail
    go_ret
    exact ⟨_, rfl, HO.out, Below.refl _ _⟩
theorem rm_lt {w : World} {v : Value} {L : List Mk} (h : RM w v L) : ∃ a cap, v = .slice a L.length cap := ⟨_, _, h.choose_spec.choose_spec.1⟩
theorem grown_om {w W W' : World} {B : Nat} {v : Value} {M : List Mk} (hB : Below B w W) (hw : B ≤ w.heap.size) (hO : OM W B v M) (hg : W.grownBy W' v.ownBlock) : Below B w W' :=
  hB.grown hg (Nat.le_trans hw hB.size) (fun k hk => (hO.lt k hk).1)
set_option maxRecDepth 100000 in
set_option maxHeartbeats 4000000 in
theorem concat_any (g : Nat) (v1 v2 v3 : Value) (L1 L2 L3 : List Mk) (w : World) (h1 : RM w v1 L1) (h2 : RM w v2 L2) (h3 : RM w v3 L3) (hg : w.heap[g]? = some (.cells #[v1, v2, v3] 22 (0, 0))) (hl : L1.length + L2.length + L3.length ≤ 1000) :
    Calls Tryd.prog 65 #[.slice (some ⟨g, 0, none⟩) 3 3] w fun e w' => ∃ v, e = .returned v ∧ OM w' w.heap.size v (L1 ++ L2 ++ L3) ∧ Below w.heap.size w w' := by
  have HG := hide hg
  have H1 := hide h1
  have H2 := hide h2
  have H3 := hide h3
  obtain ⟨a1, c1, rfl⟩ := rm_lt h1
  obtain ⟨a2, c2, rfl⟩ := rm_lt h2
  obtain ⟨a3, c3, rfl⟩ := rm_lt h3
  have x0 : w.cell? ⟨g, 0, none⟩ = some (.slice a1 L1.length c1) := by rw [cell_of_row _ _ 0 _ _ _ hg]; rfl
  have x1 : w.cell? ⟨g, 1, none⟩ = some (.slice a2 L2.length c2) := by rw [cell_of_row _ _ 1 _ _ _ hg]; rfl
  have x2 : w.cell? ⟨g, 2, none⟩ = some (.slice a3 L3.length c3) := by rw [cell_of_row _ _ 2 _ _ _ hg]; rfl
  have HGL := hide (blk_lt hg)
  clear hg h1 h2 h3
  obtain ⟨n1, HN1⟩ : ∃ n1, Hid (L1.length = n1) := ⟨_, hide rfl⟩
  obtain ⟨n2, HN2⟩ : ∃ n2, Hid (L2.length = n2) := ⟨_, hide rfl⟩
  obtain ⟨n3, HN3⟩ : ∃ n3, Hid (L3.length = n3) := ⟨_, hide rfl⟩
  rw [HN1.out] at H1 x0
  rw [HN2.out] at H2 x1
  rw [HN3.out] at H3 x2
  rw [HN1.out, HN2.out, HN3.out] at hl
  have w1 : wrap64 (n1 : Int) = (n1 : Int) := by unfold wrap64; omega
  have w2 : wrap64 ((n1 : Int) + (n2 : Int)) = (n1 : Int) + (n2 : Int) := by unfold wrap64; omega
  have w3 : wrap64 ((n1 : Int) + (n2 : Int) + (n3 : Int)) = (n1 : Int) + (n2 : Int) + (n3 : Int) := by unfold wrap64; omega
  have d1 : decide ((n1 : Int) < 0) = false := by rw [decide_eq_false_iff_not]; omega
  have d2 : decide ((n1 : Int) + (n2 : Int) < 0) = false := by rw [decide_eq_false_iff_not]; omega
  have d3 : decide ((n1 : Int) + (n2 : Int) + (n3 : Int) < 0) = false := by rw [decide_eq_false_iff_not]; omega
  have HGR := hide (grow_any (n1 + n2 + n3) w (by omega))
  rw [show ((n1 + n2 + n3 : Nat) : Int) = (n1 : Int) + (n2 : Int) + (n3 : Int) by omega] at HGR
  go_enter Tryd.func65, Tryd.ntmps65
  go_wp2_with fail
  refine wp_loop_rounds 4 ?_
  rw [rounds_succ]
  go_wp2_with fail
  rw [rounds_succ]
  go_wp2_with fail
  rw [rounds_succ]
  go_wp2_with fail
  rw [rounds_succ]
  go_wp2_with fail
  refine HGR.out.mono ?_
  rintro e W0 ⟨v0, rfl, hO0, hB0⟩
  clear HGR
  have HB0 := hide hB0
  have HO0 := hide hO0
  have q1 : RM w (.slice a1 n1 c1) L1 := H1.out
  have q2 : RM w (.slice a2 n2 c2) L2 := H2.out
  have q3 : RM w (.slice a3 n3 c3) L3 := H3.out
  have y0 := (hB0.cell (p := ⟨g, 0, none⟩) HGL.out).trans x0
  obtain ⟨V1, W1, hr1, hO1, hg1⟩ := run_append_rm W0 w.heap.size 22 v0 [] hO0 (.slice a1 n1 c1) L1 (q1.later hB0) (by have := HN1.out; simp; omega) hB0.size
  have hB1 := grown_om hB0 (Nat.le_refl _) hO0 hg1
  have y1 := (hB1.cell (p := ⟨g, 1, none⟩) HGL.out).trans x1
  obtain ⟨V2, W2, hr2, hO2, hg2⟩ := run_append_rm W1 w.heap.size 22 V1 _ hO1 (.slice a2 n2 c2) L2 (q2.later hB1) (by have := HN1.out; have := HN2.out; simp; omega) hB1.size
  have hB2 := grown_om hB1 (Nat.le_refl _) hO1 hg2
  have y2 := (hB2.cell (p := ⟨g, 2, none⟩) HGL.out).trans x2
  obtain ⟨V3, W3, hr3, hO3, hg3⟩ := run_append_rm W2 w.heap.size 22 V2 _ hO2 (.slice a3 n3 c3) L3 (q3.later hB2) (by have := HN1.out; have := HN2.out; have := HN3.out; simp; omega) hB2.size
  have HB3 := hide (grown_om hB2 (Nat.le_refl _) hO2 hg3)
  rw [List.nil_append] at hO3
  have HO3 := hide hO3
  have HR1 := hide hr1
  have HR2 := hide hr2
  have HR3 := hide hr3
  clear hr1 hr2 hr3 hO0 hO1 hO2 hO3 hB0 hB1 hB2 hg1 hg2 hg3 q1 q2 q3 H1 H2 H3 HG HB0 HO0 x0 x1 x2 w1 w2 w3 d1 d2 d3
  go_wp2_with fail
  refine wp_loop_rounds 4 ?_
  rw [rounds_succ]
  go_wp2_with (at_builtin; refine Lib.wpList_append_run _ rfl _ _ _ _ rfl _ _ rfl rfl _ _ HR1.out ?_)
  rw [rounds_succ]
  go_wp2_with (at_builtin; refine Lib.wpList_append_run _ rfl _ _ _ _ rfl _ _ rfl rfl _ _ HR2.out ?_)
  rw [rounds_succ]
  go_wp2_with (at_builtin; refine Lib.wpList_append_run _ rfl _ _ _ _ rfl _ _ rfl rfl _ _ HR3.out ?_)
  rw [rounds_succ]
  go_wp2_with fail
  go_ret
  exact ⟨_, rfl, HO3.out, HB3.out⟩
end Go.Proofs.YtmebomifakmkbaaDoor
