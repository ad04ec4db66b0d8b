/-
  My own text: VWR, VWS in one.
-/
import Derived.Test.YtdjhbecbbmdimaaGreatDoorVW1
import Derived.Test.YtdjhbecbbmdimaaGreatDoorGKS
import Derived.Test.YtdjhbecbbmdimaaGreatDoorGLR
import Derived.Test.YtdjhbecbbmdimaaGreatDoorG5
namespace Go.Proofs.YtdjhbecbbmdimaaGreatDoor
open Go.RowKit

set_option maxRecDepth 100000 in
set_option maxHeartbeats 1000000 in
theorem less_any (a0 a1 b0 b1 : Int) (w : World) : Calls Tryz.prog 34 #[.agg #[.int .i64 a0, .int .i64 a1], .agg #[.int .i64 b0, .int .i64 b1]] w fun e w' => e = .returned (.bool (decide (ltK (a0, a1) (b0, b1)))) ∧ Below w.heap.size w w' := by
  have B0 := hide (((Below.refl w.heap.size w).alloc (Nat.le_refl _) (.cells #[.int .i64 a0, .int .i64 a1] 39)).alloc (by simp) (.cells #[.int .i64 b0, .int .i64 b1] 39))
  by_cases h1 : a0 < b0
  · have hd : decide (ltK (a0, a1) (b0, b1)) = true := decide_eq_true (.inl h1)
    rw [hd]
    go_enter Tryz.func34, Tryz.ntmps34
    go_wp2_with fail
    go_ret
    exact ⟨rfl, B0.out⟩
  · by_cases h2 : a0 = b0
    · by_cases h3 : a1 < b1
      · have hd : decide (ltK (a0, a1) (b0, b1)) = true := decide_eq_true (.inr ⟨h2, h3⟩)
        rw [hd]
        subst h2
        go_enter Tryz.func34, Tryz.ntmps34
        go_wp2_with fail
        go_ret
        exact ⟨rfl, B0.out⟩
      · have hd : decide (ltK (a0, a1) (b0, b1)) = false := decide_eq_false (fun h => h.elim h1 (fun k => h3 k.2))
        rw [hd]
        subst h2
        go_enter Tryz.func34, Tryz.ntmps34
        go_wp2_with fail
        go_ret
        exact ⟨rfl, B0.out⟩
    · have hd : decide (ltK (a0, a1) (b0, b1)) = false := decide_eq_false (fun h => h.elim h1 (fun k => h2 k.1))
      rw [hd]
      have h4 : (a0 == b0) = false := by simp [h2]
      have h5 : decide (a0 = b0) = false := decide_eq_false h2
      go_enter Tryz.func34, Tryz.ntmps34
      go_wp2_with fail
      go_ret
      exact ⟨rfl, B0.out⟩
set_option maxRecDepth 100000 in
set_option maxHeartbeats 8000000 in
theorem with_any (v : Value) (L : List Ky) (k0 k1 : Int) (w : World) (hv : KY.RM w v L) (hl : L.length ≤ 8796093022100) :
    Calls Tryz.prog 23 #[v, .agg #[.int .i64 k0, .int .i64 k1]] w fun e w' => ∃ v', e = .returned v' ∧ KY.OM w' w.heap.size v' (insK (k0, k1) L) ∧ Below w.heap.size w w' := by
  obtain ⟨a, cap, rfl, _, hr⟩ := hv
  have HR := hide hr
  have HLN := hide hl
  have B0 := hide ((Below.refl w.heap.size w).alloc (Nat.le_refl _) (.cells #[.int .i64 k0, .int .i64 k1] 39))
  have N0 := hide (alloc_new w (.cells #[.int .i64 k0, .int .i64 k1] 39))
  have HS1 : Hid (∀ W : World, W.heap[w.heap.size]? = some (.cells #[.int .i64 k0, .int .i64 k1] 39 (0, 0)) → w.heap.size + 1 ≤ W.heap.size) := hide (fun W h => (Array.getElem?_eq_some_iff.1 h).1)
  clear hr hl
  go_enter Tryz.func23, Tryz.ntmps23
  go_wp2_with fail
  generalize w.alloc (.cells #[.int .i64 k0, .int .i64 k1] 39) = W0 at B0 N0 ⊢
  go_loopw [5, 6, 7] (fun o q i wr => ∃ (j : Nat) (b : Bool) (O : List Ky) (oa : Option Addr) (oc : Nat), j ≤ L.length ∧ i = .int .i64 (j : Int) ∧ q = .bool b ∧ o = .slice oa O.length oc ∧ Hid (Wi (k0, k1) (L.take j) b O) ∧ Hid (KY.OM wr (w.heap.size + 1) (.slice oa O.length oc) O) ∧ Hid (wr.heap[w.heap.size]? = some (.cells #[.int .i64 k0, .int .i64 k1] 39 (0, 0))) ∧ Hid (Below w.heap.size w wr)) (fun _ _ i _ => L.length - (intOf i).toNat)
  case atStart => exact ⟨0, false, [], none, 0, Nat.zero_le _, rfl, rfl, rfl, hide (Wi.nil _), hide (KY.OM.nil _ _), N0, B0⟩
  case round =>
    clear N0 B0
    obtain ⟨j, b, O, oa, oc, hj, rfl, rfl, rfl, HWi, HO, N, HB⟩ := hrel
    by_cases hlt : j < L.length
    · obtain ⟨⟨y0, y1⟩, hx⟩ : ∃ p, L[j]? = some p := ⟨_, List.getElem?_eq_getElem hlt⟩
      obtain ⟨g, off, rfl, hgl, hc⟩ := HR.out.resolve_left (fun h => by rw [h] at hlt; simp at hlt)
      have z0 : wr.cell? ⟨g, off + j * 2, none⟩ = some (.int .i64 y0) := (HB.out.cell (p := ⟨g, _, none⟩) hgl).trans (hc j _ hx).1
      have z1 : wr.cell? ⟨g, off + j * 2 + 1, none⟩ = some (.int .i64 y1) := (HB.out.cell (p := ⟨g, _, none⟩) hgl).trans (hc j _ hx).2
      have z1' : wr.cell? ⟨g, off + (j * 2 + 1), none⟩ = some (.int .i64 y1) := z1
      obtain ⟨x0, x1⟩ := pair_cells N.out rfl
      have hd : decide ((j : Int) < (L.length : Int)) = true := by rw [decide_eq_true_eq]; omega
      have k0' : (0 : Int) ≤ (j : Int) := by omega
      have k1' : (j : Int) < (L.length : Int) := by omega
      have HT : Hid (L.take (j + 1) = L.take j ++ [(y0, y1)]) := hide (by rw [List.take_add_one, hx]; rfl)
      have HLL : Hid (O.length ≤ j + 1) := hide (by have := HWi.out.len; rw [List.length_take] at this; omega)
      have HJ := hide hlt
      have HG : Hid (g < w.heap.size) := hide hgl
      have HC := hide (hc j _ hx)
      have wk : wrap64 ((j : Int) + 1) = (j : Int) + 1 := by have := HLN.out; unfold wrap64; omega
      have ev := KY.eqMk y0 y1 k0 k1
      clear hc hx hlt hgl
      cases b with
      | true =>
        cases hE : (y0 == k0 && y1 == k1) with
        | true =>
          rw [hE] at ev
          clear hE
          go_wp2_with fail
          go_quiet (fail)
          have HB1 := hide (below_dN HB.out nq)
          obtain ⟨W1, hW1⟩ : ∃ x, wr.drewN nq = x := ⟨_, rfl⟩
          have N1 : Hid (W1.heap[w.heap.size]? = some (.cells #[.int .i64 k0, .int .i64 k1] 39 (0, 0))) := hide (by rw [← hW1]; exact N.out)
          have HO1 : Hid (KY.OM W1 (w.heap.size + 1) (.slice oa O.length oc) O) := hide (by rw [← hW1]; exact HO.out.later (below_dN (Below.refl _ _) nq))
          rw [hW1] at HB1 ⊢
          clear hW1 N HB HO z0 z1 z1' x0 x1
          have z0 : W1.cell? ⟨g, off + j * 2, none⟩ = some (.int .i64 y0) := (HB1.out.cell (p := ⟨g, _, none⟩) HG.out).trans HC.out.1
          have z1 : W1.cell? ⟨g, off + j * 2 + 1, none⟩ = some (.int .i64 y1) := (HB1.out.cell (p := ⟨g, _, none⟩) HG.out).trans HC.out.2
          have z1' : W1.cell? ⟨g, off + (j * 2 + 1), none⟩ = some (.int .i64 y1) := z1
          obtain ⟨x0, x1⟩ := pair_cells N1.out rfl
          go_wp2_with fail
          go_quiet (fail)
          have HB2 := hide (below_dN HB1.out nq)
          obtain ⟨W2, hW2⟩ : ∃ x, W1.drewN nq = x := ⟨_, rfl⟩
          have N2 : Hid (W2.heap[w.heap.size]? = some (.cells #[.int .i64 k0, .int .i64 k1] 39 (0, 0))) := hide (by rw [← hW2]; exact N1.out)
          have HO2 : Hid (KY.OM W2 (w.heap.size + 1) (.slice oa O.length oc) O) := hide (by rw [← hW2]; exact HO1.out.later (below_dN (Below.refl _ _) nq))
          rw [hW2] at HB2 ⊢
          clear hW2 N1 HB1 HO1 z0 z1 z1' x0 x1
          have z0 : W2.cell? ⟨g, off + j * 2, none⟩ = some (.int .i64 y0) := (HB2.out.cell (p := ⟨g, _, none⟩) HG.out).trans HC.out.1
          have z1 : W2.cell? ⟨g, off + j * 2 + 1, none⟩ = some (.int .i64 y1) := (HB2.out.cell (p := ⟨g, _, none⟩) HG.out).trans HC.out.2
          have z1' : W2.cell? ⟨g, off + (j * 2 + 1), none⟩ = some (.int .i64 y1) := z1
          obtain ⟨x0, x1⟩ := pair_cells N2.out rfl
          go_wp2_with (first
            | (at_builtin; refine KY.wp_append_kept rfl _ _ rfl (w.heap.size + 1) _ _ (y0, y1) _ rfl rfl (World.ownsRow.alloc HO2.out _) ?c1a ?c1b ?c1c ?c1d ?_)
            | go_in)
          case c1c => have := HS1.out W2 N2.out; simp; omega
          case c1d => have := HLN.out; have := HLL.out; simp; omega
          intro v4 w4 HO4' w4G _
          have HB4 := hide ((HB2.out.alloc HB2.out.size (.cells #[.int .i64 y0, .int .i64 y1] 39)).grown w4G.grown (by have := HB2.out.size; simp; omega) (fun g hg => by have := (World.ownsRow.lt HO2.out g hg).1; omega))
          have N4 := hide ((w4G.grown.block w.heap.size (Array.getElem?_eq_some_iff.1 (alloc_block (o := .cells #[.int .i64 y0, .int .i64 y1] 39) N2.out)).1 (fun e => by have := (World.ownsRow.lt HO2.out _ e.symm).1; omega)).trans (alloc_block (o := .cells #[.int .i64 y0, .int .i64 y1] 39) N2.out))
          have HO4 := hide HO4'
          obtain ⟨aw4, cw4, hw4⟩ := KY.OM.slice HO4'
          subst hw4
          clear HO4' w4G
          go_wp2_with fail
          go_roundw
          case rel => exact ⟨j + 1, true, (O ++ [(y0, y1)]), _, _, by have := HJ.out; omega, by go_num, rfl, rfl, hide (by rw [HT.out]; exact HWi.out.put), HO4, N4, HB4⟩
          case measure => have := HJ.out; first | (rw [wk]; simp [intOf]; omega) | (simp [intOf]; omega)

        | false =>
          rw [hE] at ev
          clear hE
          go_wp2_with fail
          go_quiet (fail)
          have HB1 := hide (below_dN HB.out nq)
          obtain ⟨W1, hW1⟩ : ∃ x, wr.drewN nq = x := ⟨_, rfl⟩
          have N1 : Hid (W1.heap[w.heap.size]? = some (.cells #[.int .i64 k0, .int .i64 k1] 39 (0, 0))) := hide (by rw [← hW1]; exact N.out)
          have HO1 : Hid (KY.OM W1 (w.heap.size + 1) (.slice oa O.length oc) O) := hide (by rw [← hW1]; exact HO.out.later (below_dN (Below.refl _ _) nq))
          rw [hW1] at HB1 ⊢
          clear hW1 N HB HO z0 z1 z1' x0 x1
          have z0 : W1.cell? ⟨g, off + j * 2, none⟩ = some (.int .i64 y0) := (HB1.out.cell (p := ⟨g, _, none⟩) HG.out).trans HC.out.1
          have z1 : W1.cell? ⟨g, off + j * 2 + 1, none⟩ = some (.int .i64 y1) := (HB1.out.cell (p := ⟨g, _, none⟩) HG.out).trans HC.out.2
          have z1' : W1.cell? ⟨g, off + (j * 2 + 1), none⟩ = some (.int .i64 y1) := z1
          obtain ⟨x0, x1⟩ := pair_cells N1.out rfl
          go_wp2_with fail
          go_quiet (fail)
          have HB2 := hide (below_dN HB1.out nq)
          obtain ⟨W2, hW2⟩ : ∃ x, W1.drewN nq = x := ⟨_, rfl⟩
          have N2 : Hid (W2.heap[w.heap.size]? = some (.cells #[.int .i64 k0, .int .i64 k1] 39 (0, 0))) := hide (by rw [← hW2]; exact N1.out)
          have HO2 : Hid (KY.OM W2 (w.heap.size + 1) (.slice oa O.length oc) O) := hide (by rw [← hW2]; exact HO1.out.later (below_dN (Below.refl _ _) nq))
          rw [hW2] at HB2 ⊢
          clear hW2 N1 HB1 HO1 z0 z1 z1' x0 x1
          have z0 : W2.cell? ⟨g, off + j * 2, none⟩ = some (.int .i64 y0) := (HB2.out.cell (p := ⟨g, _, none⟩) HG.out).trans HC.out.1
          have z1 : W2.cell? ⟨g, off + j * 2 + 1, none⟩ = some (.int .i64 y1) := (HB2.out.cell (p := ⟨g, _, none⟩) HG.out).trans HC.out.2
          have z1' : W2.cell? ⟨g, off + (j * 2 + 1), none⟩ = some (.int .i64 y1) := z1
          obtain ⟨x0, x1⟩ := pair_cells N2.out rfl
          go_wp2_with (first
            | (at_builtin; refine KY.wp_append_kept rfl _ _ rfl (w.heap.size + 1) _ _ (y0, y1) _ rfl rfl (World.ownsRow.alloc HO2.out _) ?c2a ?c2b ?c2c ?c2d ?_)
            | go_in)
          case c2c => have := HS1.out W2 N2.out; simp; omega
          case c2d => have := HLN.out; have := HLL.out; simp; omega
          intro v4 w4 HO4' w4G _
          have HB4 := hide ((HB2.out.alloc HB2.out.size (.cells #[.int .i64 y0, .int .i64 y1] 39)).grown w4G.grown (by have := HB2.out.size; simp; omega) (fun g hg => by have := (World.ownsRow.lt HO2.out g hg).1; omega))
          have N4 := hide ((w4G.grown.block w.heap.size (Array.getElem?_eq_some_iff.1 (alloc_block (o := .cells #[.int .i64 y0, .int .i64 y1] 39) N2.out)).1 (fun e => by have := (World.ownsRow.lt HO2.out _ e.symm).1; omega)).trans (alloc_block (o := .cells #[.int .i64 y0, .int .i64 y1] 39) N2.out))
          have HO4 := hide HO4'
          obtain ⟨aw4, cw4, hw4⟩ := KY.OM.slice HO4'
          subst hw4
          clear HO4' w4G
          go_wp2_with fail
          go_roundw
          case rel => exact ⟨j + 1, true, (O ++ [(y0, y1)]), _, _, by have := HJ.out; omega, by go_num, rfl, rfl, hide (by rw [HT.out]; exact HWi.out.put), HO4, N4, HB4⟩
          case measure => have := HJ.out; first | (rw [wk]; simp [intOf]; omega) | (simp [intOf]; omega)

      | false =>
        cases hE : (y0 == k0 && y1 == k1) with
        | true =>
          rw [hE] at ev
          have HEQ : Hid ((y0, y1) = (k0, k1)) := hide (by simp only [Bool.and_eq_true, beq_iff_eq] at hE; rw [hE.1, hE.2])
          clear hE
          go_wp2_with fail
          go_quiet (fail)
          have HB1 := hide (below_dN HB.out nq)
          obtain ⟨W1, hW1⟩ : ∃ x, wr.drewN nq = x := ⟨_, rfl⟩
          have N1 : Hid (W1.heap[w.heap.size]? = some (.cells #[.int .i64 k0, .int .i64 k1] 39 (0, 0))) := hide (by rw [← hW1]; exact N.out)
          have HO1 : Hid (KY.OM W1 (w.heap.size + 1) (.slice oa O.length oc) O) := hide (by rw [← hW1]; exact HO.out.later (below_dN (Below.refl _ _) nq))
          rw [hW1] at HB1 ⊢
          clear hW1 N HB HO z0 z1 z1' x0 x1
          have z0 : W1.cell? ⟨g, off + j * 2, none⟩ = some (.int .i64 y0) := (HB1.out.cell (p := ⟨g, _, none⟩) HG.out).trans HC.out.1
          have z1 : W1.cell? ⟨g, off + j * 2 + 1, none⟩ = some (.int .i64 y1) := (HB1.out.cell (p := ⟨g, _, none⟩) HG.out).trans HC.out.2
          have z1' : W1.cell? ⟨g, off + (j * 2 + 1), none⟩ = some (.int .i64 y1) := z1
          obtain ⟨x0, x1⟩ := pair_cells N1.out rfl
          go_wp2_with fail
          go_quiet (fail)
          have HB2 := hide (below_dN HB1.out nq)
          obtain ⟨W2, hW2⟩ : ∃ x, W1.drewN nq = x := ⟨_, rfl⟩
          have N2 : Hid (W2.heap[w.heap.size]? = some (.cells #[.int .i64 k0, .int .i64 k1] 39 (0, 0))) := hide (by rw [← hW2]; exact N1.out)
          have HO2 : Hid (KY.OM W2 (w.heap.size + 1) (.slice oa O.length oc) O) := hide (by rw [← hW2]; exact HO1.out.later (below_dN (Below.refl _ _) nq))
          rw [hW2] at HB2 ⊢
          clear hW2 N1 HB1 HO1 z0 z1 z1' x0 x1
          have z0 : W2.cell? ⟨g, off + j * 2, none⟩ = some (.int .i64 y0) := (HB2.out.cell (p := ⟨g, _, none⟩) HG.out).trans HC.out.1
          have z1 : W2.cell? ⟨g, off + j * 2 + 1, none⟩ = some (.int .i64 y1) := (HB2.out.cell (p := ⟨g, _, none⟩) HG.out).trans HC.out.2
          have z1' : W2.cell? ⟨g, off + (j * 2 + 1), none⟩ = some (.int .i64 y1) := z1
          obtain ⟨x0, x1⟩ := pair_cells N2.out rfl
          go_wp2_with (first
            | (at_builtin; refine KY.wp_append_kept rfl _ _ rfl (w.heap.size + 1) _ _ (y0, y1) _ rfl rfl (World.ownsRow.alloc HO2.out _) ?c3a ?c3b ?c3c ?c3d ?_)
            | go_in)
          case c3c => have := HS1.out W2 N2.out; simp; omega
          case c3d => have := HLN.out; have := HLL.out; simp; omega
          intro v4 w4 HO4' w4G _
          have HB4 := hide ((HB2.out.alloc HB2.out.size (.cells #[.int .i64 y0, .int .i64 y1] 39)).grown w4G.grown (by have := HB2.out.size; simp; omega) (fun g hg => by have := (World.ownsRow.lt HO2.out g hg).1; omega))
          have N4 := hide ((w4G.grown.block w.heap.size (Array.getElem?_eq_some_iff.1 (alloc_block (o := .cells #[.int .i64 y0, .int .i64 y1] 39) N2.out)).1 (fun e => by have := (World.ownsRow.lt HO2.out _ e.symm).1; omega)).trans (alloc_block (o := .cells #[.int .i64 y0, .int .i64 y1] 39) N2.out))
          have HO4 := hide HO4'
          obtain ⟨aw4, cw4, hw4⟩ := KY.OM.slice HO4'
          subst hw4
          clear HO4' w4G
          go_wp2_with fail
          go_roundw
          case rel => exact ⟨j + 1, true, (O ++ [(y0, y1)]), _, _, by have := HJ.out; omega, by go_num, rfl, rfl, hide (by rw [HT.out]; exact (by rw [HEQ.out]; exact HWi.out.eq)), HO4, N4, HB4⟩
          case measure => have := HJ.out; first | (rw [wk]; simp [intOf]; omega) | (simp [intOf]; omega)

        | false =>
          rw [hE] at ev
          have HNE : Hid (¬ (k0, k1) = (y0, y1)) := hide (fun e => by
            rw [Prod.mk.injEq] at e
            rw [e.1, e.2] at hE
            simp at hE)
          clear hE
          cases hLT : decide (ltK (k0, k1) (y0, y1)) with
          | true =>
            have HLT := hide hLT
            clear hLT
            go_wp2_with fail
            go_quiet (fail)
            have HB1 := hide (below_dN HB.out nq)
            obtain ⟨W1, hW1⟩ : ∃ x, wr.drewN nq = x := ⟨_, rfl⟩
            have N1 : Hid (W1.heap[w.heap.size]? = some (.cells #[.int .i64 k0, .int .i64 k1] 39 (0, 0))) := hide (by rw [← hW1]; exact N.out)
            have HO1 : Hid (KY.OM W1 (w.heap.size + 1) (.slice oa O.length oc) O) := hide (by rw [← hW1]; exact HO.out.later (below_dN (Below.refl _ _) nq))
            rw [hW1] at HB1 ⊢
            clear hW1 N HB HO z0 z1 z1' x0 x1
            have z0 : W1.cell? ⟨g, off + j * 2, none⟩ = some (.int .i64 y0) := (HB1.out.cell (p := ⟨g, _, none⟩) HG.out).trans HC.out.1
            have z1 : W1.cell? ⟨g, off + j * 2 + 1, none⟩ = some (.int .i64 y1) := (HB1.out.cell (p := ⟨g, _, none⟩) HG.out).trans HC.out.2
            have z1' : W1.cell? ⟨g, off + (j * 2 + 1), none⟩ = some (.int .i64 y1) := z1
            obtain ⟨x0, x1⟩ := pair_cells N1.out rfl
            go_wp2_with fail
            have HLE := hide (fun W : World => less_any k0 k1 y0 y1 W)
            have N1d : Hid (W1.drew.heap[w.heap.size]? = some (.cells #[.int .i64 k0, .int .i64 k1] 39 (0, 0))) := hide N1.out
            have HO1d : Hid (KY.OM W1.drew (w.heap.size + 1) (.slice oa O.length oc) O) := hide (HO1.out.later (Below.refl _ _).drew)
            rw [HLT.out] at HLE
            go_region_held3 (fun W => W.cell? ⟨g, off + j * 2, none⟩ = some (.int .i64 y0) ∧ W.cell? ⟨g, off + j * 2 + 1, none⟩ = some (.int .i64 y1) ∧ W.cell? ⟨w.heap.size, 0, none⟩ = some (.int .i64 k0) ∧ W.cell? ⟨w.heap.size, 1, none⟩ = some (.int .i64 k1)) (go_keep) ((go_at_call 34; refine (HLE.out _).mono ?_; rintro e w2 ⟨rfl, hb⟩; have HB2 := hide (HB1.out.drew.trans (hb.mono HB1.out.size)); have N2 := hide (blk_later N1d.out hb); have HO2 := hide (HO1d.out.later hb); have s0 := (HB2.out.cell (p := ⟨g, off + j * 2, none⟩) HG.out).trans HC.out.1; have s1 := (HB2.out.cell (p := ⟨g, off + j * 2 + 1, none⟩) HG.out).trans HC.out.2; obtain ⟨s2, s3⟩ := pair_cells N2.out rfl; clear hb))
            clear N1 HB1 HO1 N1d HO1d HLE s0 s1 s2 s3
            clear z0 z1 z1' x0 x1
            have z0 : w2.cell? ⟨g, off + j * 2, none⟩ = some (.int .i64 y0) := (HB2.out.cell (p := ⟨g, _, none⟩) HG.out).trans HC.out.1
            have z1 : w2.cell? ⟨g, off + j * 2 + 1, none⟩ = some (.int .i64 y1) := (HB2.out.cell (p := ⟨g, _, none⟩) HG.out).trans HC.out.2
            have z1' : w2.cell? ⟨g, off + (j * 2 + 1), none⟩ = some (.int .i64 y1) := z1
            obtain ⟨x0, x1⟩ := pair_cells N2.out rfl
            go_wp2_with (first
              | (at_builtin; refine KY.wp_append_kept rfl _ _ rfl (w.heap.size + 1) _ _ (k0, k1) _ rfl rfl (World.ownsRow.alloc HO2.out _) ?c4a ?c4b ?c4c ?c4d ?_)
              | go_in)
            case c4c => have := HS1.out w2 N2.out; simp; omega
            case c4d => have := HLN.out; have := HLL.out; simp; omega
            intro v3 w3 HO3' w3G _
            have HB3 := hide ((HB2.out.alloc HB2.out.size (.cells #[.int .i64 k0, .int .i64 k1] 39)).grown w3G.grown (by have := HB2.out.size; simp; omega) (fun g hg => by have := (World.ownsRow.lt HO2.out g hg).1; omega))
            have N3 := hide ((w3G.grown.block w.heap.size (Array.getElem?_eq_some_iff.1 (alloc_block (o := .cells #[.int .i64 k0, .int .i64 k1] 39) N2.out)).1 (fun e => by have := (World.ownsRow.lt HO2.out _ e.symm).1; omega)).trans (alloc_block (o := .cells #[.int .i64 k0, .int .i64 k1] 39) N2.out))
            have HO3 := hide HO3'
            obtain ⟨aw3, cw3, hw3⟩ := KY.OM.slice HO3'
            subst hw3
            clear HO3' w3G
            obtain ⟨O2, hO2⟩ : ∃ x, O ++ [(k0, k1)] = x := ⟨_, rfl⟩
            have HL2 : Hid (O2.length ≤ j + 2) := hide (by rw [← hO2, List.length_append]; have := HLL.out; simp; omega)
            rw [hO2] at HO3 ⊢
            have HQ2 := hide hO2
            clear hO2 HLL
            have HLL := HL2
            clear z0 z1 z1' x0 x1
            have z0 : w3.cell? ⟨g, off + j * 2, none⟩ = some (.int .i64 y0) := (HB3.out.cell (p := ⟨g, _, none⟩) HG.out).trans HC.out.1
            have z1 : w3.cell? ⟨g, off + j * 2 + 1, none⟩ = some (.int .i64 y1) := (HB3.out.cell (p := ⟨g, _, none⟩) HG.out).trans HC.out.2
            have z1' : w3.cell? ⟨g, off + (j * 2 + 1), none⟩ = some (.int .i64 y1) := z1
            obtain ⟨x0, x1⟩ := pair_cells N3.out rfl
            go_wp2_with (first
              | (at_builtin; refine KY.wp_append_kept rfl _ _ rfl (w.heap.size + 1) _ _ (y0, y1) _ rfl rfl (World.ownsRow.alloc HO3.out _) ?c5a ?c5b ?c5c ?c5d ?_)
              | go_in)
            case c5c => have := HS1.out w3 N3.out; simp; omega
            case c5d => have := HLN.out; have := HLL.out; simp; omega
            intro v4 w4 HO4' w4G _
            have HB4 := hide ((HB3.out.alloc HB3.out.size (.cells #[.int .i64 y0, .int .i64 y1] 39)).grown w4G.grown (by have := HB3.out.size; simp; omega) (fun g hg => by have := (World.ownsRow.lt HO3.out g hg).1; omega))
            have N4 := hide ((w4G.grown.block w.heap.size (Array.getElem?_eq_some_iff.1 (alloc_block (o := .cells #[.int .i64 y0, .int .i64 y1] 39) N3.out)).1 (fun e => by have := (World.ownsRow.lt HO3.out _ e.symm).1; omega)).trans (alloc_block (o := .cells #[.int .i64 y0, .int .i64 y1] 39) N3.out))
            have HO4 := hide HO4'
            obtain ⟨aw4, cw4, hw4⟩ := KY.OM.slice HO4'
            subst hw4
            clear HO4' w4G
            go_wp2_with fail
            go_roundw
            case rel => exact ⟨j + 1, true, (O2 ++ [(y0, y1)]), _, _, by have := HJ.out; omega, by go_num, rfl, rfl, hide (by rw [HT.out]; exact (by rw [← HQ2.out]; exact HWi.out.lt (of_decide_eq_true HLT.out))), HO4, N4, HB4⟩
            case measure => have := HJ.out; first | (rw [wk]; simp [intOf]; omega) | (simp [intOf]; omega)

          | false =>
            have HLT := hide hLT
            clear hLT
            go_wp2_with fail
            go_quiet (fail)
            have HB1 := hide (below_dN HB.out nq)
            obtain ⟨W1, hW1⟩ : ∃ x, wr.drewN nq = x := ⟨_, rfl⟩
            have N1 : Hid (W1.heap[w.heap.size]? = some (.cells #[.int .i64 k0, .int .i64 k1] 39 (0, 0))) := hide (by rw [← hW1]; exact N.out)
            have HO1 : Hid (KY.OM W1 (w.heap.size + 1) (.slice oa O.length oc) O) := hide (by rw [← hW1]; exact HO.out.later (below_dN (Below.refl _ _) nq))
            rw [hW1] at HB1 ⊢
            clear hW1 N HB HO z0 z1 z1' x0 x1
            have z0 : W1.cell? ⟨g, off + j * 2, none⟩ = some (.int .i64 y0) := (HB1.out.cell (p := ⟨g, _, none⟩) HG.out).trans HC.out.1
            have z1 : W1.cell? ⟨g, off + j * 2 + 1, none⟩ = some (.int .i64 y1) := (HB1.out.cell (p := ⟨g, _, none⟩) HG.out).trans HC.out.2
            have z1' : W1.cell? ⟨g, off + (j * 2 + 1), none⟩ = some (.int .i64 y1) := z1
            obtain ⟨x0, x1⟩ := pair_cells N1.out rfl
            go_wp2_with fail
            have HLE := hide (fun W : World => less_any k0 k1 y0 y1 W)
            have N1d : Hid (W1.drew.heap[w.heap.size]? = some (.cells #[.int .i64 k0, .int .i64 k1] 39 (0, 0))) := hide N1.out
            have HO1d : Hid (KY.OM W1.drew (w.heap.size + 1) (.slice oa O.length oc) O) := hide (HO1.out.later (Below.refl _ _).drew)
            rw [HLT.out] at HLE
            go_region_held3 (fun W => W.cell? ⟨g, off + j * 2, none⟩ = some (.int .i64 y0) ∧ W.cell? ⟨g, off + j * 2 + 1, none⟩ = some (.int .i64 y1) ∧ W.cell? ⟨w.heap.size, 0, none⟩ = some (.int .i64 k0) ∧ W.cell? ⟨w.heap.size, 1, none⟩ = some (.int .i64 k1)) (go_keep) ((go_at_call 34; refine (HLE.out _).mono ?_; rintro e w2 ⟨rfl, hb⟩; have HB2 := hide (HB1.out.drew.trans (hb.mono HB1.out.size)); have N2 := hide (blk_later N1d.out hb); have HO2 := hide (HO1d.out.later hb); have s0 := (HB2.out.cell (p := ⟨g, off + j * 2, none⟩) HG.out).trans HC.out.1; have s1 := (HB2.out.cell (p := ⟨g, off + j * 2 + 1, none⟩) HG.out).trans HC.out.2; obtain ⟨s2, s3⟩ := pair_cells N2.out rfl; clear hb))
            clear N1 HB1 HO1 N1d HO1d HLE s0 s1 s2 s3
            clear z0 z1 z1' x0 x1
            have z0 : w2.cell? ⟨g, off + j * 2, none⟩ = some (.int .i64 y0) := (HB2.out.cell (p := ⟨g, _, none⟩) HG.out).trans HC.out.1
            have z1 : w2.cell? ⟨g, off + j * 2 + 1, none⟩ = some (.int .i64 y1) := (HB2.out.cell (p := ⟨g, _, none⟩) HG.out).trans HC.out.2
            have z1' : w2.cell? ⟨g, off + (j * 2 + 1), none⟩ = some (.int .i64 y1) := z1
            obtain ⟨x0, x1⟩ := pair_cells N2.out rfl
            go_wp2_with (first
              | (at_builtin; refine KY.wp_append_kept rfl _ _ rfl (w.heap.size + 1) _ _ (y0, y1) _ rfl rfl (World.ownsRow.alloc HO2.out _) ?c6a ?c6b ?c6c ?c6d ?_)
              | go_in)
            case c6c => have := HS1.out w2 N2.out; simp; omega
            case c6d => have := HLN.out; have := HLL.out; simp; omega
            intro v4 w4 HO4' w4G _
            have HB4 := hide ((HB2.out.alloc HB2.out.size (.cells #[.int .i64 y0, .int .i64 y1] 39)).grown w4G.grown (by have := HB2.out.size; simp; omega) (fun g hg => by have := (World.ownsRow.lt HO2.out g hg).1; omega))
            have N4 := hide ((w4G.grown.block w.heap.size (Array.getElem?_eq_some_iff.1 (alloc_block (o := .cells #[.int .i64 y0, .int .i64 y1] 39) N2.out)).1 (fun e => by have := (World.ownsRow.lt HO2.out _ e.symm).1; omega)).trans (alloc_block (o := .cells #[.int .i64 y0, .int .i64 y1] 39) N2.out))
            have HO4 := hide HO4'
            obtain ⟨aw4, cw4, hw4⟩ := KY.OM.slice HO4'
            subst hw4
            clear HO4' w4G
            go_wp2_with fail
            go_roundw
            case rel => exact ⟨j + 1, false, (O ++ [(y0, y1)]), _, _, by have := HJ.out; omega, by go_num, rfl, rfl, hide (by rw [HT.out]; exact HWi.out.gt HNE.out (of_decide_eq_false HLT.out)), HO4, N4, HB4⟩
            case measure => have := HJ.out; first | (rw [wk]; simp [intOf]; omega) | (simp [intOf]; omega)

    · have hj' : j = L.length := by omega
      subst hj'
      rw [List.take_length] at HWi
      obtain ⟨x0, x1⟩ := pair_cells N.out rfl
      cases b with
      | true =>
        go_wp2_with fail
        go_ret
        exact ⟨_, rfl, by rw [← HWi.out.end1]; exact KY.OM.base HO.out (fun g hg => by have := (World.ownsRow.lt HO.out g hg).1; omega), HB.out⟩
      | false =>
        have HLL : Hid (O.length ≤ L.length + 1) := hide HWi.out.len
        go_wp2_with (first
          | (at_builtin; refine KY.wp_append_kept rfl _ _ rfl (w.heap.size + 1) _ _ (k0, k1) _ rfl rfl (World.ownsRow.alloc HO.out _) ?c7a ?c7b ?c7c ?c7d ?_)
          | go_in)
        case c7c => have := HS1.out wr N.out; simp; omega
        case c7d => have := HLN.out; have := HLL.out; simp; omega
        intro v3 w3 HO3' w3G _
        have HB3 := hide ((HB.out.alloc HB.out.size (.cells #[.int .i64 k0, .int .i64 k1] 39)).grown w3G.grown (by have := HB.out.size; simp; omega) (fun g hg => by have := (World.ownsRow.lt HO.out g hg).1; omega))
        have N3 := hide ((w3G.grown.block w.heap.size (Array.getElem?_eq_some_iff.1 (alloc_block (o := .cells #[.int .i64 k0, .int .i64 k1] 39) N.out)).1 (fun e => by have := (World.ownsRow.lt HO.out _ e.symm).1; omega)).trans (alloc_block (o := .cells #[.int .i64 k0, .int .i64 k1] 39) N.out))
        have HO3 := hide HO3'
        obtain ⟨aw3, cw3, hw3⟩ := KY.OM.slice HO3'
        subst hw3
        clear HO3' w3G

        go_wp2_with fail
        go_ret
        exact ⟨_, rfl, by rw [← HWi.out.end0]; exact KY.OM.base HO3.out (fun g hg => by have := (World.ownsRow.lt HO3.out g hg).1; omega), HB3.out⟩
end Go.Proofs.YtdjhbecbbmdimaaGreatDoor
namespace Go.Proofs.YtdjhbecbbmdimaaGreatDoor
open Go.RowKit

set_option maxRecDepth 100000 in
set_option maxHeartbeats 4000000 in
theorem rlegKeys_any (id : Int) (v : Value) (L : List LG.El) (w : World) (hv : LG.RM w v L) (hl : L.length ≤ 3518437208800) :
    Calls Tryz.prog 9 #[.int .i64 id, v] w fun e w' => ∃ v', e = .returned v' ∧ KY.OM w' w.heap.size v' (lkK id L) ∧ Below w.heap.size w w' := by
  obtain ⟨a, cap, rfl, _, hr⟩ := hv
  have HR := hide hr
  have HLN := hide hl
  have B0 := hide ((Below.refl w.heap.size w).alloc (Nat.le_refl _) (.cells #[.int .i64 (-1), .int .i64 id] 39))
  have O0 := hide (om_key w w (-1) id (Nat.le_refl _))
  clear hr hl
  go_enter Tryz.func9, Tryz.ntmps9
  go_wp2_with fail
  generalize w.alloc (.cells #[.int .i64 (-1), .int .i64 id] 39) = W0 at B0 O0 ⊢
  go_loopw [5, 6] (fun o i wr => ∃ (j : Nat) (M : List Ky) (oa5 : Option Addr) (oc5 : Nat), j ≤ L.length ∧ i = .int .i64 (j : Int) ∧ o = .slice oa5 M.length oc5 ∧ Hid (M = ksF [(-1, id)] (lgK (L.take j))) ∧ Hid (KY.OM wr w.heap.size (.slice oa5 M.length oc5) M) ∧ Hid (Below w.heap.size w wr)) (fun _ i _ => L.length - (intOf i).toNat)
  case atStart => exact ⟨0, [(-1, id)], _, _, Nat.zero_le _, rfl, rfl, hide rfl, O0, B0⟩
  case round =>
    clear O0 B0
    obtain ⟨j, M, oa5, oc5, hj, rfl, rfl, HM, HO, HB⟩ := hrel
    by_cases hlt : j < L.length
    · obtain ⟨⟨q0, q1, q2, q3, q4⟩, hx⟩ : ∃ p, L[j]? = some p := ⟨_, List.getElem?_eq_getElem hlt⟩
      obtain ⟨g, off, rfl, hgl, hc⟩ := HR.out.resolve_left (fun h => by rw [h] at hlt; simp at hlt)
      have HC0 := hide (hc j _ hx).1
      have HC1 := hide (hc j _ hx).2.1
      have HC2 := hide (hc j _ hx).2.2.1
      simp only at HC0 HC1 HC2
      have HG := hide hgl
      have hd : decide ((j : Int) < (L.length : Int)) = true := by rw [decide_eq_true_eq]; omega
      have k0' : (0 : Int) ≤ (j : Int) := by omega
      have k1' : (j : Int) < (L.length : Int) := by omega
      have wk : wrap64 ((j : Int) + 1) = (j : Int) + 1 := by have := HLN.out; unfold wrap64; omega
      have HT := hide (lgK_take hx)
      have HM5 : Hid (M.length ≤ 2 * L.length + 1) := hide (by
        have h1 := ksF_len (lgK (L.take j)) [(-1, id)]
        rw [lgK_len, List.length_take, ← HM.out] at h1
        have h2 : ([(-1, id)] : List Ky).length = 1 := rfl
        omega)
      have HJ := hide hlt
      clear hc hx hlt hgl
      have z0 : wr.cell? ⟨g, off + j * 5, none⟩ = some (.int .i64 q0) := (HB.out.cell (p := ⟨g, _, none⟩) HG.out).trans HC0.out
      have z1 : wr.cell? ⟨g, off + j * 5 + 1, none⟩ = some (.int .i64 q1) := (HB.out.cell (p := ⟨g, _, none⟩) HG.out).trans HC1.out
      have z2 : wr.cell? ⟨g, off + j * 5 + 2, none⟩ = some (.int .i64 q2) := (HB.out.cell (p := ⟨g, _, none⟩) HG.out).trans HC2.out
      have y1 : wr.cell? ⟨g, off + (j * 5 + 1), none⟩ = some (.int .i64 q1) := z1
      have y2 : wr.cell? ⟨g, off + (j * 5 + 2), none⟩ = some (.int .i64 q2) := z2

      have HBd : Hid (Below w.heap.size w wr.drew) := hide HB.out.drew
      have HOd : Hid (KY.OM wr.drew w.heap.size (.slice oa5 M.length oc5) M) := hide (HO.out.later (Below.refl _ _).drew)
      have HW5 := hide (with_any _ M q0 q2 wr.drew HOd.out.rm (by have := HM5.out; have := HLN.out; omega))
      go_wp2_with fail
      go_region_held3 (fun W => W.cell? ⟨g, off + j * 5, none⟩ = some (.int .i64 q0) ∧ W.cell? ⟨g, off + j * 5 + 2, none⟩ = some (.int .i64 q2)) (go_keep) ((go_at_call 23; refine (HW5.out).mono ?_; rintro e w5 ⟨v5, rfl, hO5, hb5⟩; have HB5 := hide (HBd.out.trans (hb5.mono HB.out.size)); have HO50 := hide (KY.OM.base hO5 (fun g hg => Nat.le_trans HB.out.size (World.ownsRow.lt hO5 g hg).1)); have s0 := (HB5.out.cell (p := ⟨g, off + j * 5, none⟩) HG.out).trans HC0.out; have s1 := (HB5.out.cell (p := ⟨g, off + j * 5 + 2, none⟩) HG.out).trans HC2.out; clear hO5 hb5))

      clear HO HOd HBd HW5 s0 s1 z0 z1 z2 y1 y2
      obtain ⟨oa6, oc6, hv5⟩ := KY.OM.slice HO50.out
      subst hv5
      obtain ⟨M5, hM5⟩ : ∃ x, insK (q0, q2) M = x := ⟨_, rfl⟩
      have HM6 : Hid (M5.length ≤ 2 * L.length + 2) := hide (by have := insK_len (q0, q2) M; rw [hM5] at this; have := HM5.out; omega)
      have HQ5 := hide hM5
      rw [hM5] at HO50 ⊢
      clear hM5
      have z0 : w5.cell? ⟨g, off + j * 5, none⟩ = some (.int .i64 q0) := (HB5.out.cell (p := ⟨g, _, none⟩) HG.out).trans HC0.out
      have z1 : w5.cell? ⟨g, off + j * 5 + 1, none⟩ = some (.int .i64 q1) := (HB5.out.cell (p := ⟨g, _, none⟩) HG.out).trans HC1.out
      have z2 : w5.cell? ⟨g, off + j * 5 + 2, none⟩ = some (.int .i64 q2) := (HB5.out.cell (p := ⟨g, _, none⟩) HG.out).trans HC2.out
      have y1 : w5.cell? ⟨g, off + (j * 5 + 1), none⟩ = some (.int .i64 q1) := z1
      have y2 : w5.cell? ⟨g, off + (j * 5 + 2), none⟩ = some (.int .i64 q2) := z2

      have HOa := HO50
      clear HO50
      have HB5d : Hid (Below w.heap.size w w5.drew) := hide HB5.out.drew
      have HOad : Hid (KY.OM w5.drew w.heap.size (.slice oa6 M5.length oc6) M5) := hide (HOa.out.later (Below.refl _ _).drew)
      have HW6 := hide (with_any _ M5 q1 q2 w5.drew HOad.out.rm (by have := HM6.out; have := HLN.out; omega))
      go_wp2_with fail
      go_region_held3 (fun W => W.cell? ⟨g, off + j * 5 + 1, none⟩ = some (.int .i64 q1) ∧ W.cell? ⟨g, off + j * 5 + 2, none⟩ = some (.int .i64 q2)) (go_keep) ((go_at_call 23; refine (HW6.out).mono ?_; rintro e w6 ⟨v6, rfl, hO6, hb6⟩; have HB6 := hide (HB5d.out.trans (hb6.mono HB5.out.size)); have HO60 := hide (KY.OM.base hO6 (fun g hg => Nat.le_trans HB5.out.size (World.ownsRow.lt hO6 g hg).1)); have s0 := (HB6.out.cell (p := ⟨g, off + j * 5 + 1, none⟩) HG.out).trans HC1.out; have s1 := (HB6.out.cell (p := ⟨g, off + j * 5 + 2, none⟩) HG.out).trans HC2.out; clear hO6 hb6))

      clear HOa HOad HB5d HW6 s0 s1 z0 z1 z2 y1 y2
      obtain ⟨oa7, oc7, hv6⟩ := KY.OM.slice HO60.out
      subst hv6
      go_wp2_with fail
      go_roundw
      case rel => exact ⟨j + 1, _, _, _, by have := HJ.out; omega, by go_num, rfl, hide (by rw [HT.out, ksF_app, ← HM.out, ← HQ5.out]; rfl), HO60, HB6⟩
      case measure => have := HJ.out; first | (rw [wk]; simp [intOf]; omega) | (simp [intOf]; omega)
    · have hj' : j = L.length := by omega
      subst hj'
      have HF := HM.out
      rw [List.take_length] at HF
      go_wp2_with fail
      go_ret
      exact ⟨_, rfl, by rw [← show M = lkK id L from HF]; exact HO.out, HB.out⟩
set_option maxRecDepth 100000 in
set_option maxHeartbeats 4000000 in
theorem rkeys_any (cd ac as_ qt nm id : Int) (lv pv : Value) (L : List LG.El) (P : List Ky) (w : World) (hL : LG.RM w lv L) (hP : KY.RM w pv P) (hl : L.length ≤ 3518437208800) (hp : P.length ≤ 8796093022000) :
    Calls Tryz.prog 8 #[.agg #[.int .i64 cd, .int .i64 ac, .int .i64 as_, .int .i64 qt, .int .i64 nm, .int .i64 id, lv, pv]] w fun r w' => ∃ v', r = .returned v' ∧ KY.OM w' w.heap.size v' (kyO cd ac as_ id L P) ∧ Below w.heap.size w w' := by
  obtain ⟨la, lc, hlv⟩ := LG.rm_lt hL
  subst hlv
  obtain ⟨pa, pc, hpv, _, hr⟩ := hP
  subst hpv
  have HR := hide hr
  have HL := hide hL
  have HLN := hide (And.intro hl hp)
  have B0 := hide ((Below.refl w.heap.size w).alloc (Nat.le_refl _) (.cells #[.int .i64 cd, .int .i64 ac, .int .i64 as_, .int .i64 qt, .int .i64 nm, .int .i64 id, .slice la L.length lc, .slice pa P.length pc] 25))
  have N0 := hide (alloc_new w (.cells #[.int .i64 cd, .int .i64 ac, .int .i64 as_, .int .i64 qt, .int .i64 nm, .int .i64 id, .slice la L.length lc, .slice pa P.length pc] 25))
  clear hr hl hp hL
  obtain ⟨W0, hW0⟩ : ∃ x, w.alloc (.cells #[.int .i64 cd, .int .i64 ac, .int .i64 as_, .int .i64 qt, .int .i64 nm, .int .i64 id, .slice la L.length lc, .slice pa P.length pc] 25) = x := ⟨_, rfl⟩
  rw [hW0] at B0 N0
  obtain ⟨y0, y1, y2, y3, y4, y5, y6, y7⟩ := eight_cells N0.out rfl
  have HLK := hide (rlegKeys_any id _ L W0 (HL.out.later B0.out) HLN.out.1)
  have HSZ : Hid (w.heap.size < W0.heap.size) := hide (Array.getElem?_eq_some_iff.1 N0.out).1
  subst hW0
  by_cases g1 : cd = 1 ∨ cd = 2 ∨ cd = 3 ∨ cd = 4
  · have HO : Hid (kyO cd ac as_ id L P = [(ac, as_)]) := hide (if_pos g1)
    rcases g1 with g | g | g | g
    · subst g
      have HB := hide (B0.out.alloc B0.out.size (.cells #[.int .i64 ac, .int .i64 as_] 39))
      have HK := hide (om_key2 w (.cells #[.int .i64 1, .int .i64 ac, .int .i64 as_, .int .i64 qt, .int .i64 nm, .int .i64 id, .slice la L.length lc, .slice pa P.length pc] 25) ac as_)
      go_enter Tryz.func8, Tryz.ntmps8
      go_wp2_with fail
      go_ret
      exact ⟨_, rfl, by rw [HO.out]; exact HK.out, HB.out⟩
    · subst g
      have HB := hide (B0.out.alloc B0.out.size (.cells #[.int .i64 ac, .int .i64 as_] 39))
      have HK := hide (om_key2 w (.cells #[.int .i64 2, .int .i64 ac, .int .i64 as_, .int .i64 qt, .int .i64 nm, .int .i64 id, .slice la L.length lc, .slice pa P.length pc] 25) ac as_)
      go_enter Tryz.func8, Tryz.ntmps8
      go_wp2_with fail
      go_ret
      exact ⟨_, rfl, by rw [HO.out]; exact HK.out, HB.out⟩
    · subst g
      have HB := hide (B0.out.alloc B0.out.size (.cells #[.int .i64 ac, .int .i64 as_] 39))
      have HK := hide (om_key2 w (.cells #[.int .i64 3, .int .i64 ac, .int .i64 as_, .int .i64 qt, .int .i64 nm, .int .i64 id, .slice la L.length lc, .slice pa P.length pc] 25) ac as_)
      go_enter Tryz.func8, Tryz.ntmps8
      go_wp2_with fail
      go_ret
      exact ⟨_, rfl, by rw [HO.out]; exact HK.out, HB.out⟩
    · subst g
      have HB := hide (B0.out.alloc B0.out.size (.cells #[.int .i64 ac, .int .i64 as_] 39))
      have HK := hide (om_key2 w (.cells #[.int .i64 4, .int .i64 ac, .int .i64 as_, .int .i64 qt, .int .i64 nm, .int .i64 id, .slice la L.length lc, .slice pa P.length pc] 25) ac as_)
      go_enter Tryz.func8, Tryz.ntmps8
      go_wp2_with fail
      go_ret
      exact ⟨_, rfl, by rw [HO.out]; exact HK.out, HB.out⟩
  · have q1 : ¬ cd = 1 := fun h => g1 (.inl h)
    have q2 : ¬ cd = 2 := fun h => g1 (.inr (.inl h))
    have q3 : ¬ cd = 3 := fun h => g1 (.inr (.inr (.inl h)))
    have q4 : ¬ cd = 4 := fun h => g1 (.inr (.inr (.inr h)))
    by_cases g5 : cd = 5
    · have HO : Hid (kyO cd ac as_ id L P = lkK id L) := hide ((if_neg g1).trans (if_pos g5))
      subst g5
      clear g1 q1 q2 q3 q4
      go_enter Tryz.func8, Tryz.ntmps8
      go_wp2_with fail
      refine HLK.out.mono ?_
      rintro r w1 ⟨v1, rfl, hO1, hb1⟩
      have HB := hide (B0.out.trans (hb1.mono B0.out.size))
      have HK := hide (KY.OM.base hO1 (fun g hg => Nat.le_trans B0.out.size (World.ownsRow.lt hO1 g hg).1))
      obtain ⟨va, vc, hv⟩ := KY.OM.slice hO1
      subst hv
      clear hb1 hO1 HLK y0 y1 y2 y3 y4 y5 y6 y7
      go_wp2_with fail
      go_ret
      exact ⟨_, rfl, by rw [HO.out]; exact HK.out, HB.out⟩
    · by_cases g6 : cd = 6 ∨ cd = 7
      · have HO : Hid (kyO cd ac as_ id L P = [(-1, id)]) := hide ((if_neg g1).trans ((if_neg g5).trans (if_pos g6)))
        clear g1
        rcases g6 with g | g
        · subst g
          have HB := hide (B0.out.alloc B0.out.size (.cells #[.int .i64 (-1), .int .i64 id] 39))
          have HK := hide (om_key2 w (.cells #[.int .i64 6, .int .i64 ac, .int .i64 as_, .int .i64 qt, .int .i64 nm, .int .i64 id, .slice la L.length lc, .slice pa P.length pc] 25) (-1) id)
          go_enter Tryz.func8, Tryz.ntmps8
          go_wp2_with fail
          go_ret
          exact ⟨_, rfl, by rw [HO.out]; exact HK.out, HB.out⟩
        · subst g
          have HB := hide (B0.out.alloc B0.out.size (.cells #[.int .i64 (-1), .int .i64 id] 39))
          have HK := hide (om_key2 w (.cells #[.int .i64 7, .int .i64 ac, .int .i64 as_, .int .i64 qt, .int .i64 nm, .int .i64 id, .slice la L.length lc, .slice pa P.length pc] 25) (-1) id)
          go_enter Tryz.func8, Tryz.ntmps8
          go_wp2_with fail
          go_ret
          exact ⟨_, rfl, by rw [HO.out]; exact HK.out, HB.out⟩
      · have q6 : ¬ cd = 6 := fun h => g6 (.inl h)
        have q7 : ¬ cd = 7 := fun h => g6 (.inr h)
        by_cases g8 : cd = 8
        · have HO : Hid (kyO cd ac as_ id L P = ks P) := hide ((if_neg g1).trans ((if_neg g5).trans ((if_neg g6).trans (if_pos g8))))
          subst g8
          clear g1 q1 q2 q3 q4 g5 g6 q6 q7 HLK
          go_enter Tryz.func8, Tryz.ntmps8
          go_wp2_with fail
          generalize w.alloc (.cells #[.int .i64 8, .int .i64 ac, .int .i64 as_, .int .i64 qt, .int .i64 nm, .int .i64 id, .slice la L.length lc, .slice pa P.length pc] 25) = W0 at *
          clear y0 y1 y2 y3 y4 y5 y6 y7
          go_loopw [3, 4] (fun o i wr => ∃ (j : Nat) (M : List Ky) (oa : Option Addr) (oc : Nat), j ≤ P.length ∧ i = .int .i64 (j : Int) ∧ o = .slice oa M.length oc ∧ Hid (M = ks (P.take j)) ∧ Hid (KY.OM wr w.heap.size (.slice oa M.length oc) M) ∧ Hid (wr.heap[w.heap.size]? = some (.cells #[.int .i64 8, .int .i64 ac, .int .i64 as_, .int .i64 qt, .int .i64 nm, .int .i64 id, .slice la L.length lc, .slice pa P.length pc] 25 (0, 0))) ∧ Hid (Below w.heap.size w wr)) (fun _ i _ => P.length - (intOf i).toNat)
          case atStart => exact ⟨0, [], none, 0, Nat.zero_le _, rfl, rfl, hide rfl, hide (KY.OM.nil _ _), N0, B0⟩
          case round =>
            clear N0 B0 HSZ
            obtain ⟨j, M, oa, oc, hj, rfl, rfl, HM, HO1, N, HB⟩ := hrel
            obtain ⟨y0, y1, y2, y3, y4, y5, y6, y7⟩ := eight_cells N.out rfl
            by_cases hlt : j < P.length
            · obtain ⟨⟨q0, q1⟩, hx⟩ : ∃ p, P[j]? = some p := ⟨_, List.getElem?_eq_getElem hlt⟩
              obtain ⟨g, off, rfl, hgl, hc⟩ := HR.out.resolve_left (fun h => by rw [h] at hlt; simp at hlt)
              have z0 : wr.cell? ⟨g, off + j * 2, none⟩ = some (.int .i64 q0) := (HB.out.cell (p := ⟨g, _, none⟩) hgl).trans (hc j _ hx).1
              have z1 : wr.cell? ⟨g, off + j * 2 + 1, none⟩ = some (.int .i64 q1) := (HB.out.cell (p := ⟨g, _, none⟩) hgl).trans (hc j _ hx).2
              have z1' : wr.cell? ⟨g, off + (j * 2 + 1), none⟩ = some (.int .i64 q1) := z1
              have hd : decide ((j : Int) < (P.length : Int)) = true := by rw [decide_eq_true_eq]; omega
              have k0' : (0 : Int) ≤ (j : Int) := by omega
              have k1' : (j : Int) < (P.length : Int) := by omega
              have wk : wrap64 ((j : Int) + 1) = (j : Int) + 1 := by have := HLN.out.2; unfold wrap64; omega
              have HT : Hid (ks (P.take (j + 1)) = insK (q0, q1) M) := hide (by rw [List.take_add_one, hx]; unfold ks; rw [ksF_app, HM.out]; rfl)
              have HWI := hide (with_any _ M q0 q1 wr HO1.out.rm (by
                have h1 := ks_len (P.take j)
                rw [← HM.out, List.length_take] at h1
                have := HLN.out.2
                omega))
              clear hc hx hgl
              go_wp2_with fail
              refine HWI.out.mono ?_
              rintro r w1 ⟨v1, rfl, hO2, hb1⟩
              have HB1 := hide (HB.out.trans (hb1.mono HB.out.size))
              have HK := hide (KY.OM.base hO2 (fun g hg => Nat.le_trans HB.out.size (World.ownsRow.lt hO2 g hg).1))
              have N1 := hide (blk_later N.out hb1)
              obtain ⟨va, vc, hv⟩ := KY.OM.slice hO2
              subst hv
              clear hb1 hO2 HWI y0 y1 y2 y3 y4 y5 y6 y7 z0 z1 z1'
              go_wp2_with fail
              go_roundw
              case rel => exact ⟨j + 1, _, _, _, by omega, by go_num, rfl, hide HT.out.symm, HK, N1, HB1⟩
              case measure => first | (rw [wk]; simp [intOf]; omega) | (simp [intOf]; omega)
            · have hj' : j = P.length := by omega
              subst hj'
              have HF := HM.out
              rw [List.take_length] at HF
              go_wp2_with fail
              go_ret
              exact ⟨_, rfl, by rw [HO.out, ← HF]; exact HO1.out, HB.out⟩
        · have HO : Hid (kyO cd ac as_ id L P = []) := hide ((if_neg g1).trans ((if_neg g5).trans ((if_neg g6).trans (if_neg g8))))
          clear g1 g6
          go_enter Tryz.func8, Tryz.ntmps8
          go_wp2_with fail
          go_ret
          exact ⟨_, rfl, by rw [HO.out]; exact KY.OM.nil _ _, B0.out⟩
end Go.Proofs.YtdjhbecbbmdimaaGreatDoor
