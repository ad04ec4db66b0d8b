/-
  My own text: the loops of the document's Decode; the document's Decode, whole (printed by mkg17.py).
-/
import Derived.Test.YtdiamlajmcikhaaGreatDoorG16
namespace Go.Proofs.YtdiamlajmcikhaaGreatDoor
open Go.RowKit

theorem k_up {i n N : Nat} (m : Nat) (x : Int) (hx : x = (m : Int)) (hm : m < N) (h : i + N ≤ n) : ((i : Int) + x < (n : Int)) ∧ (0 : Int) ≤ (i : Int) + x ∧ ((i : Int) + x).toNat = i + m := by
  subst hx
  exact ⟨by omega, by omega, by omega⟩
theorem wr_up {i : Nat} (m : Int) (h : i ≤ 17592186044001) (h0 : 0 ≤ m) (h1 : m ≤ 10) : IntKind.i64.wrap ((i : Int) + m) = (i : Int) + m ∧ wrap64 ((i : Int) + m) = (i : Int) + m := by
  refine ⟨?_, ?_⟩
  · rw [IntKind.wrap_i64]; omega
  · unfold wrap64; omega
/-- While the document reads legs. -/
structure Qlegs (w W : World) (O : Nat) (id : Int) (lv : Value) (L : List LG.El) : Prop where
  box : W.heap[O]? = some (.cells #[.int .i64 5, .int .i64 0, .int .i64 0, .int .i64 0, .int .i64 0, .int .i64 id, lv, .slice none 0 0] 26 (0, 0))
  own : LG.OM W w.heap.size lv L
  low : Below w.heap.size w W
  base : w.heap.size < O
  res : W.heap[w.heap.size]? = some (.cells #[.int .i64 0, .int .i64 0, .int .i64 0, .int .i64 0, .int .i64 0, .int .i64 0, .slice none 0 0, .slice none 0 0] 26 (0, 0))
theorem Qlegs.later {w W W' : World} {O : Nat} {id : Int} {lv : Value} {L : List LG.El} (h : Qlegs w W O id lv L) (hb : Below W.heap.size W W') : Qlegs w W' O id lv L :=
  ⟨blk_later h.box hb, h.own.later hb, h.low.trans (hb.mono h.low.size), h.base, blk_later h.res hb⟩
theorem Qlegs.grow {w W W' : World} {O : Nat} {id : Int} {lv v' : Value} {L : List LG.El} {p : LG.El} (h : Qlegs w W O id lv L) (ho : LG.OM W' w.heap.size v' (L ++ [p])) (hg : W.grownBy W' lv.ownBlock) :
    Qlegs w (W'.setCell ⟨O, 6, none⟩ v') O id v' (L ++ [p]) ∧ W'.heap[O]? = some (.cells #[.int .i64 5, .int .i64 0, .int .i64 0, .int .i64 0, .int .i64 0, .int .i64 id, lv, .slice none 0 0] 26 (0, 0)) := by
  have hne : ∀ b c, W.heap[b]? = some (.cells c 26 (0, 0)) → ¬ some b = lv.ownBlock := fun b c hb e => by
    obtain ⟨c2, fz, h2⟩ := ownsRow_kind h.own b e.symm
    rw [hb] at h2
    injection h2 with h2
    injection h2 with _ h2 _
    exact absurd h2 (by decide)
  have hlt := fun b o (hb : W.heap[b]? = some o) => (Array.getElem?_eq_some_iff.1 hb).1
  have b1 := (hg.block O (hlt _ _ h.box) (hne _ _ h.box)).trans h.box
  have r1 := (hg.block w.heap.size (hlt _ _ h.res) (hne _ _ h.res)).trans h.res
  have l1 : Below w.heap.size w W' := h.low.grown hg h.low.size (fun k hk => (h.own.lt k hk).1)
  have hb := h.base
  refine ⟨⟨set_blk0 b1 6 v' rfl, owns_blk ho (fun g hgb => Below.heap_setCell _ _ _ g (fun e => ?_)), l1.setCell (p := ⟨O, 6, none⟩) (by show w.heap.size ≤ O; omega) v', h.base, (Below.heap_setCell _ _ _ w.heap.size (by show w.heap.size ≠ O; omega)).trans r1⟩, b1⟩
  obtain ⟨c2, fz, h2⟩ := ownsRow_kind ho g hgb
  rw [show g = O from e, b1] at h2
  injection h2 with h2
  injection h2 with _ h2 _
  exact absurd h2 (by decide)
set_option maxRecDepth 100000 in
set_option maxHeartbeats 4000000 in
theorem rdec_ok5 (v : Value) (N : List Int) (w : World) (hv : LN.RM w v (5 :: N)) (hn : 1 ≤ N.length) (hm : (N.drop 1).length % 5 = 0) (hl : N.length ≤ 17592186044000) :
    Calls Tryz.prog 25 #[v] w fun e w' => ∃ lv, e = .returned (.tuple #[.agg #[.int .i64 5, .int .i64 0, .int .i64 0, .int .i64 0, .int .i64 0, .int .i64 (nth N 0), lv, .slice none 0 0], .int .i64 0]) ∧ LG.OM w' w.heap.size lv (legsOf (N.drop 1)) ∧ Below w.heap.size w w' := by
  obtain ⟨g, off, cap, rfl, hcap, hg, hc⟩ := row_some hv (by simp)
  have HF := hide (fun W : World => fixed_any 5 W (by omega) (by omega))
  rw [show (if (5 : Int) ≤ 2 then (3 : Int) else if (5 : Int) ≤ 4 then 4 else if (5 : Int) = 5 ∨ (5 : Int) = 8 then -1 else 1) = -1 by decide] at HF
  have HCC := hide hc
  obtain ⟨M, hM⟩ : ∃ M, (N.drop 1) = M := ⟨_, rfl⟩
  have hML : M.length = N.length - 1 := by rw [← hM]; rw [List.length_drop]
  have HNT : Hid (∀ j, nth (5 :: N) (2 + j) = nth M j) := hide (fun j => by
    rw [← hM]; rw [nth_drop]; unfold nth; rw [show 2 + j = (1 + j) + 1 by omega, List.getElem?_cons_succ])
  obtain ⟨nn, hnn⟩ : ∃ n, n = (5 :: N).length := ⟨_, rfl⟩
  have hnn2 : nn = N.length + 1 := hnn
  rw [← hnn] at hcap HCC ⊢
  rw [hM] at hm ⊢
  have c1 := hc 1 (by simp; omega)
  rw [show nth (5 :: N) 1 = nth N 0 from by unfold nth; simp] at c1
  generalize nth N 0 = id at *
  obtain ⟨m, hmm⟩ : ∃ m : Int, (N.length : Int) = m := ⟨_, rfl⟩
  have k0 : (0 : Int) < (nn : Int) := by omega
  have k01 : (1 : Int) < (nn : Int) := by omega
  have hw : wrap64 ((nn : Int) - 1) = m := by unfold wrap64; omega
  have hw2 : IntKind.i64.wrap ((nn : Int) - 1) = m := by rw [IntKind.wrap_i64]; omega
  have dm : decide (m < 0) = false := by rw [decide_eq_false_iff_not]; omega
  obtain ⟨r, hr⟩ : ∃ r : Int, m.tmod 5 = r := ⟨_, rfl⟩
  have hr2 : m % 5 = r := by rw [← hr, ← hmm]; rfl
  have d2 : (r != 1) = false := by rw [bne_eq_false_iff_eq]; omega
  have HB := hide ((Below.refl w.heap.size w).alloc (Nat.le_refl _) (.cells #[.int .i64 0, .int .i64 0, .int .i64 0, .int .i64 0, .int .i64 0, .int .i64 0, .slice none 0 0, .slice none 0 0] 26))
  have c0 := (HB.out.cell (p := ⟨g, off, none⟩) hg).trans (hc 0 (by simp))
  rw [show nth (5 :: N) 0 = 5 from rfl] at c0
  have c1' := ((two_below w (.cells #[.int .i64 0, .int .i64 0, .int .i64 0, .int .i64 0, .int .i64 0, .int .i64 0, .slice none 0 0, .slice none 0 0] 26) (.cells #[.int .i64 5, .int .i64 0, .int .i64 0, .int .i64 0, .int .i64 0, .int .i64 0, .slice none 0 0, .slice none 0 0] 26)).cell (p := ⟨g, off + 1, none⟩) hg).trans c1
  obtain ⟨i0, hi, hz0, hz1, hz2⟩ := info_parts LG.Tryz.infoMk
  have HII := hide (And.intro hi (And.intro hz0 (And.intro hz1 hz2)))
  have Z1 := two_new w (.cells #[.int .i64 0, .int .i64 0, .int .i64 0, .int .i64 0, .int .i64 0, .int .i64 0, .slice none 0 0, .slice none 0 0] 26) (.cells #[.int .i64 5, .int .i64 0, .int .i64 0, .int .i64 0, .int .i64 0, .int .i64 id, .slice none 0 0, .slice none 0 0] 26)
  have HS0 : Hid (Qlegs w ((w.alloc (.cells #[.int .i64 0, .int .i64 0, .int .i64 0, .int .i64 0, .int .i64 0, .int .i64 0, .slice none 0 0, .slice none 0 0] 26)).alloc (.cells #[.int .i64 5, .int .i64 0, .int .i64 0, .int .i64 0, .int .i64 0, .int .i64 id, .slice none 0 0, .slice none 0 0] 26)) (w.heap.size + 1) id (.slice none 0 0) ((legsOf M).take 0)) := hide ⟨Z1.2, by rw [List.take_zero]; exact LG.OM.nil _ _, two_below w _ _, by omega, Z1.1⟩
  have HG := hide hg
  have HNN := hide hnn2
  have HMM := hide hM
  have HMLN := hide hML
  have HMO := hide hm
  clear hi hz0 hz1 hz2 hc hv hg hnn hM Z1 hmm hnn2 hML hm
  go_enter Tryz.func25, Tryz.ntmps25
  go_wp2_with fail
  refine (HF.out _).mono ?_
  rintro e w1 ⟨rfl, rfl⟩
  go_wp2_with fail
  clear c0 k0 k01 hw hw2 dm hr hr2 d2 c1 c1'
  generalize (w.alloc (.cells #[.int .i64 0, .int .i64 0, .int .i64 0, .int .i64 0, .int .i64 0, .int .i64 0, .slice none 0 0, .slice none 0 0] 26)).alloc (.cells #[.int .i64 5, .int .i64 0, .int .i64 0, .int .i64 0, .int .i64 0, .int .i64 id, .slice none 0 0, .slice none 0 0] 26) = W9 at *
  obtain ⟨O, hO⟩ : ∃ O, O = w.heap.size + 1 := ⟨_, rfl⟩
  rw [← hO] at HS0 ⊢
  clear hO
  go_loopw [8] (fun i wr => ∃ (k ii : Nat) (lv : Value), 5 * k ≤ M.length ∧ i = .int .i64 (ii : Int) ∧ Hid (ii = 2 + 5 * k) ∧ Hid (Qlegs w wr O id lv ((legsOf M).take k))) (fun i _ => nn - (intOf i).toNat)
  case atStart => exact ⟨0, 2, .slice none 0 0, by omega, rfl, hide rfl, HS0⟩
  case round =>
    clear HS0
    obtain ⟨k, ii, lv, hk, rfl, HII2, HS⟩ := hrel
    by_cases h0 : ii < nn
    · have hkK : k < M.length / 5 := by have h1 := HII2.out; have h2 := HNN.out; have h3 := HMLN.out; have h4 := HMO.out; omega
      have hjn : ii + 5 ≤ nn := by have h1 := HII2.out; have h2 := HNN.out; have h3 := HMLN.out; have h4 := HMO.out; omega
      have hnB : nn ≤ 17592186044001 := by have h2 := HNN.out; omega
      have HTK := hide (legsOf_take hkK)
      have e0 : w.cell? ⟨g, off + ii, none⟩ = some (.int .i64 (nth M (5 * k))) := by
        have h1 := HCC.out (ii) (by omega)
        rw [show nth (5 :: N) (ii) = nth M (5 * k) from by rw [← HNT.out]; exact congrArg _ (by have := HII2.out; omega)] at h1
        exact h1
      have e1 : w.cell? ⟨g, off + ii + 1, none⟩ = some (.int .i64 (nth M (5 * k + 1))) := by
        have h1 := HCC.out (ii + 1) (by omega)
        rw [show nth (5 :: N) (ii + 1) = nth M (5 * k + 1) from by rw [← HNT.out]; exact congrArg _ (by have := HII2.out; omega)] at h1
        exact h1
      have e2 : w.cell? ⟨g, off + ii + 2, none⟩ = some (.int .i64 (nth M (5 * k + 2))) := by
        have h1 := HCC.out (ii + 2) (by omega)
        rw [show nth (5 :: N) (ii + 2) = nth M (5 * k + 2) from by rw [← HNT.out]; exact congrArg _ (by have := HII2.out; omega)] at h1
        exact h1
      have e3 : w.cell? ⟨g, off + ii + 3, none⟩ = some (.int .i64 (nth M (5 * k + 3))) := by
        have h1 := HCC.out (ii + 3) (by omega)
        rw [show nth (5 :: N) (ii + 3) = nth M (5 * k + 3) from by rw [← HNT.out]; exact congrArg _ (by have := HII2.out; omega)] at h1
        exact h1
      have e4 : w.cell? ⟨g, off + ii + 4, none⟩ = some (.int .i64 (nth M (5 * k + 4))) := by
        have h1 := HCC.out (ii + 4) (by omega)
        rw [show nth (5 :: N) (ii + 4) = nth M (5 * k + 4) from by rw [← HNT.out]; exact congrArg _ (by have := HII2.out; omega)] at h1
        exact h1
      generalize nth M (5 * k) = a0 at *
      generalize nth M (5 * k + 1) = a1 at *
      generalize nth M (5 * k + 2) = a2 at *
      generalize nth M (5 * k + 3) = a3 at *
      generalize nth M (5 * k + 4) = a4 at *
      have hlen : ((legsOf M).take k).length = k := by rw [List.length_take, legsOf_len]; omega
      have HKK := hide hkK
      have HMX : Hid (k + 1 ≤ maxLen ∧ (k + 1) * 40 ≤ 140737488355328) := hide (by have h2 := HNN.out; have h3 := HMLN.out; unfold maxLen; omega)
      clear hkK
      have hiB : ii ≤ 17592186044001 := by omega
      generalize (legsOf M).take k = L at *
      obtain ⟨la, lc, hlv⟩ := LG.rm_lt HS.out.own.rm
      rw [hlen] at hlv
      subst hlv
      have hd : decide ((ii : Int) < (nn : Int)) = true := by rw [decide_eq_true_eq]; omega
      have kz : (0 : Int) ≤ (ii : Int) := by omega
      have kk0 : ((ii : Int)) < (nn : Int) := by omega
      have kk1 : ((ii : Int) + 1) < (nn : Int) := (k_up 1 1 rfl (by decide) hjn).1
      have kn1 : (0 : Int) ≤ (ii : Int) + 1 := (k_up 1 1 rfl (by decide) hjn).2.1
      have kt1 : ((ii : Int) + 1).toNat = ii + 1 := (k_up 1 1 rfl (by decide) hjn).2.2
      have kw1 : IntKind.i64.wrap ((ii : Int) + 1) = (ii : Int) + 1 := (wr_up 1 hiB (by decide) (by decide)).1
      have kv1 : wrap64 ((ii : Int) + 1) = (ii : Int) + 1 := (wr_up 1 hiB (by decide) (by decide)).2
      have kk2 : ((ii : Int) + 2) < (nn : Int) := (k_up 2 2 rfl (by decide) hjn).1
      have kn2 : (0 : Int) ≤ (ii : Int) + 2 := (k_up 2 2 rfl (by decide) hjn).2.1
      have kt2 : ((ii : Int) + 2).toNat = ii + 2 := (k_up 2 2 rfl (by decide) hjn).2.2
      have kw2 : IntKind.i64.wrap ((ii : Int) + 2) = (ii : Int) + 2 := (wr_up 2 hiB (by decide) (by decide)).1
      have kv2 : wrap64 ((ii : Int) + 2) = (ii : Int) + 2 := (wr_up 2 hiB (by decide) (by decide)).2
      have kk3 : ((ii : Int) + 3) < (nn : Int) := (k_up 3 3 rfl (by decide) hjn).1
      have kn3 : (0 : Int) ≤ (ii : Int) + 3 := (k_up 3 3 rfl (by decide) hjn).2.1
      have kt3 : ((ii : Int) + 3).toNat = ii + 3 := (k_up 3 3 rfl (by decide) hjn).2.2
      have kw3 : IntKind.i64.wrap ((ii : Int) + 3) = (ii : Int) + 3 := (wr_up 3 hiB (by decide) (by decide)).1
      have kv3 : wrap64 ((ii : Int) + 3) = (ii : Int) + 3 := (wr_up 3 hiB (by decide) (by decide)).2
      have kk4 : ((ii : Int) + 4) < (nn : Int) := (k_up 4 4 rfl (by decide) hjn).1
      have kn4 : (0 : Int) ≤ (ii : Int) + 4 := (k_up 4 4 rfl (by decide) hjn).2.1
      have kt4 : ((ii : Int) + 4).toNat = ii + 4 := (k_up 4 4 rfl (by decide) hjn).2.2
      have kw4 : IntKind.i64.wrap ((ii : Int) + 4) = (ii : Int) + 4 := (wr_up 4 hiB (by decide) (by decide)).1
      have kv4 : wrap64 ((ii : Int) + 4) = (ii : Int) + 4 := (wr_up 4 hiB (by decide) (by decide)).2
      have hS0 : wr.cell? ⟨O, 6, none⟩ = some (.slice la k lc) ∧ wr.cell? ⟨g, off + ii, none⟩ = some (.int .i64 a0) ∧ wr.cell? ⟨g, off + ii + 1, none⟩ = some (.int .i64 a1) ∧ wr.cell? ⟨g, off + ii + 2, none⟩ = some (.int .i64 a2) ∧ wr.cell? ⟨g, off + ii + 3, none⟩ = some (.int .i64 a3) ∧ wr.cell? ⟨g, off + ii + 4, none⟩ = some (.int .i64 a4) ∧ wr.cell? ⟨g, off + (ii + 1), none⟩ = some (.int .i64 a1) ∧ wr.cell? ⟨g, off + (ii + 2), none⟩ = some (.int .i64 a2) ∧ wr.cell? ⟨g, off + (ii + 3), none⟩ = some (.int .i64 a3) ∧ wr.cell? ⟨g, off + (ii + 4), none⟩ = some (.int .i64 a4) := ⟨by rw [cell_of_row _ _ 6 _ _ _ HS.out.box]; rfl, (HS.out.low.cell (p := ⟨g, _, none⟩) HG.out).trans e0, (HS.out.low.cell (p := ⟨g, _, none⟩) HG.out).trans e1, (HS.out.low.cell (p := ⟨g, _, none⟩) HG.out).trans e2, (HS.out.low.cell (p := ⟨g, _, none⟩) HG.out).trans e3, (HS.out.low.cell (p := ⟨g, _, none⟩) HG.out).trans e4, (HS.out.low.cell (p := ⟨g, _, none⟩) HG.out).trans e1, (HS.out.low.cell (p := ⟨g, _, none⟩) HG.out).trans e2, (HS.out.low.cell (p := ⟨g, _, none⟩) HG.out).trans e3, (HS.out.low.cell (p := ⟨g, _, none⟩) HG.out).trans e4⟩
      go_wp2_with fail
      refine z_begins (S := fun W => W.cell? ⟨O, 6, none⟩ = some (.slice la k lc) ∧ W.cell? ⟨g, off + ii, none⟩ = some (.int .i64 a0) ∧ W.cell? ⟨g, off + ii + 1, none⟩ = some (.int .i64 a1) ∧ W.cell? ⟨g, off + ii + 2, none⟩ = some (.int .i64 a2) ∧ W.cell? ⟨g, off + ii + 3, none⟩ = some (.int .i64 a3) ∧ W.cell? ⟨g, off + ii + 4, none⟩ = some (.int .i64 a4) ∧ W.cell? ⟨g, off + (ii + 1), none⟩ = some (.int .i64 a1) ∧ W.cell? ⟨g, off + (ii + 2), none⟩ = some (.int .i64 a2) ∧ W.cell? ⟨g, off + (ii + 3), none⟩ = some (.int .i64 a3) ∧ W.cell? ⟨g, off + (ii + 4), none⟩ = some (.int .i64 a4)) 30 31 #[false, false, false, false, false, false, false, false, false, false, false, false, false, false, false, false, false, false, false, false, false, false, false, false, false, false, false, false, false, false, false] (by kernel_rfl) (by kernel_rfl) (by kernel_rfl) hS0 (fun hHeld => ?_)
      refine zk (v := ?_) 0 95 #[true, false, false, false, false, false, false, false, false, false, false, false, false, false, false, false, false, false, false, false, false, false, false, false, false, false, false, false, false, false, false] rfl rfl (by kernel_rfl) (by kernel_rfl) (by kernel_rfl) (by kernel_rfl) (fun _ _ _ h => h) (by kernel_rfl) (by rfl) ?hy hHeld ?_
      case hy => rintro W ⟨q0, q1, q2, q3, q4, q5, q6, q7, q8, q9⟩; first | (go_simp; done) | (go_simp; with_reducible rfl)
      simp only [List.setIfInBounds_toArray, List.set_cons_zero, List.set_cons_succ]
      refine zk (v := ?_) 1 96 #[true, true, false, false, false, false, false, false, false, false, false, false, false, false, false, false, false, false, false, false, false, false, false, false, false, false, false, false, false, false, false] rfl rfl (by kernel_rfl) (by kernel_rfl) (by kernel_rfl) (by kernel_rfl) (fun _ _ _ h => h) (by kernel_rfl) (by rfl) ?hy hHeld ?_
      case hy => rintro W ⟨q0, q1, q2, q3, q4, q5, q6, q7, q8, q9⟩; first | (go_simp; done) | (go_simp; with_reducible rfl)
      simp only [List.setIfInBounds_toArray, List.set_cons_zero, List.set_cons_succ]
      refine zk (v := ?_) 2 97 #[true, true, true, false, false, false, false, false, false, false, false, false, false, false, false, false, false, false, false, false, false, false, false, false, false, false, false, false, false, false, false] rfl rfl (by kernel_rfl) (by kernel_rfl) (by kernel_rfl) (by kernel_rfl) (fun _ _ _ h => h) (by kernel_rfl) (by rfl) ?hy hHeld ?_
      case hy => rintro W ⟨q0, q1, q2, q3, q4, q5, q6, q7, q8, q9⟩; first | (go_simp; done) | (go_simp; with_reducible rfl)
      simp only [List.setIfInBounds_toArray, List.set_cons_zero, List.set_cons_succ]
      refine zk (v := ?_) 3 98 #[true, true, true, true, false, false, false, false, false, false, false, false, false, false, false, false, false, false, false, false, false, false, false, false, false, false, false, false, false, false, false] rfl rfl (by kernel_rfl) (by kernel_rfl) (by kernel_rfl) (by kernel_rfl) (fun _ _ _ h => h) (by kernel_rfl) (by rfl) ?hy hHeld ?_
      case hy => rintro W ⟨q0, q1, q2, q3, q4, q5, q6, q7, q8, q9⟩; first | (go_simp; done) | (go_simp; with_reducible rfl)
      simp only [List.setIfInBounds_toArray, List.set_cons_zero, List.set_cons_succ]
      refine zk (v := ?_) 4 99 #[true, true, true, true, true, false, false, false, false, false, false, false, false, false, false, false, false, false, false, false, false, false, false, false, false, false, false, false, false, false, false] rfl rfl (by kernel_rfl) (by kernel_rfl) (by kernel_rfl) (by kernel_rfl) (fun _ _ _ h => h) (by kernel_rfl) (by rfl) ?hy hHeld ?_
      case hy => rintro W ⟨q0, q1, q2, q3, q4, q5, q6, q7, q8, q9⟩; first | (go_simp; done) | (go_simp; with_reducible rfl)
      simp only [List.setIfInBounds_toArray, List.set_cons_zero, List.set_cons_succ]
      refine zk (v := ?_) 5 100 #[true, true, true, true, true, true, false, false, false, false, false, false, false, false, false, false, false, false, false, false, false, false, false, false, false, false, false, false, false, false, false] rfl rfl (by kernel_rfl) (by kernel_rfl) (by kernel_rfl) (by kernel_rfl) (fun _ _ _ h => h) (by kernel_rfl) (by rfl) ?hy hHeld ?_
      case hy => rintro W ⟨q0, q1, q2, q3, q4, q5, q6, q7, q8, q9⟩; first | (go_simp; done) | (go_simp; with_reducible rfl)
      simp only [List.setIfInBounds_toArray, List.set_cons_zero, List.set_cons_succ]
      refine zk (v := ?_) 6 101 #[true, true, true, true, true, true, true, false, false, false, false, false, false, false, false, false, false, false, false, false, false, false, false, false, false, false, false, false, false, false, false] rfl rfl (by kernel_rfl) (by kernel_rfl) (by kernel_rfl) (by kernel_rfl) (fun _ _ _ h => h) (by kernel_rfl) (by rfl) ?hy hHeld ?_
      case hy => rintro W ⟨q0, q1, q2, q3, q4, q5, q6, q7, q8, q9⟩; first | (go_simp; done) | (go_simp; with_reducible rfl)
      simp only [List.setIfInBounds_toArray, List.set_cons_zero, List.set_cons_succ]
      refine zk (v := ?_) 7 102 #[true, true, true, true, true, true, true, true, false, false, false, false, false, false, false, false, false, false, false, false, false, false, false, false, false, false, false, false, false, false, false] rfl rfl (by kernel_rfl) (by kernel_rfl) (by kernel_rfl) (by kernel_rfl) (fun _ _ _ h => h) (by kernel_rfl) (by rfl) ?hy hHeld ?_
      case hy => rintro W ⟨q0, q1, q2, q3, q4, q5, q6, q7, q8, q9⟩; first | (go_simp; done) | (go_simp; with_reducible rfl)
      simp only [List.setIfInBounds_toArray, List.set_cons_zero, List.set_cons_succ]
      refine zk (v := ?_) 8 103 #[true, true, true, true, true, true, true, true, true, false, false, false, false, false, false, false, false, false, false, false, false, false, false, false, false, false, false, false, false, false, false] rfl rfl (by kernel_rfl) (by kernel_rfl) (by kernel_rfl) (by kernel_rfl) (fun _ _ _ h => h) (by kernel_rfl) (by rfl) ?hy hHeld ?_
      case hy => rintro W ⟨q0, q1, q2, q3, q4, q5, q6, q7, q8, q9⟩; first | (go_simp; done) | (go_simp; with_reducible rfl)
      simp only [List.setIfInBounds_toArray, List.set_cons_zero, List.set_cons_succ]
      refine zk (v := ?_) 9 104 #[true, true, true, true, true, true, true, true, true, true, false, false, false, false, false, false, false, false, false, false, false, false, false, false, false, false, false, false, false, false, false] rfl rfl (by kernel_rfl) (by kernel_rfl) (by kernel_rfl) (by kernel_rfl) (fun _ _ _ h => h) (by kernel_rfl) (by rfl) ?hy hHeld ?_
      case hy => rintro W ⟨q0, q1, q2, q3, q4, q5, q6, q7, q8, q9⟩; first | (go_simp; done) | (go_simp; with_reducible rfl)
      simp only [List.setIfInBounds_toArray, List.set_cons_zero, List.set_cons_succ]
      refine zk (v := ?_) 10 105 #[true, true, true, true, true, true, true, true, true, true, true, false, false, false, false, false, false, false, false, false, false, false, false, false, false, false, false, false, false, false, false] rfl rfl (by kernel_rfl) (by kernel_rfl) (by kernel_rfl) (by kernel_rfl) (fun _ _ _ h => h) (by kernel_rfl) (by rfl) ?hy hHeld ?_
      case hy => rintro W ⟨q0, q1, q2, q3, q4, q5, q6, q7, q8, q9⟩; first | (go_simp; done) | (go_simp; with_reducible rfl)
      simp only [List.setIfInBounds_toArray, List.set_cons_zero, List.set_cons_succ]
      refine zk (v := ?_) 11 106 #[true, true, true, true, true, true, true, true, true, true, true, true, false, false, false, false, false, false, false, false, false, false, false, false, false, false, false, false, false, false, false] rfl rfl (by kernel_rfl) (by kernel_rfl) (by kernel_rfl) (by kernel_rfl) (fun _ _ _ h => h) (by kernel_rfl) (by rfl) ?hy hHeld ?_
      case hy => rintro W ⟨q0, q1, q2, q3, q4, q5, q6, q7, q8, q9⟩; first | (go_simp; done) | (go_simp; with_reducible rfl)
      simp only [List.setIfInBounds_toArray, List.set_cons_zero, List.set_cons_succ]
      refine zk (v := ?_) 12 107 #[true, true, true, true, true, true, true, true, true, true, true, true, true, false, false, false, false, false, false, false, false, false, false, false, false, false, false, false, false, false, false] rfl rfl (by kernel_rfl) (by kernel_rfl) (by kernel_rfl) (by kernel_rfl) (fun _ _ _ h => h) (by kernel_rfl) (by rfl) ?hy hHeld ?_
      case hy => rintro W ⟨q0, q1, q2, q3, q4, q5, q6, q7, q8, q9⟩; first | (go_simp; done) | (go_simp; with_reducible rfl)
      simp only [List.setIfInBounds_toArray, List.set_cons_zero, List.set_cons_succ]
      refine zk (v := ?_) 13 108 #[true, true, true, true, true, true, true, true, true, true, true, true, true, true, false, false, false, false, false, false, false, false, false, false, false, false, false, false, false, false, false] rfl rfl (by kernel_rfl) (by kernel_rfl) (by kernel_rfl) (by kernel_rfl) (fun _ _ _ h => h) (by kernel_rfl) (by rfl) ?hy hHeld ?_
      case hy => rintro W ⟨q0, q1, q2, q3, q4, q5, q6, q7, q8, q9⟩; first | (go_simp; done) | (go_simp; with_reducible rfl)
      simp only [List.setIfInBounds_toArray, List.set_cons_zero, List.set_cons_succ]
      refine zk (v := ?_) 14 109 #[true, true, true, true, true, true, true, true, true, true, true, true, true, true, true, false, false, false, false, false, false, false, false, false, false, false, false, false, false, false, false] rfl rfl (by kernel_rfl) (by kernel_rfl) (by kernel_rfl) (by kernel_rfl) (fun _ _ _ h => h) (by kernel_rfl) (by rfl) ?hy hHeld ?_
      case hy => rintro W ⟨q0, q1, q2, q3, q4, q5, q6, q7, q8, q9⟩; first | (go_simp; done) | (go_simp; with_reducible rfl)
      simp only [List.setIfInBounds_toArray, List.set_cons_zero, List.set_cons_succ]
      refine zk (v := ?_) 15 110 #[true, true, true, true, true, true, true, true, true, true, true, true, true, true, true, true, false, false, false, false, false, false, false, false, false, false, false, false, false, false, false] rfl rfl (by kernel_rfl) (by kernel_rfl) (by kernel_rfl) (by kernel_rfl) (fun _ _ _ h => h) (by kernel_rfl) (by rfl) ?hy hHeld ?_
      case hy => rintro W ⟨q0, q1, q2, q3, q4, q5, q6, q7, q8, q9⟩; first | (go_simp; done) | (go_simp; with_reducible rfl)
      simp only [List.setIfInBounds_toArray, List.set_cons_zero, List.set_cons_succ]
      refine zk (v := ?_) 16 111 #[true, true, true, true, true, true, true, true, true, true, true, true, true, true, true, true, true, false, false, false, false, false, false, false, false, false, false, false, false, false, false] rfl rfl (by kernel_rfl) (by kernel_rfl) (by kernel_rfl) (by kernel_rfl) (fun _ _ _ h => h) (by kernel_rfl) (by rfl) ?hy hHeld ?_
      case hy => rintro W ⟨q0, q1, q2, q3, q4, q5, q6, q7, q8, q9⟩; first | (go_simp; done) | (go_simp; with_reducible rfl)
      simp only [List.setIfInBounds_toArray, List.set_cons_zero, List.set_cons_succ]
      refine zk (v := ?_) 17 112 #[true, true, true, true, true, true, true, true, true, true, true, true, true, true, true, true, true, true, false, false, false, false, false, false, false, false, false, false, false, false, false] rfl rfl (by kernel_rfl) (by kernel_rfl) (by kernel_rfl) (by kernel_rfl) (fun _ _ _ h => h) (by kernel_rfl) (by rfl) ?hy hHeld ?_
      case hy => rintro W ⟨q0, q1, q2, q3, q4, q5, q6, q7, q8, q9⟩; first | (go_simp; done) | (go_simp; with_reducible rfl)
      simp only [List.setIfInBounds_toArray, List.set_cons_zero, List.set_cons_succ]
      refine zk (v := ?_) 18 113 #[true, true, true, true, true, true, true, true, true, true, true, true, true, true, true, true, true, true, true, false, false, false, false, false, false, false, false, false, false, false, false] rfl rfl (by kernel_rfl) (by kernel_rfl) (by kernel_rfl) (by kernel_rfl) (fun _ _ _ h => h) (by kernel_rfl) (by rfl) ?hy hHeld ?_
      case hy => rintro W ⟨q0, q1, q2, q3, q4, q5, q6, q7, q8, q9⟩; first | (go_simp; done) | (go_simp; with_reducible rfl)
      simp only [List.setIfInBounds_toArray, List.set_cons_zero, List.set_cons_succ]
      refine zk (v := ?_) 19 114 #[true, true, true, true, true, true, true, true, true, true, true, true, true, true, true, true, true, true, true, true, false, false, false, false, false, false, false, false, false, false, false] rfl rfl (by kernel_rfl) (by kernel_rfl) (by kernel_rfl) (by kernel_rfl) (fun _ _ _ h => h) (by kernel_rfl) (by rfl) ?hy hHeld ?_
      case hy => rintro W ⟨q0, q1, q2, q3, q4, q5, q6, q7, q8, q9⟩; first | (go_simp; done) | (go_simp; with_reducible rfl)
      simp only [List.setIfInBounds_toArray, List.set_cons_zero, List.set_cons_succ]
      refine zk (v := ?_) 20 115 #[true, true, true, true, true, true, true, true, true, true, true, true, true, true, true, true, true, true, true, true, true, false, false, false, false, false, false, false, false, false, false] rfl rfl (by kernel_rfl) (by kernel_rfl) (by kernel_rfl) (by kernel_rfl) (fun _ _ _ h => h) (by kernel_rfl) (by rfl) ?hy hHeld ?_
      case hy => rintro W ⟨q0, q1, q2, q3, q4, q5, q6, q7, q8, q9⟩; first | (go_simp; done) | (go_simp; with_reducible rfl)
      simp only [List.setIfInBounds_toArray, List.set_cons_zero, List.set_cons_succ]
      refine zk (v := ?_) 21 116 #[true, true, true, true, true, true, true, true, true, true, true, true, true, true, true, true, true, true, true, true, true, true, false, false, false, false, false, false, false, false, false] rfl rfl (by kernel_rfl) (by kernel_rfl) (by kernel_rfl) (by kernel_rfl) (fun _ _ _ h => h) (by kernel_rfl) (by rfl) ?hy hHeld ?_
      case hy => rintro W ⟨q0, q1, q2, q3, q4, q5, q6, q7, q8, q9⟩; first | (go_simp; done) | (go_simp; with_reducible rfl)
      simp only [List.setIfInBounds_toArray, List.set_cons_zero, List.set_cons_succ]
      refine zk (v := ?_) 22 117 #[true, true, true, true, true, true, true, true, true, true, true, true, true, true, true, true, true, true, true, true, true, true, true, false, false, false, false, false, false, false, false] rfl rfl (by kernel_rfl) (by kernel_rfl) (by kernel_rfl) (by kernel_rfl) (fun _ _ _ h => h) (by kernel_rfl) (by rfl) ?hy hHeld ?_
      case hy => rintro W ⟨q0, q1, q2, q3, q4, q5, q6, q7, q8, q9⟩; first | (go_simp; done) | (go_simp; with_reducible rfl)
      simp only [List.setIfInBounds_toArray, List.set_cons_zero, List.set_cons_succ]
      refine zk (v := ?_) 23 118 #[true, true, true, true, true, true, true, true, true, true, true, true, true, true, true, true, true, true, true, true, true, true, true, true, false, false, false, false, false, false, false] rfl rfl (by kernel_rfl) (by kernel_rfl) (by kernel_rfl) (by kernel_rfl) (fun _ _ _ h => h) (by kernel_rfl) (by rfl) ?hy hHeld ?_
      case hy => rintro W ⟨q0, q1, q2, q3, q4, q5, q6, q7, q8, q9⟩; first | (go_simp; done) | (go_simp; with_reducible rfl)
      simp only [List.setIfInBounds_toArray, List.set_cons_zero, List.set_cons_succ]
      refine zk (v := ?_) 24 119 #[true, true, true, true, true, true, true, true, true, true, true, true, true, true, true, true, true, true, true, true, true, true, true, true, true, false, false, false, false, false, false] rfl rfl (by kernel_rfl) (by kernel_rfl) (by kernel_rfl) (by kernel_rfl) (fun _ _ _ h => h) (by kernel_rfl) (by rfl) ?hy hHeld ?_
      case hy => rintro W ⟨q0, q1, q2, q3, q4, q5, q6, q7, q8, q9⟩; first | (go_simp; done) | (go_simp; with_reducible rfl)
      simp only [List.setIfInBounds_toArray, List.set_cons_zero, List.set_cons_succ]
      refine zk (v := ?_) 25 120 #[true, true, true, true, true, true, true, true, true, true, true, true, true, true, true, true, true, true, true, true, true, true, true, true, true, true, false, false, false, false, false] rfl rfl (by kernel_rfl) (by kernel_rfl) (by kernel_rfl) (by kernel_rfl) (fun _ _ _ h => h) (by kernel_rfl) (by rfl) ?hy hHeld ?_
      case hy => rintro W ⟨q0, q1, q2, q3, q4, q5, q6, q7, q8, q9⟩; first | (go_simp; done) | (go_simp; with_reducible rfl)
      simp only [List.setIfInBounds_toArray, List.set_cons_zero, List.set_cons_succ]
      refine zk (v := ?_) 26 121 #[true, true, true, true, true, true, true, true, true, true, true, true, true, true, true, true, true, true, true, true, true, true, true, true, true, true, true, false, false, false, false] rfl rfl (by kernel_rfl) (by kernel_rfl) (by kernel_rfl) (by kernel_rfl) (fun _ _ _ h => h) (by kernel_rfl) (by rfl) ?hy hHeld ?_
      case hy => rintro W ⟨q0, q1, q2, q3, q4, q5, q6, q7, q8, q9⟩; first | (go_simp; done) | (go_simp; with_reducible rfl)
      simp only [List.setIfInBounds_toArray, List.set_cons_zero, List.set_cons_succ]
      have HS8 := hide (HS.out.later drew_below)
      obtain ⟨W3, hW3⟩ : ∃ W3, wr.drew.alloc (.cells #[.int .i64 a0, .int .i64 a1, .int .i64 a2, .int .i64 a3, .int .i64 a4] 38) = W3 := ⟨_, rfl⟩
      have b3 : Below wr.drew.heap.size wr.drew W3 := by rw [← hW3]; exact (Below.refl _ _).alloc (Nat.le_refl _) _
      have HS3 := hide (HS8.out.later b3)
      have HN3 : Hid (∀ j u, ([.int .i64 a0, .int .i64 a1, .int .i64 a2, .int .i64 a3, .int .i64 a4] : List Value)[j]? = some u → W3.cell? ((⟨wr.heap.size, 0, none⟩ : Addr).add j) = some u) := hide (fun j u hj => by
        rw [← hW3, Addr.add_lit, show wr.heap.size = wr.drew.heap.size from rfl, cell_of_row _ wr.drew.heap.size _ _ _ _ (alloc_new wr.drew _)]
        match j, hj with
        | 0, hj => cases hj; rfl
        | 1, hj => cases hj; rfl
        | 2, hj => cases hj; rfl
        | 3, hj => cases hj; rfl
        | 4, hj => cases hj; rfl)
      have HSS3 : Hid (W3.cell? ⟨O, 6, none⟩ = some (.slice la k lc) ∧ W3.cell? ⟨g, off + ii, none⟩ = some (.int .i64 a0) ∧ W3.cell? ⟨g, off + ii + 1, none⟩ = some (.int .i64 a1) ∧ W3.cell? ⟨g, off + ii + 2, none⟩ = some (.int .i64 a2) ∧ W3.cell? ⟨g, off + ii + 3, none⟩ = some (.int .i64 a3) ∧ W3.cell? ⟨g, off + ii + 4, none⟩ = some (.int .i64 a4) ∧ W3.cell? ⟨g, off + (ii + 1), none⟩ = some (.int .i64 a1) ∧ W3.cell? ⟨g, off + (ii + 2), none⟩ = some (.int .i64 a2) ∧ W3.cell? ⟨g, off + (ii + 3), none⟩ = some (.int .i64 a3) ∧ W3.cell? ⟨g, off + (ii + 4), none⟩ = some (.int .i64 a4)) := hide ⟨by rw [cell_of_row _ _ 6 _ _ _ HS3.out.box]; rfl, (HS3.out.low.cell (p := ⟨g, _, none⟩) HG.out).trans e0, (HS3.out.low.cell (p := ⟨g, _, none⟩) HG.out).trans e1, (HS3.out.low.cell (p := ⟨g, _, none⟩) HG.out).trans e2, (HS3.out.low.cell (p := ⟨g, _, none⟩) HG.out).trans e3, (HS3.out.low.cell (p := ⟨g, _, none⟩) HG.out).trans e4, (HS3.out.low.cell (p := ⟨g, _, none⟩) HG.out).trans e1, (HS3.out.low.cell (p := ⟨g, _, none⟩) HG.out).trans e2, (HS3.out.low.cell (p := ⟨g, _, none⟩) HG.out).trans e3, (HS3.out.low.cell (p := ⟨g, _, none⟩) HG.out).trans e4⟩
      refine z_ready 27 #[true, true, true, true, true, true, true, true, true, true, true, true, true, true, true, true, true, true, true, true, true, true, true, true, true, true, true, true, false, false, false] rfl (by kernel_rfl) (by kernel_rfl) (by rfl) (fun K hK => ?_)
      go_simp
      refine hK.out _ _ (fun _ => HSS3.out) (fun hHeld => ?_)
      clear hK K
      have ho3 := HS3.out.own
      unfold LG.OM at ho3
      rw [hlen] at ho3
      obtain ⟨v9, w9, hrun, hO9, hg9, _⟩ := run_append_own (P := Tryz.prog) W3 w.heap.size 23 23 38 i0 _ 5 40 Tryz.underlying23 HII.out.1 HII.out.2.1 HII.out.2.2.1 HII.out.2.2.2 rfl (by decide) (.slice la k lc) k (LG.mc L) ho3 ⟨wr.heap.size, 0, none⟩ 1 1 [.int .i64 a0, .int .i64 a1, .int .i64 a2, .int .i64 a3, .int .i64 a4] rfl HN3.out (by intro u hu; simp at hu; rcases hu with rfl | rfl | rfl | rfl | rfl <;> rfl) HMX.out.1 HMX.out.2 HS3.out.low.size
      have hO9' : LG.OM w9 w.heap.size v9 (L ++ [(a0, a1, a2, a3, a4)]) := by
        unfold LG.OM
        rw [List.length_append, hlen, LG.mc_app]; exact hO9
      obtain ⟨va, vc, hv9⟩ := LG.rm_lt hO9'.rm
      rw [List.length_append, hlen, List.length_singleton] at hv9
      have HE := hide (HS3.out.grow hO9' hg9)
      have HRUN := hide hrun
      refine z_ready 28 #[true, true, true, true, true, true, true, true, true, true, true, true, true, true, true, true, true, true, true, true, true, true, true, true, true, true, true, true, true, false, false] rfl (by kernel_rfl) (by kernel_rfl) (by rfl) (fun K hK => ?_)
      refine op_append_gen _ _ rfl (.slice la k lc) ⟨wr.heap.size, 0, none⟩ 1 1 rfl rfl _ w9 HRUN.out ?_
      simp only [Act.put, List.setIfInBounds_toArray]
      have HL9 : Below w.heap.size w w9 := HS3.out.low.grown hg9 HS3.out.low.size (fun k hk => (ho3.lt k hk).1)
      have HSS9 : Hid (w9.cell? ⟨O, 6, none⟩ = some (.slice la k lc) ∧ w9.cell? ⟨g, off + ii, none⟩ = some (.int .i64 a0) ∧ w9.cell? ⟨g, off + ii + 1, none⟩ = some (.int .i64 a1) ∧ w9.cell? ⟨g, off + ii + 2, none⟩ = some (.int .i64 a2) ∧ w9.cell? ⟨g, off + ii + 3, none⟩ = some (.int .i64 a3) ∧ w9.cell? ⟨g, off + ii + 4, none⟩ = some (.int .i64 a4) ∧ w9.cell? ⟨g, off + (ii + 1), none⟩ = some (.int .i64 a1) ∧ w9.cell? ⟨g, off + (ii + 2), none⟩ = some (.int .i64 a2) ∧ w9.cell? ⟨g, off + (ii + 3), none⟩ = some (.int .i64 a3) ∧ w9.cell? ⟨g, off + (ii + 4), none⟩ = some (.int .i64 a4)) := hide ⟨by rw [cell_of_row _ _ 6 _ _ _ HE.out.2]; rfl, (HL9.cell (p := ⟨g, _, none⟩) HG.out).trans e0, (HL9.cell (p := ⟨g, _, none⟩) HG.out).trans e1, (HL9.cell (p := ⟨g, _, none⟩) HG.out).trans e2, (HL9.cell (p := ⟨g, _, none⟩) HG.out).trans e3, (HL9.cell (p := ⟨g, _, none⟩) HG.out).trans e4, (HL9.cell (p := ⟨g, _, none⟩) HG.out).trans e1, (HL9.cell (p := ⟨g, _, none⟩) HG.out).trans e2, (HL9.cell (p := ⟨g, _, none⟩) HG.out).trans e3, (HL9.cell (p := ⟨g, _, none⟩) HG.out).trans e4⟩
      refine hK.out _ _ (fun _ => HSS9.out) (fun hHeld => ?_)
      clear hK K
      refine z_ready 29 #[true, true, true, true, true, true, true, true, true, true, true, true, true, true, true, true, true, true, true, true, true, true, true, true, true, true, true, true, true, true, false] rfl (by kernel_rfl) (by kernel_rfl) (by rfl) (fun K hK => ?_)
      go_simp
      refine hK.out _ _ (fun _ => HSS9.out) (fun hHeld => ?_)
      clear hK K
      have f9 := no_froz0 HE.out.2 6
      have c9 : w9.cell? ⟨O, 6, none⟩ = some (.slice la k lc) := HSS9.out.1
      subst hv9
      refine z_ready 30 #[true, true, true, true, true, true, true, true, true, true, true, true, true, true, true, true, true, true, true, true, true, true, true, true, true, true, true, true, true, true, true] rfl (by kernel_rfl) (by kernel_rfl) (by rfl) (fun K hK => ?_)
      go_simp
      refine hK.out _ _ (fun h => absurd rfl h) (fun _ => ?_)
      clear hK K
      refine z_done (by kernel_rfl) ?_ _
      have HE2 := hide HE.out.1
      rw [← HTK.out] at HE2
      have kw9 : wrap64 ((ii : Int) + 5) = (ii : Int) + 5 := (wr_up _ hiB (by decide) (by decide)).2
      clear hO9 hO9' hg9 hrun HRUN HSS9 HSS3 HN3 HS3 HS8 hW3 b3 ho3 HL9 HE hHeld hS0 f9 c9 HS HTK e0 e1 e2 e3 e4 kz hd HKK hiB hlen HCC HNT kk0 kk1 kk2 kk3 kk4 kw1 kv1 kn1 kt1 kw2 kv2 kn2 kt2 kw3 kv3 kn3 kt3 kw4 kv4 kn4 kt4
      go_wp2_with fail
      go_roundw
      case rel => exact ⟨k + 1, ii + 5, _, by have h1 := HII2.out; have h2 := HNN.out; have h3 := HMLN.out; omega, by go_num, hide (by have := HII2.out; omega), HE2⟩
      case measure => simp [intOf]; omega
    · have hd : decide ((ii : Int) < (nn : Int)) = false := by rw [decide_eq_false_iff_not]; omega
      have hkK : (legsOf M).take k = legsOf M := List.take_of_length_le (by rw [legsOf_len]; have h1 := HII2.out; have h2 := HNN.out; have h3 := HMLN.out; omega)
      rw [hkK] at HS
      obtain ⟨la, lc, hlv⟩ := LG.rm_lt HS.out.own.rm
      subst hlv
      have HBX := HS.out.box
      obtain ⟨y0, y1, y2, y3, y4, y5, y6, y7⟩ := eight_cells HBX rfl
      clear HBX
      go_wp2_with (first
        | (refine wpList_store_row rfl 26 (.tmp 2) _ rfl w.heap.size #[.int .i64 5, .int .i64 0, .int .i64 0, .int .i64 0, .int .i64 0, .int .i64 id, .slice la (legsOf M).length lc, .slice none 0 0] rfl rfl 26 _ HS.out.res ?s2 ?s3 ?s4 ?_)
        | go_in)
      case s2 => kernel_rfl
      case s3 => rfl
      case s4 => first | rfl | kernel_rfl | simp [Value.oneCell']
      have hld := run_loadVar_row (P := Tryz.prog) _ _ 26 26 _ (0, 0) _ (setRow_heap _ _ _ #[.int .i64 5, .int .i64 0, .int .i64 0, .int .i64 0, .int .i64 0, .int .i64 id, .slice la (legsOf M).length lc, .slice none 0 0] _ _ HS.out.res) Tryz.underlying26 rfl (by kernel_rfl)
      refine bodyPost_ret (v := .tuple #[.agg #[.int .i64 5, .int .i64 0, .int .i64 0, .int .i64 0, .int .i64 0, .int .i64 id, .slice la (legsOf M).length lc, .slice none 0 0], .int .i64 0]) ?_ rfl ⟨_, rfl, ?_, below_row HS.out.low (Nat.le_refl _)⟩
      · rw [results_cell_tmp rfl]
        simp [asAddr, Result.andThen, hld]
      · refine owns_blk HS.out.own (fun b hb => setRow_other _ _ _ _ (fun e => ?_))
        obtain ⟨c2, fz, h2⟩ := ownsRow_kind HS.out.own b hb
        rw [e, HS.out.res] at h2
        injection h2 with h2
        injection h2 with _ h2 _
        exact absurd h2 (by decide)
/-- While the document reads keys. -/
structure Qkeys (w W : World) (O : Nat) (lv : Value) (L : List KY.El) : Prop where
  box : W.heap[O]? = some (.cells #[.int .i64 8, .int .i64 0, .int .i64 0, .int .i64 0, .int .i64 0, .int .i64 0, .slice none 0 0, lv] 26 (0, 0))
  own : KY.OM W w.heap.size lv L
  low : Below w.heap.size w W
  base : w.heap.size < O
  res : W.heap[w.heap.size]? = some (.cells #[.int .i64 0, .int .i64 0, .int .i64 0, .int .i64 0, .int .i64 0, .int .i64 0, .slice none 0 0, .slice none 0 0] 26 (0, 0))
theorem Qkeys.later {w W W' : World} {O : Nat} {lv : Value} {L : List KY.El} (h : Qkeys w W O lv L) (hb : Below W.heap.size W W') : Qkeys w W' O lv L :=
  ⟨blk_later h.box hb, h.own.later hb, h.low.trans (hb.mono h.low.size), h.base, blk_later h.res hb⟩
theorem Qkeys.grow {w W W' : World} {O : Nat} {lv v' : Value} {L : List KY.El} {p : KY.El} (h : Qkeys w W O lv L) (ho : KY.OM W' w.heap.size v' (L ++ [p])) (hg : W.grownBy W' lv.ownBlock) :
    Qkeys w (W'.setCell ⟨O, 7, none⟩ v') O v' (L ++ [p]) ∧ W'.heap[O]? = some (.cells #[.int .i64 8, .int .i64 0, .int .i64 0, .int .i64 0, .int .i64 0, .int .i64 0, .slice none 0 0, lv] 26 (0, 0)) := by
  have hne : ∀ b c, W.heap[b]? = some (.cells c 26 (0, 0)) → ¬ some b = lv.ownBlock := fun b c hb e => by
    obtain ⟨c2, fz, h2⟩ := ownsRow_kind h.own b e.symm
    rw [hb] at h2
    injection h2 with h2
    injection h2 with _ h2 _
    exact absurd h2 (by decide)
  have hlt := fun b o (hb : W.heap[b]? = some o) => (Array.getElem?_eq_some_iff.1 hb).1
  have b1 := (hg.block O (hlt _ _ h.box) (hne _ _ h.box)).trans h.box
  have r1 := (hg.block w.heap.size (hlt _ _ h.res) (hne _ _ h.res)).trans h.res
  have l1 : Below w.heap.size w W' := h.low.grown hg h.low.size (fun k hk => (h.own.lt k hk).1)
  have hb := h.base
  refine ⟨⟨set_blk0 b1 7 v' rfl, owns_blk ho (fun g hgb => Below.heap_setCell _ _ _ g (fun e => ?_)), l1.setCell (p := ⟨O, 7, none⟩) (by show w.heap.size ≤ O; omega) v', h.base, (Below.heap_setCell _ _ _ w.heap.size (by show w.heap.size ≠ O; omega)).trans r1⟩, b1⟩
  obtain ⟨c2, fz, h2⟩ := ownsRow_kind ho g hgb
  rw [show g = O from e, b1] at h2
  injection h2 with h2
  injection h2 with _ h2 _
  exact absurd h2 (by decide)
set_option maxRecDepth 100000 in
set_option maxHeartbeats 4000000 in
theorem rdec_ok8 (v : Value) (N : List Int) (w : World) (hv : LN.RM w v (8 :: N)) (hm : N.length % 2 = 0) (hl : N.length ≤ 17592186044000) :
    Calls Tryz.prog 25 #[v] w fun e w' => ∃ lv, e = .returned (.tuple #[.agg #[.int .i64 8, .int .i64 0, .int .i64 0, .int .i64 0, .int .i64 0, .int .i64 0, .slice none 0 0, lv], .int .i64 0]) ∧ KY.OM w' w.heap.size lv (keysOf N) ∧ Below w.heap.size w w' := by
  obtain ⟨g, off, cap, rfl, hcap, hg, hc⟩ := row_some hv (by simp)
  have HF := hide (fun W : World => fixed_any 8 W (by omega) (by omega))
  rw [show (if (8 : Int) ≤ 2 then (3 : Int) else if (8 : Int) ≤ 4 then 4 else if (8 : Int) = 5 ∨ (8 : Int) = 8 then -1 else 1) = -1 by decide] at HF
  have HCC := hide hc
  obtain ⟨M, hM⟩ : ∃ M, N = M := ⟨_, rfl⟩
  have hML : M.length = N.length := by rw [← hM]
  have HNT : Hid (∀ j, nth (8 :: N) (1 + j) = nth M j) := hide (fun j => by
    rw [← hM]; unfold nth; rw [show 1 + j = j + 1 by omega, List.getElem?_cons_succ])
  obtain ⟨nn, hnn⟩ : ∃ n, n = (8 :: N).length := ⟨_, rfl⟩
  have hnn2 : nn = N.length + 1 := hnn
  rw [← hnn] at hcap HCC ⊢
  rw [hM] at hm ⊢
  obtain ⟨m, hmm⟩ : ∃ m : Int, (N.length : Int) = m := ⟨_, rfl⟩
  have k0 : (0 : Int) < (nn : Int) := by omega
  have k01 : (0 : Int) < (nn : Int) := by omega
  have hw : wrap64 ((nn : Int) - 1) = m := by unfold wrap64; omega
  have hw2 : IntKind.i64.wrap ((nn : Int) - 1) = m := by rw [IntKind.wrap_i64]; omega
  have dm : decide (m < 0) = false := by rw [decide_eq_false_iff_not]; omega
  obtain ⟨r, hr⟩ : ∃ r : Int, m.tmod 2 = r := ⟨_, rfl⟩
  have hr2 : m % 2 = r := by rw [← hr, ← hmm]; rfl
  have d2 : (r != 0) = false := by rw [bne_eq_false_iff_eq]; omega
  have HB := hide ((Below.refl w.heap.size w).alloc (Nat.le_refl _) (.cells #[.int .i64 0, .int .i64 0, .int .i64 0, .int .i64 0, .int .i64 0, .int .i64 0, .slice none 0 0, .slice none 0 0] 26))
  have c0 := (HB.out.cell (p := ⟨g, off, none⟩) hg).trans (hc 0 (by simp))
  rw [show nth (8 :: N) 0 = 8 from rfl] at c0
  obtain ⟨i0, hi, hz0, hz1, hz2⟩ := info_parts KY.Tryz.infoMk
  have HII := hide (And.intro hi (And.intro hz0 (And.intro hz1 hz2)))
  have Z1 := two_new w (.cells #[.int .i64 0, .int .i64 0, .int .i64 0, .int .i64 0, .int .i64 0, .int .i64 0, .slice none 0 0, .slice none 0 0] 26) (.cells #[.int .i64 8, .int .i64 0, .int .i64 0, .int .i64 0, .int .i64 0, .int .i64 0, .slice none 0 0, .slice none 0 0] 26)
  have HS0 : Hid (Qkeys w ((w.alloc (.cells #[.int .i64 0, .int .i64 0, .int .i64 0, .int .i64 0, .int .i64 0, .int .i64 0, .slice none 0 0, .slice none 0 0] 26)).alloc (.cells #[.int .i64 8, .int .i64 0, .int .i64 0, .int .i64 0, .int .i64 0, .int .i64 0, .slice none 0 0, .slice none 0 0] 26)) (w.heap.size + 1) (.slice none 0 0) ((keysOf M).take 0)) := hide ⟨Z1.2, by rw [List.take_zero]; exact KY.OM.nil _ _, two_below w _ _, by omega, Z1.1⟩
  have HG := hide hg
  have HNN := hide hnn2
  have HMM := hide hM
  have HMLN := hide hML
  have HMO := hide hm
  clear hi hz0 hz1 hz2 hc hv hg hnn hM Z1 hmm hnn2 hML hm
  go_enter Tryz.func25, Tryz.ntmps25
  go_wp2_with fail
  refine (HF.out _).mono ?_
  rintro e w1 ⟨rfl, rfl⟩
  go_wp2_with fail
  clear c0 k0 k01 hw hw2 dm hr hr2 d2 
  generalize (w.alloc (.cells #[.int .i64 0, .int .i64 0, .int .i64 0, .int .i64 0, .int .i64 0, .int .i64 0, .slice none 0 0, .slice none 0 0] 26)).alloc (.cells #[.int .i64 8, .int .i64 0, .int .i64 0, .int .i64 0, .int .i64 0, .int .i64 0, .slice none 0 0, .slice none 0 0] 26) = W9 at *
  obtain ⟨O, hO⟩ : ∃ O, O = w.heap.size + 1 := ⟨_, rfl⟩
  rw [← hO] at HS0 ⊢
  clear hO
  go_loopw [9] (fun i wr => ∃ (k ii : Nat) (lv : Value), 2 * k ≤ M.length ∧ i = .int .i64 (ii : Int) ∧ Hid (ii = 1 + 2 * k) ∧ Hid (Qkeys w wr O lv ((keysOf M).take k))) (fun i _ => nn - (intOf i).toNat)
  case atStart => exact ⟨0, 1, .slice none 0 0, by omega, rfl, hide rfl, HS0⟩
  case round =>
    clear HS0
    obtain ⟨k, ii, lv, hk, rfl, HII2, HS⟩ := hrel
    by_cases h0 : ii < nn
    · have hkK : k < M.length / 2 := by have h1 := HII2.out; have h2 := HNN.out; have h3 := HMLN.out; have h4 := HMO.out; omega
      have hjn : ii + 2 ≤ nn := by have h1 := HII2.out; have h2 := HNN.out; have h3 := HMLN.out; have h4 := HMO.out; omega
      have hnB : nn ≤ 17592186044001 := by have h2 := HNN.out; omega
      have HTK := hide (keysOf_take hkK)
      have e0 : w.cell? ⟨g, off + ii, none⟩ = some (.int .i64 (nth M (2 * k))) := by
        have h1 := HCC.out (ii) (by omega)
        rw [show nth (8 :: N) (ii) = nth M (2 * k) from by rw [← HNT.out]; exact congrArg _ (by have := HII2.out; omega)] at h1
        exact h1
      have e1 : w.cell? ⟨g, off + ii + 1, none⟩ = some (.int .i64 (nth M (2 * k + 1))) := by
        have h1 := HCC.out (ii + 1) (by omega)
        rw [show nth (8 :: N) (ii + 1) = nth M (2 * k + 1) from by rw [← HNT.out]; exact congrArg _ (by have := HII2.out; omega)] at h1
        exact h1
      generalize nth M (2 * k) = a0 at *
      generalize nth M (2 * k + 1) = a1 at *
      have hlen : ((keysOf M).take k).length = k := by rw [List.length_take, keysOf_len]; omega
      have HKK := hide hkK
      have HMX : Hid (k + 1 ≤ maxLen ∧ (k + 1) * 16 ≤ 140737488355328) := hide (by have h2 := HNN.out; have h3 := HMLN.out; unfold maxLen; omega)
      clear hkK
      have hiB : ii ≤ 17592186044001 := by omega
      generalize (keysOf M).take k = L at *
      obtain ⟨la, lc, hlv⟩ := KY.rm_lt HS.out.own.rm
      rw [hlen] at hlv
      subst hlv
      have hd : decide ((ii : Int) < (nn : Int)) = true := by rw [decide_eq_true_eq]; omega
      have kz : (0 : Int) ≤ (ii : Int) := by omega
      have kk0 : ((ii : Int)) < (nn : Int) := by omega
      have kk1 : ((ii : Int) + 1) < (nn : Int) := (k_up 1 1 rfl (by decide) hjn).1
      have kn1 : (0 : Int) ≤ (ii : Int) + 1 := (k_up 1 1 rfl (by decide) hjn).2.1
      have kt1 : ((ii : Int) + 1).toNat = ii + 1 := (k_up 1 1 rfl (by decide) hjn).2.2
      have kw1 : IntKind.i64.wrap ((ii : Int) + 1) = (ii : Int) + 1 := (wr_up 1 hiB (by decide) (by decide)).1
      have kv1 : wrap64 ((ii : Int) + 1) = (ii : Int) + 1 := (wr_up 1 hiB (by decide) (by decide)).2
      have hS0 : wr.cell? ⟨O, 7, none⟩ = some (.slice la k lc) ∧ wr.cell? ⟨g, off + ii, none⟩ = some (.int .i64 a0) ∧ wr.cell? ⟨g, off + ii + 1, none⟩ = some (.int .i64 a1) ∧ wr.cell? ⟨g, off + (ii + 1), none⟩ = some (.int .i64 a1) := ⟨by rw [cell_of_row _ _ 7 _ _ _ HS.out.box]; rfl, (HS.out.low.cell (p := ⟨g, _, none⟩) HG.out).trans e0, (HS.out.low.cell (p := ⟨g, _, none⟩) HG.out).trans e1, (HS.out.low.cell (p := ⟨g, _, none⟩) HG.out).trans e1⟩
      go_wp2_with fail
      refine z_begins (S := fun W => W.cell? ⟨O, 7, none⟩ = some (.slice la k lc) ∧ W.cell? ⟨g, off + ii, none⟩ = some (.int .i64 a0) ∧ W.cell? ⟨g, off + ii + 1, none⟩ = some (.int .i64 a1) ∧ W.cell? ⟨g, off + (ii + 1), none⟩ = some (.int .i64 a1)) 15 16 #[false, false, false, false, false, false, false, false, false, false, false, false, false, false, false, false] (by kernel_rfl) (by kernel_rfl) (by kernel_rfl) hS0 (fun hHeld => ?_)
      refine zk (v := ?_) 0 140 #[true, false, false, false, false, false, false, false, false, false, false, false, false, false, false, false] rfl rfl (by kernel_rfl) (by kernel_rfl) (by kernel_rfl) (by kernel_rfl) (fun _ _ _ h => h) (by kernel_rfl) (by rfl) ?hy hHeld ?_
      case hy => rintro W ⟨q0, q1, q2, q3⟩; first | (go_simp; done) | (go_simp; with_reducible rfl)
      simp only [List.setIfInBounds_toArray, List.set_cons_zero, List.set_cons_succ]
      refine zk (v := ?_) 1 141 #[true, true, false, false, false, false, false, false, false, false, false, false, false, false, false, false] rfl rfl (by kernel_rfl) (by kernel_rfl) (by kernel_rfl) (by kernel_rfl) (fun _ _ _ h => h) (by kernel_rfl) (by rfl) ?hy hHeld ?_
      case hy => rintro W ⟨q0, q1, q2, q3⟩; first | (go_simp; done) | (go_simp; with_reducible rfl)
      simp only [List.setIfInBounds_toArray, List.set_cons_zero, List.set_cons_succ]
      refine zk (v := ?_) 2 142 #[true, true, true, false, false, false, false, false, false, false, false, false, false, false, false, false] rfl rfl (by kernel_rfl) (by kernel_rfl) (by kernel_rfl) (by kernel_rfl) (fun _ _ _ h => h) (by kernel_rfl) (by rfl) ?hy hHeld ?_
      case hy => rintro W ⟨q0, q1, q2, q3⟩; first | (go_simp; done) | (go_simp; with_reducible rfl)
      simp only [List.setIfInBounds_toArray, List.set_cons_zero, List.set_cons_succ]
      refine zk (v := ?_) 3 143 #[true, true, true, true, false, false, false, false, false, false, false, false, false, false, false, false] rfl rfl (by kernel_rfl) (by kernel_rfl) (by kernel_rfl) (by kernel_rfl) (fun _ _ _ h => h) (by kernel_rfl) (by rfl) ?hy hHeld ?_
      case hy => rintro W ⟨q0, q1, q2, q3⟩; first | (go_simp; done) | (go_simp; with_reducible rfl)
      simp only [List.setIfInBounds_toArray, List.set_cons_zero, List.set_cons_succ]
      refine zk (v := ?_) 4 144 #[true, true, true, true, true, false, false, false, false, false, false, false, false, false, false, false] rfl rfl (by kernel_rfl) (by kernel_rfl) (by kernel_rfl) (by kernel_rfl) (fun _ _ _ h => h) (by kernel_rfl) (by rfl) ?hy hHeld ?_
      case hy => rintro W ⟨q0, q1, q2, q3⟩; first | (go_simp; done) | (go_simp; with_reducible rfl)
      simp only [List.setIfInBounds_toArray, List.set_cons_zero, List.set_cons_succ]
      refine zk (v := ?_) 5 145 #[true, true, true, true, true, true, false, false, false, false, false, false, false, false, false, false] rfl rfl (by kernel_rfl) (by kernel_rfl) (by kernel_rfl) (by kernel_rfl) (fun _ _ _ h => h) (by kernel_rfl) (by rfl) ?hy hHeld ?_
      case hy => rintro W ⟨q0, q1, q2, q3⟩; first | (go_simp; done) | (go_simp; with_reducible rfl)
      simp only [List.setIfInBounds_toArray, List.set_cons_zero, List.set_cons_succ]
      refine zk (v := ?_) 6 146 #[true, true, true, true, true, true, true, false, false, false, false, false, false, false, false, false] rfl rfl (by kernel_rfl) (by kernel_rfl) (by kernel_rfl) (by kernel_rfl) (fun _ _ _ h => h) (by kernel_rfl) (by rfl) ?hy hHeld ?_
      case hy => rintro W ⟨q0, q1, q2, q3⟩; first | (go_simp; done) | (go_simp; with_reducible rfl)
      simp only [List.setIfInBounds_toArray, List.set_cons_zero, List.set_cons_succ]
      refine zk (v := ?_) 7 147 #[true, true, true, true, true, true, true, true, false, false, false, false, false, false, false, false] rfl rfl (by kernel_rfl) (by kernel_rfl) (by kernel_rfl) (by kernel_rfl) (fun _ _ _ h => h) (by kernel_rfl) (by rfl) ?hy hHeld ?_
      case hy => rintro W ⟨q0, q1, q2, q3⟩; first | (go_simp; done) | (go_simp; with_reducible rfl)
      simp only [List.setIfInBounds_toArray, List.set_cons_zero, List.set_cons_succ]
      refine zk (v := ?_) 8 148 #[true, true, true, true, true, true, true, true, true, false, false, false, false, false, false, false] rfl rfl (by kernel_rfl) (by kernel_rfl) (by kernel_rfl) (by kernel_rfl) (fun _ _ _ h => h) (by kernel_rfl) (by rfl) ?hy hHeld ?_
      case hy => rintro W ⟨q0, q1, q2, q3⟩; first | (go_simp; done) | (go_simp; with_reducible rfl)
      simp only [List.setIfInBounds_toArray, List.set_cons_zero, List.set_cons_succ]
      refine zk (v := ?_) 9 149 #[true, true, true, true, true, true, true, true, true, true, false, false, false, false, false, false] rfl rfl (by kernel_rfl) (by kernel_rfl) (by kernel_rfl) (by kernel_rfl) (fun _ _ _ h => h) (by kernel_rfl) (by rfl) ?hy hHeld ?_
      case hy => rintro W ⟨q0, q1, q2, q3⟩; first | (go_simp; done) | (go_simp; with_reducible rfl)
      simp only [List.setIfInBounds_toArray, List.set_cons_zero, List.set_cons_succ]
      refine zk (v := ?_) 10 150 #[true, true, true, true, true, true, true, true, true, true, true, false, false, false, false, false] rfl rfl (by kernel_rfl) (by kernel_rfl) (by kernel_rfl) (by kernel_rfl) (fun _ _ _ h => h) (by kernel_rfl) (by rfl) ?hy hHeld ?_
      case hy => rintro W ⟨q0, q1, q2, q3⟩; first | (go_simp; done) | (go_simp; with_reducible rfl)
      simp only [List.setIfInBounds_toArray, List.set_cons_zero, List.set_cons_succ]
      refine zk (v := ?_) 11 151 #[true, true, true, true, true, true, true, true, true, true, true, true, false, false, false, false] rfl rfl (by kernel_rfl) (by kernel_rfl) (by kernel_rfl) (by kernel_rfl) (fun _ _ _ h => h) (by kernel_rfl) (by rfl) ?hy hHeld ?_
      case hy => rintro W ⟨q0, q1, q2, q3⟩; first | (go_simp; done) | (go_simp; with_reducible rfl)
      simp only [List.setIfInBounds_toArray, List.set_cons_zero, List.set_cons_succ]
      have HS8 := hide (HS.out.later drew_below)
      obtain ⟨W3, hW3⟩ : ∃ W3, wr.drew.alloc (.cells #[.int .i64 a0, .int .i64 a1] 40) = W3 := ⟨_, rfl⟩
      have b3 : Below wr.drew.heap.size wr.drew W3 := by rw [← hW3]; exact (Below.refl _ _).alloc (Nat.le_refl _) _
      have HS3 := hide (HS8.out.later b3)
      have HN3 : Hid (∀ j u, ([.int .i64 a0, .int .i64 a1] : List Value)[j]? = some u → W3.cell? ((⟨wr.heap.size, 0, none⟩ : Addr).add j) = some u) := hide (fun j u hj => by
        rw [← hW3, Addr.add_lit, show wr.heap.size = wr.drew.heap.size from rfl, cell_of_row _ wr.drew.heap.size _ _ _ _ (alloc_new wr.drew _)]
        match j, hj with
        | 0, hj => cases hj; rfl
        | 1, hj => cases hj; rfl)
      have HSS3 : Hid (W3.cell? ⟨O, 7, none⟩ = some (.slice la k lc) ∧ W3.cell? ⟨g, off + ii, none⟩ = some (.int .i64 a0) ∧ W3.cell? ⟨g, off + ii + 1, none⟩ = some (.int .i64 a1) ∧ W3.cell? ⟨g, off + (ii + 1), none⟩ = some (.int .i64 a1)) := hide ⟨by rw [cell_of_row _ _ 7 _ _ _ HS3.out.box]; rfl, (HS3.out.low.cell (p := ⟨g, _, none⟩) HG.out).trans e0, (HS3.out.low.cell (p := ⟨g, _, none⟩) HG.out).trans e1, (HS3.out.low.cell (p := ⟨g, _, none⟩) HG.out).trans e1⟩
      refine z_ready 12 #[true, true, true, true, true, true, true, true, true, true, true, true, true, false, false, false] rfl (by kernel_rfl) (by kernel_rfl) (by rfl) (fun K hK => ?_)
      go_simp
      refine hK.out _ _ (fun _ => HSS3.out) (fun hHeld => ?_)
      clear hK K
      have ho3 := HS3.out.own
      unfold KY.OM at ho3
      rw [hlen] at ho3
      obtain ⟨v9, w9, hrun, hO9, hg9, _⟩ := run_append_own (P := Tryz.prog) W3 w.heap.size 24 24 40 i0 _ 2 16 Tryz.underlying24 HII.out.1 HII.out.2.1 HII.out.2.2.1 HII.out.2.2.2 rfl (by decide) (.slice la k lc) k (KY.mc L) ho3 ⟨wr.heap.size, 0, none⟩ 1 1 [.int .i64 a0, .int .i64 a1] rfl HN3.out (by intro u hu; simp at hu; rcases hu with rfl | rfl <;> rfl) HMX.out.1 HMX.out.2 HS3.out.low.size
      have hO9' : KY.OM w9 w.heap.size v9 (L ++ [(a0, a1)]) := by
        unfold KY.OM
        rw [List.length_append, hlen, KY.mc_app]; exact hO9
      obtain ⟨va, vc, hv9⟩ := KY.rm_lt hO9'.rm
      rw [List.length_append, hlen, List.length_singleton] at hv9
      have HE := hide (HS3.out.grow hO9' hg9)
      have HRUN := hide hrun
      refine z_ready 13 #[true, true, true, true, true, true, true, true, true, true, true, true, true, true, false, false] rfl (by kernel_rfl) (by kernel_rfl) (by rfl) (fun K hK => ?_)
      refine op_append_gen _ _ rfl (.slice la k lc) ⟨wr.heap.size, 0, none⟩ 1 1 rfl rfl _ w9 HRUN.out ?_
      simp only [Act.put, List.setIfInBounds_toArray]
      have HL9 : Below w.heap.size w w9 := HS3.out.low.grown hg9 HS3.out.low.size (fun k hk => (ho3.lt k hk).1)
      have HSS9 : Hid (w9.cell? ⟨O, 7, none⟩ = some (.slice la k lc) ∧ w9.cell? ⟨g, off + ii, none⟩ = some (.int .i64 a0) ∧ w9.cell? ⟨g, off + ii + 1, none⟩ = some (.int .i64 a1) ∧ w9.cell? ⟨g, off + (ii + 1), none⟩ = some (.int .i64 a1)) := hide ⟨by rw [cell_of_row _ _ 7 _ _ _ HE.out.2]; rfl, (HL9.cell (p := ⟨g, _, none⟩) HG.out).trans e0, (HL9.cell (p := ⟨g, _, none⟩) HG.out).trans e1, (HL9.cell (p := ⟨g, _, none⟩) HG.out).trans e1⟩
      refine hK.out _ _ (fun _ => HSS9.out) (fun hHeld => ?_)
      clear hK K
      refine z_ready 14 #[true, true, true, true, true, true, true, true, true, true, true, true, true, true, true, false] rfl (by kernel_rfl) (by kernel_rfl) (by rfl) (fun K hK => ?_)
      go_simp
      refine hK.out _ _ (fun _ => HSS9.out) (fun hHeld => ?_)
      clear hK K
      have f9 := no_froz0 HE.out.2 7
      have c9 : w9.cell? ⟨O, 7, none⟩ = some (.slice la k lc) := HSS9.out.1
      subst hv9
      refine z_ready 15 #[true, true, true, true, true, true, true, true, true, true, true, true, true, true, true, true] rfl (by kernel_rfl) (by kernel_rfl) (by rfl) (fun K hK => ?_)
      go_simp
      refine hK.out _ _ (fun h => absurd rfl h) (fun _ => ?_)
      clear hK K
      refine z_done (by kernel_rfl) ?_ _
      have HE2 := hide HE.out.1
      rw [← HTK.out] at HE2
      have kw9 : wrap64 ((ii : Int) + 2) = (ii : Int) + 2 := (wr_up _ hiB (by decide) (by decide)).2
      clear hO9 hO9' hg9 hrun HRUN HSS9 HSS3 HN3 HS3 HS8 hW3 b3 ho3 HL9 HE hHeld hS0 f9 c9 HS HTK e0 e1 kz hd HKK hiB hlen HCC HNT kk0 kk1 kw1 kv1 kn1 kt1
      go_wp2_with fail
      go_roundw
      case rel => exact ⟨k + 1, ii + 2, _, by have h1 := HII2.out; have h2 := HNN.out; have h3 := HMLN.out; omega, by go_num, hide (by have := HII2.out; omega), HE2⟩
      case measure => simp [intOf]; omega
    · have hd : decide ((ii : Int) < (nn : Int)) = false := by rw [decide_eq_false_iff_not]; omega
      have hkK : (keysOf M).take k = keysOf M := List.take_of_length_le (by rw [keysOf_len]; have h1 := HII2.out; have h2 := HNN.out; have h3 := HMLN.out; omega)
      rw [hkK] at HS
      obtain ⟨la, lc, hlv⟩ := KY.rm_lt HS.out.own.rm
      subst hlv
      have HBX := HS.out.box
      obtain ⟨y0, y1, y2, y3, y4, y5, y6, y7⟩ := eight_cells HBX rfl
      clear HBX
      go_wp2_with (first
        | (refine wpList_store_row rfl 26 (.tmp 2) _ rfl w.heap.size #[.int .i64 8, .int .i64 0, .int .i64 0, .int .i64 0, .int .i64 0, .int .i64 0, .slice none 0 0, .slice la (keysOf M).length lc] rfl rfl 26 _ HS.out.res ?s2 ?s3 ?s4 ?_)
        | go_in)
      case s2 => kernel_rfl
      case s3 => rfl
      case s4 => first | rfl | kernel_rfl | simp [Value.oneCell']
      have hld := run_loadVar_row (P := Tryz.prog) _ _ 26 26 _ (0, 0) _ (setRow_heap _ _ _ #[.int .i64 8, .int .i64 0, .int .i64 0, .int .i64 0, .int .i64 0, .int .i64 0, .slice none 0 0, .slice la (keysOf M).length lc] _ _ HS.out.res) Tryz.underlying26 rfl (by kernel_rfl)
      refine bodyPost_ret (v := .tuple #[.agg #[.int .i64 8, .int .i64 0, .int .i64 0, .int .i64 0, .int .i64 0, .int .i64 0, .slice none 0 0, .slice la (keysOf M).length lc], .int .i64 0]) ?_ rfl ⟨_, rfl, ?_, below_row HS.out.low (Nat.le_refl _)⟩
      · rw [results_cell_tmp rfl]
        simp [asAddr, Result.andThen, hld]
      · refine owns_blk HS.out.own (fun b hb => setRow_other _ _ _ _ (fun e => ?_))
        obtain ⟨c2, fz, h2⟩ := ownsRow_kind HS.out.own b hb
        rw [e, HS.out.res] at h2
        injection h2 with h2
        injection h2 with _ h2 _
        exact absurd h2 (by decide)
theorem rdecode_any (v : Value) (raw : List Int) (w : World) (hv : LN.RM w v raw) (hl : raw.length ≤ 17592186044000) : Calls Tryz.prog 25 #[v] w (RcP w raw) := by
  cases raw with
  | nil => exact rcP_plain rfl rfl rfl rfl (rdec_nil v w hv)
  | cons c N =>
    have hl' : N.length ≤ 17592186044000 := by simp at hl; omega
    by_cases hc : 1 ≤ c ∧ c ≤ 8
    · obtain rfl | rfl | rfl | rfl | rfl | rfl | rfl | rfl : c = 1 ∨ c = 2 ∨ c = 3 ∨ c = 4 ∨ c = 5 ∨ c = 6 ∨ c = 7 ∨ c = 8 := by omega
      · have hx := fxE_1 N.length
        by_cases h1 : (N.length : Int) < 3
        · rw [if_pos h1] at hx
          exact rcP_plain hx (dcO_err (by rw [hx]; decide)) rfl rfl (rdec_short1 v N w hv hl' (by omega))
        · rw [if_neg h1] at hx
          by_cases h2 : 3 < (N.length : Int)
          · rw [if_pos h2] at hx
            exact rcP_plain hx (dcO_err (by rw [hx]; decide)) rfl rfl (rdec_long1 v N w hv hl' (by omega))
          · rw [if_neg h2] at hx
            match N, (show N.length = 3 by omega) with
            | [x0, x1, x2], _ => exact rcP_plain hx ((dcO_ok hx).trans (rdO_1 _)) rfl rfl (rdec_1 v x0 x1 x2 w hv)
      · have hx := fxE_2 N.length
        by_cases h1 : (N.length : Int) < 3
        · rw [if_pos h1] at hx
          exact rcP_plain hx (dcO_err (by rw [hx]; decide)) rfl rfl (rdec_short2 v N w hv hl' (by omega))
        · rw [if_neg h1] at hx
          by_cases h2 : 3 < (N.length : Int)
          · rw [if_pos h2] at hx
            exact rcP_plain hx (dcO_err (by rw [hx]; decide)) rfl rfl (rdec_long2 v N w hv hl' (by omega))
          · rw [if_neg h2] at hx
            match N, (show N.length = 3 by omega) with
            | [x0, x1, x2], _ => exact rcP_plain hx ((dcO_ok hx).trans (rdO_2 _)) rfl rfl (rdec_2 v x0 x1 x2 w hv)
      · have hx := fxE_3 N.length
        by_cases h1 : (N.length : Int) < 4
        · rw [if_pos h1] at hx
          exact rcP_plain hx (dcO_err (by rw [hx]; decide)) rfl rfl (rdec_short3 v N w hv hl' (by omega))
        · rw [if_neg h1] at hx
          by_cases h2 : 4 < (N.length : Int)
          · rw [if_pos h2] at hx
            exact rcP_plain hx (dcO_err (by rw [hx]; decide)) rfl rfl (rdec_long3 v N w hv hl' (by omega))
          · rw [if_neg h2] at hx
            match N, (show N.length = 4 by omega) with
            | [x0, x1, x2, x3], _ => exact rcP_plain hx ((dcO_ok hx).trans (rdO_3 _)) rfl rfl (rdec_3 v x0 x1 x2 x3 w hv)
      · have hx := fxE_4 N.length
        by_cases h1 : (N.length : Int) < 4
        · rw [if_pos h1] at hx
          exact rcP_plain hx (dcO_err (by rw [hx]; decide)) rfl rfl (rdec_short4 v N w hv hl' (by omega))
        · rw [if_neg h1] at hx
          by_cases h2 : 4 < (N.length : Int)
          · rw [if_pos h2] at hx
            exact rcP_plain hx (dcO_err (by rw [hx]; decide)) rfl rfl (rdec_long4 v N w hv hl' (by omega))
          · rw [if_neg h2] at hx
            match N, (show N.length = 4 by omega) with
            | [x0, x1, x2, x3], _ => exact rcP_plain hx ((dcO_ok hx).trans (rdO_4 _)) rfl rfl (rdec_4 v x0 x1 x2 x3 w hv)
      · have hx := fxE_5 N.length
        by_cases h1 : 1 ≤ N.length ∧ (N.length - 1) % 5 = 0
        · rw [if_pos h1] at hx
          refine (rdec_ok5 v N w hv h1.1 (by rw [List.length_drop]; exact h1.2) hl').mono ?_
          rintro e w' ⟨lv, rfl, ho, hb⟩
          refine ⟨lv, .slice none 0 0, ?_, ?_, ?_, hb⟩
          · rw [dcO_ok hx, rdO_5, show dcE (5 :: N) = 0 from hx]; rfl
          · rw [dcO_ok hx, rdO_5]; exact ho
          · rw [dcO_ok hx, rdO_5]; exact KY.OM.nil _ _
        · rw [if_neg h1] at hx
          exact rcP_plain hx (dcO_err (by rw [hx]; decide)) rfl rfl (rdec_short5 v N w hv hl' h1)
      · have hx := fxE_6 N.length
        by_cases h1 : (N.length : Int) < 1
        · rw [if_pos h1] at hx
          exact rcP_plain hx (dcO_err (by rw [hx]; decide)) rfl rfl (rdec_short6 v N w hv hl' (by omega))
        · rw [if_neg h1] at hx
          by_cases h2 : 1 < (N.length : Int)
          · rw [if_pos h2] at hx
            exact rcP_plain hx (dcO_err (by rw [hx]; decide)) rfl rfl (rdec_long6 v N w hv hl' (by omega))
          · rw [if_neg h2] at hx
            match N, (show N.length = 1 by omega) with
            | [x0], _ => exact rcP_plain hx ((dcO_ok hx).trans (rdO_6 _)) rfl rfl (rdec_6 v x0 w hv)
      · have hx := fxE_7 N.length
        by_cases h1 : (N.length : Int) < 1
        · rw [if_pos h1] at hx
          exact rcP_plain hx (dcO_err (by rw [hx]; decide)) rfl rfl (rdec_short7 v N w hv hl' (by omega))
        · rw [if_neg h1] at hx
          by_cases h2 : 1 < (N.length : Int)
          · rw [if_pos h2] at hx
            exact rcP_plain hx (dcO_err (by rw [hx]; decide)) rfl rfl (rdec_long7 v N w hv hl' (by omega))
          · rw [if_neg h2] at hx
            match N, (show N.length = 1 by omega) with
            | [x0], _ => exact rcP_plain hx ((dcO_ok hx).trans (rdO_7 _)) rfl rfl (rdec_7 v x0 w hv)
      · have hx := fxE_8 N.length
        by_cases h1 : 0 ≤ N.length ∧ (N.length - 0) % 2 = 0
        · rw [if_pos h1] at hx
          refine (rdec_ok8 v N w hv h1.2 hl').mono ?_
          rintro e w' ⟨lv, rfl, ho, hb⟩
          refine ⟨.slice none 0 0, lv, ?_, ?_, ?_, hb⟩
          · rw [dcO_ok hx, rdO_8, show dcE (8 :: N) = 0 from hx]; rfl
          · rw [dcO_ok hx, rdO_8]; exact LG.OM.nil _ _
          · rw [dcO_ok hx, rdO_8]; exact ho
        · rw [if_neg h1] at hx
          exact rcP_plain hx (dcO_err (by rw [hx]; decide)) rfl rfl (rdec_short8 v N w hv hl' h1)
    · exact rcP_plain (fxE_0 hc) (dcO_err (by rw [fxE_0 hc]; decide)) rfl rfl (rdec_bad v c N w hv hl' hc)
end Go.Proofs.YtdiamlajmcikhaaGreatDoor
