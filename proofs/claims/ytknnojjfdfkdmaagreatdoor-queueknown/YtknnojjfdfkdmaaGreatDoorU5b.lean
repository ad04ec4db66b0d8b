/-
  My own text: layer 19: slices.Compact of a row of keys; rising.
-/
import Derived.Test.YtknnojjfdfkdmaaGreatDoorU5
import Derived.Test.YtknnojjfdfkdmaaGreatDoorGKA
import Derived.Laws.IdiomCopy
namespace Go.Proofs.YtknnojjfdfkdmaaGreatDoor
open Go.RowKit

theorem grown_trans {w w1 w2 : World} {r : Option Nat} (h : w.grownBy w1 r) (k : w1.grownBy w2 r) : w.grownBy w2 r :=
  ⟨k.os.trans h.os, k.tape.trans h.tape, k.output.trans h.output, Nat.le_trans h.size k.size, fun b hb hn => (k.block b (Nat.lt_of_lt_of_le hb h.size) hn).trans (h.block b hb hn)⟩
theorem grown_refl (w : World) (r : Option Nat) : w.grownBy w r := ⟨rfl, rfl, rfl, Nat.le_refl _, fun _ _ _ => rfl⟩
theorem grown_dN {w w1 : World} {r : Option Nat} (h : w.grownBy w1 r) (q : Nat) : w.grownBy (w1.drewN q) r := ⟨h.os, h.tape, h.output, h.size, h.block⟩
/-- Cells of an own row from a place on, set. -/
theorem setCells_own {B g n cap s : Nat} {e : TypeId} : ∀ (vs : List Value) (o : Nat) (w : World) (xs : List Value), w.ownsRow B e s (.slice (some ⟨g, 0, none⟩) n cap) n xs → ∃ xs', (w.setCells g o vs).ownsRow B e s (.slice (some ⟨g, 0, none⟩) n cap) n xs' ∧ xs'.take o = xs.take o ∧ w.grownBy (w.setCells g o vs) (some g)
  | [], o, w, xs, h => ⟨xs, h, rfl, grown_refl w _⟩
  | v :: r, o, w, xs, h => by
    obtain ⟨s0, g0⟩ := h.stored o v
    obtain ⟨xs', h1, h2, h3⟩ := setCells_own r (o + 1) _ _ s0
    refine ⟨xs', h1, ?_, grown_trans g0 h3⟩
    have e1 : xs'.take o = (xs'.take (o + 1)).take o := by rw [List.take_take, Nat.min_eq_left (Nat.le_succ o)]
    rw [e1, h2, List.take_take, Nat.min_eq_left (Nat.le_succ o), List.take_set_of_le (Nat.le_refl o)]
theorem own_cut {w : World} {B g n cap s k : Nat} {e : TypeId} {xs : List Value} (h : w.ownsRow B e s (.slice (some ⟨g, 0, none⟩) n cap) n xs) (hk : k ≤ n) : w.ownsRow B e s (.slice (some ⟨g, 0, none⟩) k cap) k (xs.take (k * s)) := by
  have hl := h.1
  rcases h.2 with ⟨hv, _⟩ | ⟨g', cap', cur, hv, hb, hh, hn, hm, hsz, ht⟩
  · cases hv
  · injection hv with e1 e2 e3
    injection e1 with e4
    injection e4 with e5 e6 e7
    subst e5 e3
    have hks : k * s ≤ n * s := Nat.mul_le_mul_right s hk
    refine ⟨by rw [List.length_take, hl, Nat.min_eq_left hks], .inr ⟨_, _, cur, rfl, hb, hh, by omega, hm, hsz, ?_⟩⟩
    rw [← ht, List.take_take, Nat.min_eq_left hks]
theorem zeros2 (m : Nat) : (Builtin.zeroCells (Value.agg #[.int .i64 0, .int .i64 0]).cells m).toList = List.replicate (m * 2) (.int .i64 0) := by
  have hc : (Value.agg #[.int .i64 0, .int .i64 0]).cells = #[.int .i64 0, .int .i64 0] := rfl
  rw [hc]
  apply List.ext_getElem
  · simp [Builtin.zeroCells]
  · intro i h1 h2
    simp only [Builtin.zeroCells]
    rcases Nat.mod_two_eq_zero_or_one i with h | h <;> simp [h]
theorem run_clear2 (w : World) (ty : TypeId) (g o n c : Nat) (hn : 0 < n) (hc : ∀ j, j < n * 2 → (w.cell? ⟨g, o + j, none⟩).isSome = true) (hf : ∀ j, j < n * 2 → w.frozen? ⟨g, o + j, none⟩ = false) :
    (Builtin.clear_ #[24] ty #[.slice (some ⟨g, o, none⟩) n c]).run Tryz.prog w = .ok (.tuple #[]) (w.setCells g o (List.replicate (n * 2) (.int .i64 0))) := by
  have hst := run_storeCells_cells (P := Tryz.prog) g o (List.replicate (n * 2) (.int .i64 0)) 0 w (by simpa using hc) (by simpa using hf) (by intro v hv'; rw [List.eq_of_mem_replicate hv']; rfl)
  simp only [Nat.add_zero] at hst
  have hv : ∀ w, (zeroValue 23).run Tryz.prog w = .ok (.agg #[.int .i64 0, .int .i64 0]) w := fun w => by kernel_rfl
  obtain ⟨m, rfl⟩ : ∃ m, n = m + 1 := ⟨n - 1, by omega⟩
  simp [Builtin.clear_, run_underlying Tryz.underlying24, hv, zeros2, hst]
/-- What the inner loop keeps: p of L are seen, k of them kept. -/
structure CI (L R : List Ky) (p k : Nat) : Prop where
  len : R.length = L.length
  low : R.take k = dd (L.take p)
  is : k = (dd (L.take p)).length
  high : R.drop (p - 1) = L.drop (p - 1)
  lt : k + 1 ≤ p
theorem CI.at {L R : List Ky} {p k j : Nat} (h : CI L R p k) (hj : p - 1 ≤ j) : R[j]? = L[j]? := by
  have := congrArg (fun l => l[j - (p - 1)]?) h.high
  simp only [List.getElem?_drop] at this
  rw [show p - 1 + (j - (p - 1)) = j by omega] at this
  exact this
theorem CI.skip {L R : List Ky} {p k : Nat} {x : Ky} (h : CI L R (p + 1) k) (hx : L[p]? = some x) (hy : L[p + 1]? = some x) : CI L R (p + 2) k := by
  have e := dd_take hx hy
  rw [if_pos rfl] at e
  refine ⟨h.len, by rw [e]; exact h.low, by rw [e]; exact h.is, ?_, by have := h.lt; omega⟩
  have := h.high
  rw [Nat.add_sub_cancel] at this
  rw [show p + 2 - 1 = p + 1 by omega, ← List.drop_drop, ← List.drop_drop, Nat.add_comm] at *
  first
    | (rw [← List.drop_drop, this, List.drop_drop])
    | (rw [this])
theorem CI.keep {L R : List Ky} {p k : Nat} {x y : Ky} (h : CI L R (p + 1) k) (hx : L[p]? = some x) (hy : L[p + 1]? = some y) (hne : ¬ x = y) : CI L (R.set k y) (p + 2) (k + 1) := by
  have e := dd_take hx hy
  rw [if_neg hne] at e
  have hlt := h.lt
  have hp : p + 1 < L.length := (List.getElem?_eq_some_iff.1 hy).1
  have hkR : k < R.length := by rw [h.len]; omega
  refine ⟨by rw [List.length_set]; exact h.len, ?_, by rw [e, List.length_append, ← h.is]; rfl, ?_, by omega⟩
  · rw [e, ← h.low, List.take_add_one, List.getElem?_set_self hkR, List.take_set_of_le (Nat.le_refl k)]; rfl
  · refine List.ext_getElem? (fun j => ?_)
    rw [List.getElem?_drop, List.getElem?_drop, List.getElem?_set_ne (by omega)]
    exact h.at (by omega)
theorem CI.start {L : List Ky} {m : Nat} {x : Ky} (hd : dd (L.take (m + 1)) = L.take (m + 1)) (hx : L[m]? = some x) (hy : L[m + 1]? = some x) : CI L L (m + 2) (m + 1) := by
  have e := dd_take hx hy
  rw [if_pos rfl, hd] at e
  have hp : m + 1 < L.length := (List.getElem?_eq_some_iff.1 hy).1
  exact ⟨rfl, e.symm, by rw [e, List.length_take]; omega, rfl, by omega⟩
theorem dd_two {L : List Ky} (h : L.length < 2) : dd L = L := by
  match L, h with
  | [], _ => rfl
  | [x], _ => rfl
theorem om_shape {w : World} {B : Nat} {v : Value} {L : List Ky} (h : KY.OM w B v L) (h0 : 0 < L.length) : ∃ g cap, v = .slice (some ⟨g, 0, none⟩) L.length cap ∧ L.length ≤ cap ∧ (∀ j p, L[j]? = some p → w.cell? ⟨g, j * 2, none⟩ = some (.int .i64 p.1) ∧ w.cell? ⟨g, j * 2 + 1, none⟩ = some (.int .i64 p.2)) ∧ ∀ j, w.frozen? ⟨g, j, none⟩ = false := by
  rcases h.2 with ⟨_, hn⟩ | ⟨g, cap, cur, rfl, hg, hh, hn, hm, hsz, hc⟩
  · omega
  refine ⟨g, cap, rfl, hn, fun j p hj => ?_, fun j => World.ownsRow.frozenAt h j⟩
  have hjl := (List.getElem?_eq_some_iff.1 hj).1
  obtain ⟨e0, e1⟩ := KY.mc_at hj
  exact ⟨(World.ownsRow.cellAt h (j * 2) (by omega)).trans e0, (World.ownsRow.cellAt h (j * 2 + 1) (by omega)).trans e1⟩
theorem om_facts {w : World} {B g n cap : Nat} {R : List Ky} (h : KY.OM w B (.slice (some ⟨g, 0, none⟩) n cap) R) : (∀ j p, R[j]? = some p → w.cell? ⟨g, j * 2, none⟩ = some (.int .i64 p.1) ∧ w.cell? ⟨g, j * 2 + 1, none⟩ = some (.int .i64 p.2)) ∧ ∀ j, w.frozen? ⟨g, j, none⟩ = false := by
  have hl : R.length = n := by
    rcases h.2 with ⟨hv, _⟩ | ⟨g', cap', cur, hv, _⟩
    · cases hv
    · injection hv with e1 e2 e3
      exact e2.symm
  subst hl
  refine ⟨fun j p hj => ?_, fun j => World.ownsRow.frozenAt h j⟩
  have hjl := (List.getElem?_eq_some_iff.1 hj).1
  obtain ⟨e0, e1⟩ := KY.mc_at hj
  exact ⟨(World.ownsRow.cellAt h (j * 2) (by omega)).trans e0, (World.ownsRow.cellAt h (j * 2 + 1) (by omega)).trans e1⟩
theorem ci_nums {K p r N kk n : Nat} (hp : p = r + 1) (hlt : p < N) (hn : n = K + N) (hk : kk < n) (hm : n ≤ 8796093022208) : (p : Int) - 1 = (r : Int) ∧ (0 : Int) ≤ (r : Int) ∧ (r : Int) < (N : Int) ∧ (0 : Int) ≤ (p : Int) ∧ (p : Int) < (N : Int) ∧ (0 : Int) ≤ (kk : Int) ∧ (kk : Int) < (n : Int) ∧ decide ((p : Int) < (N : Int)) = true ∧ wrap64 (r : Int) = (r : Int) ∧ IntKind.i64.wrap (r : Int) = (r : Int) ∧ wrap64 ((p : Int) + 1) = (p : Int) + 1 ∧ wrap64 ((kk : Int) + 1) = (kk : Int) + 1 := by
  refine ⟨by omega, by omega, by omega, by omega, by omega, by omega, by omega, by rw [decide_eq_true_eq]; omega, by unfold wrap64; omega, by rw [IntKind.wrap_i64]; omega, by unfold wrap64; omega, by unfold wrap64; omega⟩
theorem meas_up {p N : Nat} (h : p < N) : N - (intOf (.int .i64 ((p : Int) + 1))).toNat < N - (intOf (.int .i64 (p : Int))).toNat := by
  show N - ((p : Int) + 1).toNat < N - (p : Int).toNat
  omega
theorem KY.mc_takeN : ∀ (R : List Ky) (k : Nat), KY.mc (R.take k) = (KY.mc R).take (k * 2)
  | [], k => by simp [KY.mc]
  | x :: t, 0 => by simp [KY.mc]
  | x :: t, k + 1 => by
    show _ :: _ :: KY.mc (t.take k) = _
    rw [KY.mc_takeN t k, show (k + 1) * 2 = k * 2 + 1 + 1 by omega]
    rfl
theorem om_set {w : World} {B g cap i n : Nat} {R : List Ky} (h : KY.OM w B (.slice (some ⟨g, 0, none⟩) n cap) R) (hn : R.length = n) (x : Ky) : KY.OM ((w.setCell ⟨g, i * 2, none⟩ (.int .i64 x.1)).setCell ⟨g, i * 2 + 1, none⟩ (.int .i64 x.2)) B (.slice (some ⟨g, 0, none⟩) n cap) (R.set i x) ∧ w.grownBy ((w.setCell ⟨g, i * 2, none⟩ (.int .i64 x.1)).setCell ⟨g, i * 2 + 1, none⟩ (.int .i64 x.2)) (some g) := by
  have h1 := h
  unfold KY.OM at h1
  rw [hn] at h1
  obtain ⟨s0, g0⟩ := h1.stored (i * 2) (.int .i64 x.1)
  obtain ⟨s1, g1⟩ := s0.stored (i * 2 + 1) (.int .i64 x.2)
  refine ⟨?_, grown_trans g0 g1⟩
  unfold KY.OM
  rw [List.length_set, hn, KY.mc_set]
  exact s1
set_option maxRecDepth 100000 in
set_option maxHeartbeats 4000000 in
theorem compactK_any (v : Value) (B : Nat) (L : List Ky) (w : World) (h : KY.OM w B v L) (hl : L.length ≤ 8796093022208) :
    Calls Tryz.prog 46 #[v] w fun e w' => ∃ v', e = .returned v' ∧ KY.OM w' B v' (dd L) ∧ w.grownBy w' v.ownBlock := by
  by_cases h2 : L.length < 2
  · have HD := hide (dd_two h2)
    have HO := hide h
    obtain ⟨a, cap, rfl⟩ := KY.OM.slice h
    have d1 : decide ((L.length : Int) < 2) = true := by rw [decide_eq_true_eq]; omega
    clear h
    go_enter Tryz.func46, Tryz.ntmps46
    go_wp2_with fail
    go_ret
    exact ⟨_, rfl, by rw [HD.out]; exact HO.out, grown_refl _ _⟩
  obtain ⟨g, cap, rfl, hcap, hcs, hfz⟩ := om_shape h (by omega)
  have d1 : decide ((L.length : Int) < 2) = false := by rw [decide_eq_false_iff_not]; omega
  have HO := hide h
  have HCS := hide hcs
  have HCAP := hide hcap
  clear h hcs hfz hcap
  show Calls Tryz.prog 46 #[.slice (some ⟨g, 0, none⟩) L.length cap] w fun e w' => ∃ v', e = .returned v' ∧ KY.OM w' B v' (dd L) ∧ w.grownBy w' (some g)
  go_enter Tryz.func46, Tryz.ntmps46
  go_wp2_with fail
  go_loopw [3] (fun i wr => ∃ K m q : Nat, Hid (K = m + 1) ∧ K ≤ L.length ∧ i = .int .i64 (K : Int) ∧ Hid (wr = w.drewN q) ∧ Hid (dd (L.take K) = L.take K)) (fun i _ => L.length - (intOf i).toNat)
  case atStart => exact ⟨1, 0, 0, hide rfl, by omega, rfl, hide rfl, hide (dd_two (by rw [List.length_take]; omega))⟩
  case round =>
    obtain ⟨K, m, q, HK, hm, rfl, HQ, HD⟩ := hrel
    by_cases hlt : K < L.length
    · obtain ⟨⟨x0, x1⟩, hx⟩ : ∃ p, L[K]? = some p := ⟨_, List.getElem?_eq_getElem hlt⟩
      obtain ⟨⟨y0, y1⟩, hy⟩ : ∃ p, L[m]? = some p := ⟨_, List.getElem?_eq_getElem (by have := HK.out; omega)⟩
      have c0 : wr.cell? ⟨g, K * 2, none⟩ = some (.int .i64 x0) := by rw [HQ.out]; exact (HCS.out _ _ hx).1
      have c1 : wr.cell? ⟨g, K * 2 + 1, none⟩ = some (.int .i64 x1) := by rw [HQ.out]; exact (HCS.out _ _ hx).2
      have e0 : wr.cell? ⟨g, m * 2, none⟩ = some (.int .i64 y0) := by rw [HQ.out]; exact (HCS.out _ _ hy).1
      have e1 : wr.cell? ⟨g, m * 2 + 1, none⟩ = some (.int .i64 y1) := by rw [HQ.out]; exact (HCS.out _ _ hy).2
      have hd : decide ((K : Int) < (L.length : Int)) = true := by rw [decide_eq_true_eq]; omega
      have hs1 : (K : Int) - 1 = (m : Int) := by have := HK.out; omega
      have k0 : (0 : Int) ≤ (m : Int) := by omega
      have k1 : (m : Int) < (L.length : Int) := by have := HK.out; omega
      have k2 : (0 : Int) ≤ (K : Int) := by omega
      have k3 : (K : Int) < (L.length : Int) := by omega
      have wk : wrap64 ((m : Int)) = (m : Int) := by unfold wrap64; omega
      have wk2 : IntKind.i64.wrap (m : Int) = (m : Int) := by rw [IntKind.wrap_i64]; omega
      have ev := KY.eqMk x0 x1 y0 y1
      have HX := hide hx
      have HY := hide hy
      clear hx hy
      cases hE : (x0 == y0 && x1 == y1) with
      | true =>
        rw [hE] at ev
        have HXE : Hid (L[K]? = some (y0, y1)) := hide (by
          simp only [Bool.and_eq_true, beq_iff_eq] at hE
          have := HX.out
          rw [hE.1, hE.2] at this
          exact this)
        have hc := HCAP.out
        clear hE HX
        go_wp2_with fail
        go_quiet (fail)
        have HQ2 : Hid (wr.drewN nq = w.drewN (q + nq)) := hide (by rw [HQ.out]; simp [World.drewN, Nat.add_assoc])
        generalize wr.drewN nq = W2 at HQ2 ⊢
        clear c0 c1 e0 e1
        go_wp2_with fail
        have HSt := hide (CI.start (by rw [← HK.out]; exact HD.out) HY.out (by rw [← HK.out]; exact HXE.out))
        have HO2 : Hid (KY.OM W2 B (.slice (some ⟨g, 0, none⟩) L.length cap) L) := hide (by rw [HQ2.out]; exact HO.out)
        have HG2 : Hid (w.grownBy W2 (some g)) := hide (by rw [HQ2.out]; exact grown_dN (grown_refl w _) _)
        obtain ⟨N, hN⟩ : ∃ N, L.length - K = N := ⟨_, rfl⟩
        have HNN : Hid (L.length = K + N) := hide (by omega)
        have hN1 : 1 ≤ N := by omega
        rw [hN]
        clear hN HQ HQ2 HD HXE HY ev hs1 wk wk2 HCS
        go_loopw [3, 5] (fun i j wr => ∃ (kk p r : Nat) (R : List Ky), Hid (p = r + 1) ∧ p ≤ N ∧ i = .int .i64 (kk : Int) ∧ j = .int .i64 (p : Int) ∧ Hid (CI L R (K + p) kk) ∧ Hid (KY.OM wr B (.slice (some ⟨g, 0, none⟩) L.length cap) R) ∧ Hid (w.grownBy wr (some g))) (fun _ j _ => N - (intOf j).toNat)
        case atStart => exact ⟨K, 1, 0, L, hide rfl, hN1, rfl, rfl, hide (by have := HSt.out; have e := HK.out; rw [show m + 2 = K + 1 by omega, ← e] at this; exact this), HO2, HG2⟩
        case round =>
          clear HSt HO2 HG2
          obtain ⟨kk, p, r, R, HP, hp, rfl, rfl, HI, HR, HG⟩ := hrel
          by_cases hltp : p < N
          · have hI := HI.out
            have hNN := HNN.out
            have hpp := HP.out
            have hRl : R.length = L.length := hI.len
            obtain ⟨hcs, hfz⟩ := om_facts HR.out
            have hklt : kk < L.length := by have := hI.lt; omega
            obtain ⟨⟨a0, a1⟩, ha⟩ : ∃ z, L[K + p]? = some z := ⟨_, List.getElem?_eq_getElem (by omega)⟩
            obtain ⟨⟨b0, b1⟩, hb⟩ : ∃ z, L[K + r]? = some z := ⟨_, List.getElem?_eq_getElem (by omega)⟩
            have haR : R[K + p]? = some (a0, a1) := by rw [hI.at (by omega)]; exact ha
            have hbR : R[K + r]? = some (b0, b1) := by rw [hI.at (by omega)]; exact hb
            obtain ⟨⟨d0, d1'⟩, hdR⟩ : ∃ z, R[kk]? = some z := ⟨_, List.getElem?_eq_getElem (by omega)⟩
            have c0 : wr.cell? ⟨g, K * 2 + p * 2, none⟩ = some (.int .i64 a0) := by rw [← Nat.add_mul]; exact (hcs _ _ haR).1
            have c1 : wr.cell? ⟨g, K * 2 + p * 2 + 1, none⟩ = some (.int .i64 a1) := by rw [← Nat.add_mul]; exact (hcs _ _ haR).2
            have f0 : wr.cell? ⟨g, K * 2 + r * 2, none⟩ = some (.int .i64 b0) := by rw [← Nat.add_mul]; exact (hcs _ _ hbR).1
            have f1 : wr.cell? ⟨g, K * 2 + r * 2 + 1, none⟩ = some (.int .i64 b1) := by rw [← Nat.add_mul]; exact (hcs _ _ hbR).2
            have o0 : wr.cell? ⟨g, kk * 2, none⟩ = some (.int .i64 d0) := (hcs _ _ hdR).1
            have o1 : wr.cell? ⟨g, kk * 2 + 1, none⟩ = some (.int .i64 d1') := (hcs _ _ hdR).2
            have z0 := hfz (kk * 2)
            have z1 := hfz (kk * 2 + 1)
            obtain ⟨hs1, q0, q1, q2, q3, q4, q5, hdp, wk, wk2, wp1, wp2⟩ := ci_nums hpp hltp hNN hklt hl
            have ev := KY.eqMk a0 a1 b0 b1
            have HAB := hide (And.intro ha hb)
            have HKN := hide hklt
            clear ha hb haR hbR hdR hcs hfz hI hNN hpp hRl hklt
            cases hE : (a0 == b0 && a1 == b1) with
            | true =>
              rw [hE] at ev
              have HI2 : Hid (CI L R (K + (p + 1)) kk) := hide (by
                simp only [Bool.and_eq_true, beq_iff_eq] at hE
                have h1 := HAB.out.1
                rw [hE.1, hE.2, show K + p = K + r + 1 by have := HP.out; omega] at h1
                have h2 := HI.out
                rw [show K + p = K + r + 1 by have := HP.out; omega] at h2
                have := h2.skip HAB.out.2 h1
                rw [show K + r + 2 = K + (p + 1) by have := HP.out; omega] at this
                exact this)
              clear hE
              go_wp2_with fail
              go_quiet (fail)
              have HR2 : Hid (KY.OM (wr.drewN nq) B (.slice (some ⟨g, 0, none⟩) L.length cap) R) := hide HR.out
              have HG2 := hide (grown_dN HG.out nq)
              go_wp2_with fail
              go_roundw
              case rel => exact ⟨kk, p + 1, p, R, hide rfl, hltp, by first | rfl | (rw [wp2]; rfl), by first | rfl | (rw [wp1]; rfl), HI2, HR2, HG2⟩
              case measure => first | exact meas_up hltp | (rw [wp1]; exact meas_up hltp)
            | false =>
              rw [hE] at ev
              have HI2 : Hid (CI L (R.set kk (a0, a1)) (K + (p + 1)) (kk + 1)) := hide (by
                have h1 := HAB.out.1
                rw [show K + p = K + r + 1 by have := HP.out; omega] at h1
                have h2 := HI.out
                rw [show K + p = K + r + 1 by have := HP.out; omega] at h2
                have := h2.keep HAB.out.2 h1 (fun e => by
                  simp only [Prod.mk.injEq] at e
                  rw [e.1, e.2] at hE
                  simp at hE)
                rw [show K + r + 2 = K + (p + 1) by have := HP.out; omega] at this
                exact this)
              clear hE
              go_wp2_with fail
              go_quiet (fail)
              have hst := om_set (i := kk) (w := wr.drewN nq) HR.out HI.out.len (a0, a1)
              have HR2 := hide hst.1
              have HG2 := hide (grown_trans (grown_dN HG.out nq) hst.2)
              clear hst
              go_wp2_with fail
              go_roundw
              case rel => exact ⟨kk + 1, p + 1, p, R.set kk (a0, a1), hide rfl, hltp, by first | rfl | (rw [wp2]; rfl), by first | rfl | (rw [wp1]; rfl), HI2, HR2, HG2⟩
              case measure => first | exact meas_up hltp | (rw [wp1]; exact meas_up hltp)
          · have hI := HI.out
            have hNN := HNN.out
            have hpN : p = N := by omega
            have hdp : decide ((p : Int) < (N : Int)) = false := by rw [decide_eq_false_iff_not]; omega
            have hRl : R.length = L.length := hI.len
            obtain ⟨hcs, hfz⟩ := om_facts HR.out
            have hklt : kk < L.length := by have := hI.lt; omega
            have hc := HCAP.out
            obtain ⟨xs', hx1, hx2, hx3⟩ := setCells_own (B := B) (g := g) (n := L.length) (cap := cap) (List.replicate ((L.length - kk) * 2) (.int .i64 0)) (kk * 2) wr (KY.mc R) (by have := HR.out; unfold KY.OM at this; rw [hRl] at this; exact this)
            have hcut := own_cut (k := kk) hx1 (by omega)
            rw [hx2] at hcut
            have hdd : dd L = R.take kk := by
              have := hI.low
              rw [List.take_of_length_le (by omega : L.length ≤ K + p)] at this
              exact this.symm
            have HRes : Hid (KY.OM (wr.setCells g (kk * 2) (List.replicate ((L.length - kk) * 2) (.int .i64 0))) B (.slice (some ⟨g, 0, none⟩) kk cap) (dd L)) := hide (by
              rw [hdd]
              unfold KY.OM
              rw [List.length_take, hRl, Nat.min_eq_left (by omega), KY.mc_takeN]
              exact hcut)
            have HG2 := hide (grown_trans HG.out hx3)
            have hcl : ∀ ty, (Builtin.clear_ #[24] ty #[.slice (some ⟨g, kk * 2, none⟩) (L.length - kk) (cap - kk)]).run Tryz.prog wr = .ok (.tuple #[]) (wr.setCells g (kk * 2) (List.replicate ((L.length - kk) * 2) (.int .i64 0))) :=
              fun ty => run_clear2 wr ty g (kk * 2) _ _ (by omega) (fun j hj => by
                obtain ⟨z, hz⟩ : ∃ z, R[kk + j / 2]? = some z := ⟨_, List.getElem?_eq_getElem (by omega)⟩
                rcases Nat.mod_two_eq_zero_or_one j with h | h
                · rw [show kk * 2 + j = (kk + j / 2) * 2 by omega, (hcs _ _ hz).1]; rfl
                · rw [show kk * 2 + j = (kk + j / 2) * 2 + 1 by omega, (hcs _ _ hz).2]; rfl) (fun j hj => hfz _)
            generalize wr.setCells g (kk * 2) (List.replicate ((L.length - kk) * 2) (.int .i64 0)) = W3 at HRes HG2 hcl
            have q4 : (0 : Int) ≤ (kk : Int) := by omega
            have q5 : (kk : Int) ≤ (L.length : Int) := by omega
            have q6 : (kk : Int) ≤ (cap : Int) := by omega
            clear hcs hfz hI hNN hpN hRl hx1 hx2 hx3 hcut hdd
            go_wp2_with fail
            go_ret
            exact ⟨_, rfl, HRes.out, HG2.out⟩
      | false =>
        rw [hE] at ev
        have HN : Hid (¬ (y0, y1) = (x0, x1)) := hide (fun e => by
          simp only [Prod.mk.injEq] at e
          rw [e.1, e.2] at hE
          simp at hE)
        clear hE
        go_wp2_with fail
        go_quiet (fail)
        have HQ2 : Hid (wr.drewN nq = w.drewN (q + nq)) := hide (by rw [HQ.out]; simp [World.drewN, Nat.add_assoc])
        have HD2 : Hid (dd (L.take (K + 1)) = L.take (K + 1)) := hide (by
          have e := dd_take HY.out (by rw [← HK.out]; exact HX.out)
          rw [if_neg HN.out, show m + 2 = K + 1 by have := HK.out; omega, ← HK.out, HD.out] at e
          rw [e, List.take_add_one, HX.out]; rfl)
        go_wp2_with fail
        go_roundw
        case rel => exact ⟨K + 1, K, q + nq, hide rfl, by omega, by go_num, HQ2, HD2⟩
        case measure => simp [intOf]; omega
    · have hd : decide ((K : Int) < (L.length : Int)) = false := by rw [decide_eq_false_iff_not]; omega
      have HF : Hid (dd L = L) := hide (by have := HD.out; rw [List.take_of_length_le (by omega)] at this; exact this)
      go_wp2_with fail
      go_ret
      refine ⟨_, rfl, ?_, ?_⟩
      · rw [HF.out, HQ.out]; exact HO.out
      · rw [HQ.out]; exact grown_dN (grown_refl w _) q
end Go.Proofs.YtknnojjfdfkdmaaGreatDoor
