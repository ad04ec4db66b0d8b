/-
  My own text: rows of texts: the same? one more; two heaps.
-/
import Derived.Test.YtolmngjppnmkoaaSB3
import Derived.Test.YtolmngjppnmkoaaSM
import Derived.Test.YtolmngjppnmkoaaPX4
namespace Go.Proofs.Ytolmngjppnmkoaa.SG
open Go.RowKit

/-- A row of texts. -/
def RT (w : World) (v : Value) (L : List St) : Prop := ∃ a cap, v = .slice a L.length cap ∧ (L = [] ∨ ∃ b off, a = some ⟨b, off, none⟩ ∧ b < w.heap.size ∧ ∀ (j : Nat) (s : St), L[j]? = some s → w.cell? ⟨b, off + j, none⟩ = some (.string ⟨s.toArray⟩))
theorem RT.later {w w' : World} {v : Value} {L : List St} (h : RT w v L) (hb : Below w.heap.size w w') : RT w' v L := by
  obtain ⟨a, cap, hv, h⟩ := h
  refine ⟨a, cap, hv, ?_⟩
  rcases h with h | ⟨b, off, ha, hlt, hc⟩
  · exact .inl h
  · exact .inr ⟨b, off, ha, Nat.lt_of_lt_of_le hlt hb.size, fun j s hj => (hb.cell (p := ⟨b, _, none⟩) hlt).trans (hc j s hj)⟩
theorem RT.slc {w : World} {v : Value} {L : List St} (h : RT w v L) : ∃ a cap, v = .slice a L.length cap := ⟨_, _, h.choose_spec.choose_spec.1⟩
theorem OS.rt {w : World} {B : Nat} {v : Value} {L : List St} (h : OS w B v L) : RT w v L := by
  have h' := h
  rcases h.2 with ⟨rfl, h0⟩ | ⟨g, cap, cur, rfl, hb, hh, hn, h3⟩
  · exact ⟨none, 0, by rw [h0], .inl (List.eq_nil_of_length_eq_zero h0)⟩
  · refine ⟨_, cap, rfl, .inr ⟨g, 0, rfl, blk_lt hh, fun j s hj => ?_⟩⟩
    rw [Nat.zero_add]
    exact OS.cell h' hj
theorem OS.lat {w w' : World} {B : Nat} {v : Value} {L : List St} (h : OS w B v L) (hb : Below w.heap.size w w') : OS w' B v L := owns_lat h hb
theorem tc_one : ∀ (l : List St), ∀ u ∈ tc l, u.oneCell' = true
  | p :: t, u, h => by
    rcases List.mem_cons.1 h with rfl | h
    · rfl
    · exact tc_one t u h
/-- One text more. -/
theorem wp_append_st {ops : Array Oper} {rest : List Oper} {o : Oper} {a : Act} {Q : Exit → Act → World → Prop} (w : World) (B : Nat) (hgd : o.guard = none) (s x : Operand)
    (ho : o.op = .call { callee := .builtin .append, args := #[s, x], argTypes := #[54, 54] }) (v : Value) (L : List St) (hs : a.eval s = v) (hO : OS w B v L) (b : Nat) (p : St) (hx : a.eval x = .slice (some ⟨b, 0, none⟩) 1 1) (hb : w.heap[b]? = some (.cells #[.string ⟨p.toArray⟩] 9 (0, 0))) (hn : L.length + 1 ≤ 8796093022208) (hB : B ≤ w.heap.size)
    (h : ∀ v' w', OS w' B v' (L ++ [p]) → w.grownBy w' v.ownBlock → (∀ g, v'.ownBlock = some g → v.ownBlock = some g ∨ w.heap.size ≤ g) → wpList Try.prog ops Q rest (a.put o.dst v') w') : wpList Try.prog ops Q (o :: rest) a w := by
  obtain ⟨i0, hi, hz0, hz1, hz2⟩ := info_parts Try.infoStr
  obtain ⟨v', w', hrun, r1, r2, r3⟩ := run_append_own2 (P := Try.prog) w B 54 o.type 9 i0 _ 1 16 Try.underlying54 hi hz0 hz1 hz2 rfl (by decide) v L.length (tc L) hO ⟨b, 0, none⟩ 1 1 (tc [p]) rfl (fun j u hj => by
    rw [Addr.add_lit, cell_of_row _ _ _ _ _ _ hb]
    match j, hj with
    | 0, hj => exact hj) (tc_one [p]) (by unfold maxLen; omega) (by omega) hB
  have r1' : OS w' B v' (L ++ [p]) := by
    unfold OS
    rw [List.length_append, show tc (L ++ [p]) = tc L ++ tc [p] by unfold tc; simp]; exact r1
  refine wpList_plain hgd fun K hK => ?_
  unfold Oper.wp
  simp [execOp, ho, resolve, invoke, builtin, hs, hx, hrun, Result.andThen]
  exact hK _ _ (h v' w' r1' r2 r3)
set_option maxRecDepth 100000 in
set_option maxHeartbeats 2000000 in
theorem sameT_any (va vb : Value) (L : List St) (w : World) (ha : RT w va L) (hb : RT w vb L) (hl : L.length ≤ 4611686018427387904) :
    Calls Try.prog 34 #[va, vb] w fun e w' => e = .returned (.bool true) ∧ Below w.heap.size w w' := by
  have HA := hide ha
  have HB := hide hb
  obtain ⟨aa, ca, rfl⟩ := ha.slc
  obtain ⟨ab, cb, rfl⟩ := hb.slc
  obtain ⟨n, hn⟩ : ∃ n, Hid (L.length = n) := ⟨_, hide rfl⟩
  have HL := hide hl
  rw [hn.out] at HA HB ⊢
  clear ha hb hl
  go_enter Try.func34, Try.ntmps34
  go_wp2_with fail
  go_loopw [5] (fun i wr => ∃ t : Nat, t ≤ n ∧ i = .int .i64 (t : Int) ∧ Hid (Below w.heap.size w wr)) (fun i _ => n - (intOf i).toNat)
  case atStart => exact ⟨0, Nat.zero_le _, rfl, hide (Below.refl _ _)⟩
  case round =>
    obtain ⟨t, ht, rfl, HW⟩ := hrel
    by_cases htn : t < n
    · have d1 : decide ((t : Int) < (n : Int)) = true := by rw [decide_eq_true_eq]; omega
      have k0 : (0 : Int) ≤ (t : Int) := by omega
      have k1 : (t : Int) < (n : Int) := by omega
      have wt : wrap64 ((t : Int) + 1) = (t : Int) + 1 := wrap_up htn (by have := HL.out; have := hn.out; omega)
      obtain ⟨s, hs⟩ : ∃ s, L[t]? = some s := ⟨_, List.getElem?_eq_getElem (by rw [hn.out]; exact htn)⟩
      obtain ⟨_, _, ev, hcv⟩ := HA.out.later HW.out
      obtain ⟨_, _, ei, hci⟩ := HB.out.later HW.out
      injection ev with ev
      injection ei with ei
      obtain ⟨bv, ov, ha, _, hv⟩ := hcv.resolve_left (fun e => by rw [e] at hs; simp at hs)
      obtain ⟨bi, oi, hb, _, hi⟩ := hci.resolve_left (fun e => by rw [e] at hs; simp at hs)
      rw [ha] at ev
      rw [hb] at ei
      subst ev
      subst ei
      have x0 := hv t s hs
      have y0 := hi t s hs
      clear hs hv hi hcv hci
      go_wp2_with fail
      go_quiet (fail)
      have HW2 := hide (below_dq HW.out nq)
      clear x0 y0
      go_wp2_with fail
      go_roundw
      case rel => exact ⟨t + 1, htn, by first | rfl | (rw [wt]; rfl), HW2⟩
      case measure => first | exact meas_lt htn | (rw [wt]; exact meas_lt htn)
    · have d1 : decide ((t : Int) < (n : Int)) = false := by rw [decide_eq_false_iff_not]; omega
      go_wp2_with fail
      go_ret
      exact ⟨rfl, HW.out⟩
/-- Two heaps that know nothing of one another. -/
structure Two (w : World) (lf : FuncId) (k : St → Int) (B1 hb1 lb1 : Nat) (v1 : Value) (R1 : List En) (N1 : Nat) (B2 hb2 lb2 : Nat) (v2 : Value) (R2 : List En) (N2 : Nat) : Prop where
  h : HQ w B1 hb1 lb1 lf k v1 R1 N1
  g : HQ w B2 hb2 lb2 lf k v2 R2 N2
  ne : hb1 ≠ hb2
  ap : ∀ q, v1.ownBlock = some q → v2.ownBlock ≠ some q
theorem Two.symm {w : World} {lf : FuncId} {k : St → Int} {B1 hb1 lb1 : Nat} {v1 : Value} {R1 : List En} {N1 : Nat} {B2 hb2 lb2 : Nat} {v2 : Value} {R2 : List En} {N2 : Nat} (h : Two w lf k B1 hb1 lb1 v1 R1 N1 B2 hb2 lb2 v2 R2 N2) : Two w lf k B2 hb2 lb2 v2 R2 N2 B1 hb1 lb1 v1 R1 N1 :=
  ⟨h.g, h.h, Ne.symm h.ne, fun q e1 e2 => h.ap q e2 e1⟩
theorem Two.later {w w' : World} {lf : FuncId} {k : St → Int} {B1 hb1 lb1 : Nat} {v1 : Value} {R1 : List En} {N1 : Nat} {B2 hb2 lb2 : Nat} {v2 : Value} {R2 : List En} {N2 : Nat} (h : Two w lf k B1 hb1 lb1 v1 R1 N1 B2 hb2 lb2 v2 R2 N2) (hb : Below w.heap.size w w') : Two w' lf k B1 hb1 lb1 v1 R1 N1 B2 hb2 lb2 v2 R2 N2 :=
  ⟨h.h.later hb, h.g.later hb, h.ne, h.ap⟩
theorem HQ.own_lt {w : World} {B hb lb : Nat} {lf : FuncId} {k : St → Int} {v : Value} {R : List En} {N : Nat} (h : HQ w B hb lb lf k v R N) : ∀ g, v.ownBlock = some g → g < w.heap.size := fun g hg => by
  obtain ⟨_, cs, hc⟩ := h.own g hg; exact blk_lt hc
/-- The first changed. -/
theorem Two.left {w w' : World} {lf : FuncId} {k : St → Int} {B1 hb1 lb1 : Nat} {v1 v1' : Value} {R1 R1' : List En} {N1 N1' : Nat} {B2 hb2 lb2 : Nat} {v2 : Value} {R2 : List En} {N2 : Nat} (h : Two w lf k B1 hb1 lb1 v1 R1 N1 B2 hb2 lb2 v2 R2 N2) (hq : HQ w' B1 hb1 lb1 lf k v1' R1' N1') (hf : Fq w w' hb1 v1 v1') : Two w' lf k B1 hb1 lb1 v1' R1' N1' B2 hb2 lb2 v2 R2 N2 := by
  refine ⟨hq, h.g.keep hf.size (fun g hg => ?_), h.ne, fun q e1 e2 => ?_⟩
  · rcases hg with rfl | rfl | e
    · obtain ⟨cs, hc⟩ := h.g.hdr
      refine hf.block _ (blk_lt hc) (Ne.symm h.ne) (fun e => ?_)
      obtain ⟨_, cs', hc'⟩ := h.h.own _ e.symm
      rw [hc] at hc'; injection hc' with hc'; injection hc' with _ hc'; exact absurd hc' (by decide)
    · have q := h.h.ne h.g.les (by decide) (by decide)
      exact hf.block _ (blk_lt h.g.les) q.1 q.2
    · obtain ⟨_, cs, hc⟩ := h.g.own _ e
      refine hf.block _ (blk_lt hc) (fun e' => ?_) (fun e' => h.ap _ e'.symm e)
      obtain ⟨cs', hc'⟩ := h.h.hdr
      rw [e', hc'] at hc; injection hc with hc; injection hc with _ hc; exact absurd hc (by decide)
  · rcases hf.own q e1 with e | e
    · exact h.ap q e e2
    · have := h.g.own_lt q e2; omega
theorem Two.right {w w' : World} {lf : FuncId} {k : St → Int} {B1 hb1 lb1 : Nat} {v1 : Value} {R1 : List En} {N1 : Nat} {B2 hb2 lb2 : Nat} {v2 v2' : Value} {R2 R2' : List En} {N2 N2' : Nat} (h : Two w lf k B1 hb1 lb1 v1 R1 N1 B2 hb2 lb2 v2 R2 N2) (hq : HQ w' B2 hb2 lb2 lf k v2' R2' N2') (hf : Fq w w' hb2 v2 v2') : Two w' lf k B1 hb1 lb1 v1 R1 N1 B2 hb2 lb2 v2' R2' N2' :=
  (h.symm.left hq hf).symm
end Go.Proofs.Ytolmngjppnmkoaa.SG
