/-
  My own text: layer 11: the document's Less and Keys.
-/
import Derived.Test.YtgeholiagcckoaaGreatDoorRK1
import Derived.Test.YtgeholiagcckoaaGreatDoorRF7
import Derived.Test.YtgeholiagcckoaaGreatDoorGAM
import Derived.Test.YtgeholiagcckoaaGreatDoorGKA
import Derived.Test.YtgeholiagcckoaaGreatDoorQRs
import Derived.Deep.DeepCutAuto
namespace Go.Proofs.YtgeholiagcckoaaGreatDoor
open Go.RowKit

set_option maxRecDepth 100000 in
set_option maxHeartbeats 1000000 in
theorem lessR_any (a0 a1 b0 b1 : Int) (w : World) : Calls Tryz.prog 78 #[.agg #[.int .i64 a0, .int .i64 a1], .agg #[.int .i64 b0, .int .i64 b1]] w fun e w' => e = .returned (.bool (decide (ltR (a0, a1) (b0, b1)))) ∧ Below w.heap.size w w' := by
  have B0 := hide (((Below.refl w.heap.size w).alloc (Nat.le_refl _) (.cells #[.int .i64 a0, .int .i64 a1] 26)).alloc (by simp) (.cells #[.int .i64 b0, .int .i64 b1] 26))
  by_cases h1 : a0 < b0
  · have hd : decide (ltR (a0, a1) (b0, b1)) = true := decide_eq_true (.inl h1)
    rw [hd]
    go_enter Tryz.func78, Tryz.ntmps78
    go_wp2_with fail
    go_ret
    exact ⟨rfl, B0.out⟩
  · by_cases h2 : a0 = b0
    · by_cases h3 : a1 < b1
      · have hd : decide (ltR (a0, a1) (b0, b1)) = true := decide_eq_true (.inr ⟨h2, h3⟩)
        rw [hd]
        subst h2
        go_enter Tryz.func78, Tryz.ntmps78
        go_wp2_with fail
        go_ret
        exact ⟨rfl, B0.out⟩
      · have hd : decide (ltR (a0, a1) (b0, b1)) = false := decide_eq_false (fun h => h.elim h1 (fun k => h3 k.2))
        rw [hd]
        subst h2
        go_enter Tryz.func78, Tryz.ntmps78
        go_wp2_with fail
        go_ret
        exact ⟨rfl, B0.out⟩
    · have hd : decide (ltR (a0, a1) (b0, b1)) = false := decide_eq_false (fun h => h.elim h1 (fun k => h2 k.1))
      rw [hd]
      have h4 : (a0 == b0) = false := by simp [h2]
      have h5 : decide (a0 = b0) = false := decide_eq_false h2
      go_enter Tryz.func78, Tryz.ntmps78
      go_wp2_with fail
      go_ret
      exact ⟨rfl, B0.out⟩
theorem grown_trans {w w1 w2 : World} {r : Option Nat} (h : w.grownBy w1 r) (k : w1.grownBy w2 r) : w.grownBy w2 r :=
  ⟨k.os.trans h.os, k.tape.trans h.tape, k.output.trans h.output, Nat.le_trans h.size k.size, fun b hb hn => (k.block b (Nat.lt_of_lt_of_le hb h.size) hn).trans (h.block b hb hn)⟩
theorem om_set {w : World} {B g cap i n : Nat} {R : List (Int × Int)} (h : KY.OM w B (.slice (some ⟨g, 0, none⟩) n cap) R) (hn : R.length = n) (x : Int × Int) : KY.OM ((w.setCell ⟨g, i * 2, none⟩ (.int .i64 x.1)).setCell ⟨g, i * 2 + 1, none⟩ (.int .i64 x.2)) B (.slice (some ⟨g, 0, none⟩) n cap) (R.set i x) ∧ w.grownBy ((w.setCell ⟨g, i * 2, none⟩ (.int .i64 x.1)).setCell ⟨g, i * 2 + 1, none⟩ (.int .i64 x.2)) (some g) := by
  have h1 := h
  unfold KY.OM at h1
  rw [hn] at h1
  obtain ⟨s0, g0⟩ := h1.stored (i * 2) (.int .i64 x.1)
  obtain ⟨s1, g1⟩ := s0.stored (i * 2 + 1) (.int .i64 x.2)
  refine ⟨?_, grown_trans g0 g1⟩
  unfold KY.OM
  rw [List.length_set, hn, KY.mc_set]
  exact s1
theorem four_later {W W' : World} {g i j : Nat} {a b c d : Value} (h : W.cell? ⟨g, i, none⟩ = some a ∧ W.cell? ⟨g, i + 1, none⟩ = some b ∧ W.cell? ⟨g, j, none⟩ = some c ∧ W.cell? ⟨g, j + 1, none⟩ = some d) (hg : g < W.heap.size) (hb : Below W.heap.size W W') : W'.cell? ⟨g, i, none⟩ = some a ∧ W'.cell? ⟨g, i + 1, none⟩ = some b ∧ W'.cell? ⟨g, j, none⟩ = some c ∧ W'.cell? ⟨g, j + 1, none⟩ = some d :=
  ⟨(hb.cell (p := ⟨g, i, none⟩) hg).trans h.1, (hb.cell (p := ⟨g, i + 1, none⟩) hg).trans h.2.1, (hb.cell (p := ⟨g, j, none⟩) hg).trans h.2.2.1, (hb.cell (p := ⟨g, j + 1, none⟩) hg).trans h.2.2.2⟩
theorem om_blk {w : World} {B : Nat} {v : Value} {L : List (Int × Int)} (h : KY.OM w B v L) (h0 : 0 < L.length) : ∃ g cap, v = .slice (some ⟨g, 0, none⟩) L.length cap ∧ B ≤ g ∧ g < w.heap.size ∧ ∀ (j : Nat) (p : Int × Int), L[j]? = some p → w.cell? ⟨g, j * 2, none⟩ = some (.int .i64 p.1) ∧ w.cell? ⟨g, j * 2 + 1, none⟩ = some (.int .i64 p.2) := by
  rcases h.2 with ⟨_, h1⟩ | ⟨g, cap, cur, rfl, hg, hh, hc, hm, hz, ht⟩
  · omega
  · refine ⟨g, cap, rfl, hg, (Array.getElem?_eq_some_iff.1 hh).1, fun j p hj => ?_⟩
    have hl := (List.getElem?_eq_some_iff.1 hj).1
    have at' : ∀ i, i < L.length * 2 → w.cell? ⟨g, i, none⟩ = (KY.mc L)[i]? := fun i hi => by
      rw [cell_of_row _ _ _ _ _ _ hh, ← ht, List.getElem?_take_of_lt hi, Array.getElem?_toList]
    rw [at' _ (by omega), at' _ (by omega)]
    exact KY.mc_at hj
theorem om_fz {w : World} {B g n cap : Nat} {L : List (Int × Int)} (h : KY.OM w B (.slice (some ⟨g, 0, none⟩) n cap) L) : ∀ i, w.frozen? ⟨g, i, none⟩ = false := by
  rcases h.2 with ⟨hv, _⟩ | ⟨g', cap', cur, hv, _, hh, _⟩
  · cases hv
  · injection hv with e1 _ _
    injection e1 with e1
    injection e1 with e1
    subst e1
    intro i
    simp [World.frozen?, hh]
theorem meas_dnR (k : Nat) : (intOf (.int .i64 (k : Int))).toNat < (intOf (.int .i64 ((k + 1 : Nat) : Int))).toNat := by
  show (k : Int).toNat < ((k + 1 : Nat) : Int).toNat
  omega
/-- The row that is being put in order. -/
structure IR (w0 w : World) (v : Value) (A : List (Int × Int)) (x : Int × Int) (k : Nat) : Prop where
  om : KY.OM w w0.heap.size v (atR A x k)
  bl : Below w0.heap.size w0 w
  kl : k ≤ A.length
  lo : ∀ y ∈ A.drop k, ltR x y
theorem IR.later {w0 w w' : World} {v : Value} {A : List (Int × Int)} {x : Int × Int} {k : Nat} (h : IR w0 w v A x k) (hb : Below w.heap.size w w') : IR w0 w' v A x k := ⟨owns_lat h.om hb, h.bl.trans (hb.mono h.bl.size), h.kl, h.lo⟩
/-- x goes one down. -/
theorem IR.down {w0 w : World} {g n cap k : Nat} {A : List (Int × Int)} {x y : Int × Int} (h : IR w0 w (.slice (some ⟨g, 0, none⟩) n cap) A x (k + 1)) (hy : A[k]? = some y) (hxy : ltR x y) (hg : w0.heap.size ≤ g) :
    IR w0 ((((w.setCell ⟨g, (k + 1) * 2, none⟩ (.int .i64 y.1)).setCell ⟨g, (k + 1) * 2 + 1, none⟩ (.int .i64 y.2)).setCell ⟨g, k * 2, none⟩ (.int .i64 x.1)).setCell ⟨g, k * 2 + 1, none⟩ (.int .i64 x.2)) (.slice (some ⟨g, 0, none⟩) n cap) A x k := by
  have hn : (atR A x (k + 1)).length = n := by
    rcases h.om.2 with ⟨hv, _⟩ | ⟨g', cap', cur, hv, _⟩
    · cases hv
    · injection hv with _ e _; exact e.symm
  obtain ⟨s1, g1⟩ := om_set (i := k + 1) h.om hn y
  obtain ⟨s2, g2⟩ := om_set (i := k) s1 (by rw [List.length_set]; exact hn) x
  rw [atR_down hy] at s2
  have hgr := grown_trans g1 g2
  refine ⟨s2, ⟨hgr.os.trans h.bl.os, hgr.tape.trans h.bl.tape, hgr.output.trans h.bl.output, Nat.le_trans h.bl.size hgr.size, fun z hz => (hgr.block z (Nat.lt_of_lt_of_le hz h.bl.size) (fun e => by injection e with e; omega)).trans (h.bl.block z hz)⟩, by have := h.kl; omega, fun z hz => ?_⟩
  have hl := (List.getElem?_eq_some_iff.1 hy).1
  rw [List.drop_eq_getElem_cons hl, (List.getElem?_eq_some_iff.1 hy).2] at hz
  rcases List.mem_cons.1 hz with rfl | hz
  · exact hxy
  · exact h.lo z hz
theorem rm_boxR {w : World} {x : Int × Int} : KY.RM (w.alloc (.cells #[.int .i64 x.1, .int .i64 x.2] 26)) (.slice (some ⟨w.heap.size, 0, none⟩) 1 1) [x] := by
  have hn := alloc_new w (.cells #[.int .i64 x.1, .int .i64 x.2] 26)
  refine ⟨_, _, rfl, Nat.le_refl _, .inr ⟨w.heap.size, 0, rfl, (Array.getElem?_eq_some_iff.1 hn).1, fun j p hj => ?_⟩⟩
  match j, hj with
  | 0, hj =>
    obtain rfl : x = p := Option.some.inj hj
    rw [cell_of_row _ _ _ _ _ _ hn, cell_of_row _ _ _ _ _ _ hn]
    exact ⟨rfl, rfl⟩
theorem wpList_append_kR {w : World} {ops : Array Oper} {rest : List Oper} {o : Oper} {a : Act} {Q : Exit → Act → World → Prop} (hgd : o.guard = none) (s x : Operand)
    (ho : o.op = .call { callee := .builtin .append, args := #[s, x], argTypes := #[31, 31] }) (B : Nat) (v : Value) (M : List (Int × Int)) (hs : a.eval s = v) (hown : KY.OM w B v M) (u : Value) (L : List (Int × Int)) (hu : a.eval x = u) (hx : KY.RM w u L) (hn : M.length + L.length ≤ 8796093022208) (hB : B ≤ w.heap.size)
    (h : ∀ v' w', KY.OM w' B v' (M ++ L) → w.grownBy w' v.ownBlock → wpList Tryz.prog ops Q rest (a.put o.dst v') w') :
    wpList Tryz.prog ops Q (o :: rest) a w := by
  refine wpList_plain hgd fun K hK => ?_
  obtain ⟨v', w', hr, h2, h3⟩ := KY.run_append_rm w B o.type v M hown u L hx hn hB
  unfold Oper.wp execOp
  simp only [ho, resolve, invoke, builtin, Sem.run_bind, Sem.run_pure, Result.andThen_ok, List.map_toArray, List.map_cons, List.map_nil, hs, hu, hr]
  exact hK _ _ (h v' w' h2 h3)
theorem below_gr {w0 w w' : World} {v : Value} {L : List (Int × Int)} (hb : Below w0.heap.size w0 w) (ho : KY.OM w w0.heap.size v L) (hg : w.grownBy w' v.ownBlock) : Below w0.heap.size w0 w' := by
  refine ⟨hg.os.trans hb.os, hg.tape.trans hb.tape, hg.output.trans hb.output, Nat.le_trans hb.size hg.size, fun y hy => (hg.block y (Nat.lt_of_lt_of_le hy hb.size) (fun e => ?_)).trans (hb.block y hy)⟩
  rcases ho.2 with ⟨rfl, _⟩ | ⟨g, cap, cur, rfl, hB, _⟩
  · cases e
  · have : y = g := Option.some.inj e
    omega
theorem IR.done0 {w0 w : World} {v : Value} {A : List (Int × Int)} {x : Int × Int} (h : IR w0 w v A x 0) (hA : SrR A) : SrR (atR A x 0) := atR_srt hA h.lo (fun y hy => by rw [List.take_zero] at hy; cases hy)
theorem IR.done1 {w0 w : World} {v : Value} {A : List (Int × Int)} {x y : Int × Int} {k : Nat} (h : IR w0 w v A x (k + 1)) (hA : SrR A) (hy : A[k]? = some y) (hn : ¬ ltR x y) : SrR (atR A x (k + 1)) := atR_srt hA h.lo (take_low hA hy hn)
theorem perm_up {R : List Rw} {j : Nat} {p : Rw} {L : List (Int × Int)} (hp : R[j]? = some p) (hL : L.Perm ((R.take j).map (·.1))) (k : Nat) : (atR L p.1 k).Perm ((R.take (j + 1)).map (·.1)) := by
  rw [List.take_add_one, hp, List.map_append]
  exact (atR_perm L p.1 k).trans (hL.append_right _)
theorem meas_upR {k n : Nat} (h : k < n) : n - (intOf (.int .i64 ((k + 1 : Nat) : Int))).toNat < n - (intOf (.int .i64 (k : Int))).toNat := by
  show n - ((k + 1 : Nat) : Int).toNat < n - (k : Int).toNat
  omega
theorem wrR1 {n : Nat} (h : n ≤ 8796093022000) : wrap64 ((n : Int) + 1) = ((n + 1 : Nat) : Int) ∧ wrap64 (((n + 1 : Nat) : Int) - 1) = (n : Int) ∧ IntKind.i64.wrap (((n + 1 : Nat) : Int) - 1) = (n : Int) := by
  refine ⟨by unfold wrap64; omega, by unfold wrap64; omega, by rw [IntKind.wrap_i64]; omega⟩
set_option maxRecDepth 100000 in
set_option maxHeartbeats 8000000 in
/-- Keys: rising, each key once. -/
theorem rKeys_any (B rb : Nat) (sh : Int) (R : List Rw) (D : List (Int × Bool)) (vr vd : Value) (kk : Nat) (H : Nat → Prop) (w : World) (h : RF B w rb sh R D vr vd kk H) (hl : kk ≤ 8796093021999) :
    Calls Tryz.prog 49 #[.pointer (some ⟨rb, 0, none⟩)] w fun e w' => ∃ v L, e = .returned v ∧ KY.OM w' w.heap.size v L ∧ SrR L ∧ L.Perm (R.map (·.1)) ∧ Below w.heap.size w w' := by
  have c0 : w.cell? ⟨rb, 1, none⟩ = some vr := by rw [cell_of_row _ _ 1 _ _ _ h.hdr]; rfl
  have hrl := h.len.1
  obtain ⟨a, cap, rfl, hc⟩ := h.rows.rowAt
  have HC := hide hc
  have HC0 := hide c0
  have HRL : Hid (R.length ≤ 8796093021999) := hide (by omega)
  clear h hc c0 hrl
  go_enter Tryz.func49, Tryz.ntmps49
  go_wp2_with fail
  go_loopw [3, 4] (fun v i wr => ∃ (j : Nat) (L : List (Int × Int)), j ≤ R.length ∧ i = .int .i64 (j : Int) ∧ Hid (KY.OM wr w.heap.size v L ∧ SrR L ∧ L.Perm ((R.take j).map (·.1)) ∧ Below w.heap.size w wr)) (fun _ i _ => R.length - (intOf i).toNat)
  case atStart => exact ⟨0, [], Nat.zero_le _, rfl, hide ⟨KY.OM.nil _ _, List.Pairwise.nil, List.Perm.refl _, Below.refl _ _⟩⟩
  case round =>
    obtain ⟨j, L, hj, rfl, HI⟩ := hrel
    have z0 : wr.cell? ⟨rb, 1, none⟩ = some (.slice a R.length cap) := (HI.out.2.2.2.cell (p := ⟨rb, 1, none⟩) (World.block_lt_of_cell? _ _ HC0.out)).trans HC0.out
    by_cases hlt : j < R.length
    · obtain ⟨⟨⟨x0, x1⟩, vs, vv⟩, hp⟩ : ∃ p, R[j]? = some p := ⟨_, List.getElem?_eq_getElem hlt⟩
      obtain ⟨g0, off, rfl, d0, d1, d2⟩ := HC.out j _ hp
      have e0 := (HI.out.2.2.2.cell (World.block_lt_of_cell? _ _ d0)).trans d0
      have e1 := (HI.out.2.2.2.cell (World.block_lt_of_cell? _ _ d1)).trans d1
      dsimp only at e0 e1
      have HP := hide hp
      have HLT := hide hlt
      have HPM : Hid (L.Perm ((R.take j).map (·.1))) := hide HI.out.2.2.1
      have HSR : Hid (SrR L) := hide HI.out.2.1
      have HLL : Hid (L.length = j) := hide (by rw [HPM.out.length_eq, List.length_map, List.length_take]; omega)
      have hd1 : decide ((j : Int) < (R.length : Int)) = true := by rw [decide_eq_true_eq]; omega
      have j0 : (0 : Int) ≤ (j : Int) := by omega
      have j1 : (j : Int) < (R.length : Int) := by omega
      have wk := (wrR1 (n := j) (by have := HRL.out; omega)).1
      have B1 : Hid (Below wr.heap.size wr (wr.alloc (.cells #[.int .i64 x0, .int .i64 x1] 26))) := hide ((Below.refl _ _).alloc (Nat.le_refl _) _)
      have HM1 : Hid (KY.OM (wr.alloc (.cells #[.int .i64 x0, .int .i64 x1] 26)) w.heap.size u3 L) := hide (owns_lat HI.out.1 B1.out)
      have HB1 : Hid (Below w.heap.size w (wr.alloc (.cells #[.int .i64 x0, .int .i64 x1] 26))) := hide (HI.out.2.2.2.trans (B1.out.mono HI.out.2.2.2.size))
      have HR1 : Hid (KY.RM (wr.alloc (.cells #[.int .i64 x0, .int .i64 x1] 26)) (.slice (some ⟨wr.heap.size, 0, none⟩) 1 1) [(x0, x1)]) := hide (rm_boxR (x := (x0, x1)))
      clear d0 d1 d2 hp hj hlt
      go_wp2_with (first
        | (at_builtin; refine wpList_append_kR rfl _ _ rfl w.heap.size _ L rfl HM1.out _ [(x0, x1)] rfl HR1.out ?c1 ?c2 ?_))
      case c1 => have := HLL.out; have := HLT.out; have := HRL.out; show L.length + 1 ≤ _; omega
      case c2 => exact HB1.out.size
      intro v4 w4 ho hg
      have HIR0 : Hid (IR w w4 v4 L (x0, x1) L.length) := hide ⟨by rw [atR_end]; exact ho, below_gr HB1.out HM1.out hg, Nat.le_refl _, fun y hy => by rw [List.drop_length] at hy; cases hy⟩
      obtain ⟨g, cp, hv, hgB, _, _⟩ := om_blk ho (by simp)
      obtain ⟨n, hn⟩ : ∃ n, (L ++ [(x0, x1)]).length = n := ⟨_, rfl⟩
      rw [hn] at hv
      subst hv
      have HG := hide hgB
      have HNN : Hid (n = L.length + 1) := hide (by rw [← hn]; simp)
      have wn : wrap64 ((n : Int) - 1) = (L.length : Int) := by rw [HNN.out]; exact (wrR1 (n := L.length) (by have := HLL.out; have := HLT.out; have := HRL.out; omega)).2.1
      have HKB : Hid (L.length ≤ 8796093021999) := hide (by have := HLL.out; have := HLT.out; have := HRL.out; omega)
      clear ho hg hgB hn HM1 HR1 HB1 B1 HI e0 e1 z0 hd1 j0 j1
      go_wp2_with fail
      go_loopw [5] (fun i wr => ∃ k : Nat, i = .int .i64 (k : Int) ∧ Hid (IR w wr (.slice (some ⟨g, 0, none⟩) n cp) L (x0, x1) k)) (fun i _ => (intOf i).toNat)
      case atStart => exact ⟨L.length, by first | rfl | rw [wn], HIR0⟩
      case round =>
        clear HIR0 wn
        obtain ⟨k, rfl, HIR⟩ := hrel
        cases k with
        | zero =>
          have HIRd : Hid (IR w wr.drew (.slice (some ⟨g, 0, none⟩) n cp) L (x0, x1) 0) := hide (HIR.out.later (Below.refl _ _).drew)
          have HNX : Hid (KY.OM wr.drew w.heap.size (.slice (some ⟨g, 0, none⟩) n cp) (atR L (x0, x1) 0) ∧ SrR (atR L (x0, x1) 0) ∧ (atR L (x0, x1) 0).Perm ((R.take (j + 1)).map (·.1)) ∧ Below w.heap.size w wr.drew) := hide ⟨HIRd.out.om, HIR.out.done0 HSR.out, perm_up HP.out HPM.out _, HIRd.out.bl⟩

          have hHeld : Hid True := hide trivial
          go_upto_region 7 with fail
          refine s_begins (S := fun _ => True) [] 14 #[false, false, false, false, false, false, false, false, false, false, false, false, false, false] (by kernel_rfl) (by kernel_rfl) (by kernel_rfl) ?_
          refine sk0 (v := ?_) 0 30 #[true, false, false, false, false, false, false, false, false, false, false, false, false, false] rfl rfl (by kernel_rfl) (by kernel_rfl) (by kernel_rfl) (by kernel_rfl) (fun _ _ _ h => h) (by kernel_rfl) (by rfl) ?hy (fun _ => hHeld.out) ?_
          case hy => intro W; first | (go_simp; done) | (go_simp; with_reducible rfl)
          simp only [List.setIfInBounds_toArray, List.set_cons_zero, List.set_cons_succ]
          refine sk0 (v := ?_) 1 31 #[true, true, false, false, false, false, false, false, false, false, false, false, false, false] rfl rfl (by kernel_rfl) (by kernel_rfl) (by kernel_rfl) (by kernel_rfl) (fun _ _ _ h => h) (by kernel_rfl) (by rfl) ?hy (fun _ => hHeld.out) ?_
          case hy => intro W; first | (go_simp; done) | (go_simp; with_reducible rfl)
          simp only [List.setIfInBounds_toArray, List.set_cons_zero, List.set_cons_succ]
          refine sk0 (v := ?_) 2 32 #[true, true, true, false, false, false, false, false, false, false, false, false, false, false] rfl rfl (by kernel_rfl) (by kernel_rfl) (by kernel_rfl) (by kernel_rfl) (fun _ _ _ h => h) (by kernel_rfl) (by rfl) ?hy (fun _ => hHeld.out) ?_
          case hy => intro W; first | (go_simp; done) | (go_simp; with_reducible rfl)
          simp only [List.setIfInBounds_toArray, List.set_cons_zero, List.set_cons_succ]
          refine sk2 3 33 #[true, true, true, true, false, false, false, false, false, false, false, false, false, false] rfl rfl (by kernel_rfl) (by kernel_rfl) (by kernel_rfl) (by kernel_rfl) (fun _ _ _ h => h) (by kernel_rfl) (by rfl) (fun _ => hHeld.out) ?_
          simp only [List.setIfInBounds_toArray, List.set_cons_zero, List.set_cons_succ]
          refine sk2 4 34 #[true, true, true, true, true, false, false, false, false, false, false, false, false, false] rfl rfl (by kernel_rfl) (by kernel_rfl) (by kernel_rfl) (by kernel_rfl) (fun _ _ _ h => h) (by kernel_rfl) (by rfl) (fun _ => hHeld.out) ?_
          simp only [List.setIfInBounds_toArray, List.set_cons_zero, List.set_cons_succ]
          refine sk2 5 35 #[true, true, true, true, true, true, false, false, false, false, false, false, false, false] rfl rfl (by kernel_rfl) (by kernel_rfl) (by kernel_rfl) (by kernel_rfl) (fun _ _ _ h => h) (by kernel_rfl) (by rfl) (fun _ => hHeld.out) ?_
          simp only [List.setIfInBounds_toArray, List.set_cons_zero, List.set_cons_succ]
          refine sk2 6 36 #[true, true, true, true, true, true, true, false, false, false, false, false, false, false] rfl rfl (by kernel_rfl) (by kernel_rfl) (by kernel_rfl) (by kernel_rfl) (fun _ _ _ h => h) (by kernel_rfl) (by rfl) (fun _ => hHeld.out) ?_
          simp only [List.setIfInBounds_toArray, List.set_cons_zero, List.set_cons_succ]
          refine sk2 7 37 #[true, true, true, true, true, true, true, true, false, false, false, false, false, false] rfl rfl (by kernel_rfl) (by kernel_rfl) (by kernel_rfl) (by kernel_rfl) (fun _ _ _ h => h) (by kernel_rfl) (by rfl) (fun _ => hHeld.out) ?_
          simp only [List.setIfInBounds_toArray, List.set_cons_zero, List.set_cons_succ]
          refine sk2 8 38 #[true, true, true, true, true, true, true, true, true, false, false, false, false, false] rfl rfl (by kernel_rfl) (by kernel_rfl) (by kernel_rfl) (by kernel_rfl) (fun _ _ _ h => h) (by kernel_rfl) (by rfl) (fun _ => hHeld.out) ?_
          simp only [List.setIfInBounds_toArray, List.set_cons_zero, List.set_cons_succ]
          refine sk2 9 39 #[true, true, true, true, true, true, true, true, true, true, false, false, false, false] rfl rfl (by kernel_rfl) (by kernel_rfl) (by kernel_rfl) (by kernel_rfl) (fun _ _ _ h => h) (by kernel_rfl) (by rfl) (fun _ => hHeld.out) ?_
          simp only [List.setIfInBounds_toArray, List.set_cons_zero, List.set_cons_succ]
          refine sk2 10 40 #[true, true, true, true, true, true, true, true, true, true, true, false, false, false] rfl rfl (by kernel_rfl) (by kernel_rfl) (by kernel_rfl) (by kernel_rfl) (fun _ _ _ h => h) (by kernel_rfl) (by rfl) (fun _ => hHeld.out) ?_
          simp only [List.setIfInBounds_toArray, List.set_cons_zero, List.set_cons_succ]
          refine sk2 11 41 #[true, true, true, true, true, true, true, true, true, true, true, true, false, false] rfl rfl (by kernel_rfl) (by kernel_rfl) (by kernel_rfl) (by kernel_rfl) (fun _ _ _ h => h) (by kernel_rfl) (by rfl) (fun _ => hHeld.out) ?_
          simp only [List.setIfInBounds_toArray, List.set_cons_zero, List.set_cons_succ]
          refine sk2 12 42 #[true, true, true, true, true, true, true, true, true, true, true, true, true, false] rfl rfl (by kernel_rfl) (by kernel_rfl) (by kernel_rfl) (by kernel_rfl) (fun _ _ _ h => h) (by kernel_rfl) (by rfl) (fun _ => hHeld.out) ?_
          simp only [List.setIfInBounds_toArray, List.set_cons_zero, List.set_cons_succ]
          refine sk0 (v := ?_) 13 43 #[true, true, true, true, true, true, true, true, true, true, true, true, true, true] rfl rfl (by kernel_rfl) (by kernel_rfl) (by kernel_rfl) (by kernel_rfl) (fun _ _ _ h => h) (by kernel_rfl) (by rfl) ?hy (fun _ => hHeld.out) ?_
          case hy => intro W; first | (go_simp; done) | (go_simp; with_reducible rfl)
          simp only [List.setIfInBounds_toArray, List.set_cons_zero, List.set_cons_succ]
          refine s_done (by kernel_rfl) ?_ _

          clear hHeld
          go_wp2_with fail
          go_roundw
          case rel => exact ⟨j + 1, _, HLT.out, congrArg (Value.int .i64) (by first | exact wk | omega), HNX⟩
          case measure => first | exact meas_upR HLT.out | (rw [wk]; exact meas_upR HLT.out)
        | succ k =>
          have HKL : Hid (k < L.length) := hide (by have := HIR.out.kl; omega)
          obtain ⟨⟨y0, y1⟩, hy⟩ : ∃ y, L[k]? = some y := ⟨_, List.getElem?_eq_getElem HKL.out⟩
          have HY := hide hy
          obtain ⟨g', cp', hv', _, hgl, hcl⟩ := om_blk HIR.out.om (by rw [atR_len HIR.out.kl]; omega)
          injection hv' with hv1 hv2 hv3
          injection hv1 with hv1
          injection hv1 with hv1
          subst hv1
          have q1 := hcl (k + 1) _ (atR_get HIR.out.kl)
          have q2 := hcl k _ (atR_prev hy)
          have HF : Hid (wr.cell? ⟨g, (k + 1) * 2, none⟩ = some (.int .i64 x0) ∧ wr.cell? ⟨g, (k + 1) * 2 + 1, none⟩ = some (.int .i64 x1) ∧ wr.cell? ⟨g, k * 2, none⟩ = some (.int .i64 y0) ∧ wr.cell? ⟨g, k * 2 + 1, none⟩ = some (.int .i64 y1)) := hide ⟨q1.1, q1.2, q2.1, q2.2⟩
          have B0 : Hid (Below wr.heap.size wr wr.drew) := hide (Below.refl _ _).drew
          have HGL : Hid (g < wr.drew.heap.size) := hide hgl
          have hHeld : Hid (wr.drew.cell? ⟨g, (k + 1) * 2, none⟩ = some (.int .i64 x0) ∧ wr.drew.cell? ⟨g, (k + 1) * 2 + 1, none⟩ = some (.int .i64 x1) ∧ wr.drew.cell? ⟨g, k * 2, none⟩ = some (.int .i64 y0) ∧ wr.drew.cell? ⟨g, k * 2 + 1, none⟩ = some (.int .i64 y1)) := hide (four_later HF.out hgl B0.out)
          have HLs := hide (lessR_any x0 x1 y0 y1 wr.drew)
          have hgt : decide ((0 : Int) < ((k + 1 : Nat) : Int)) = true := by rw [decide_eq_true_eq]; omega
          have n1 : (0 : Int) ≤ ((k + 1 : Nat) : Int) := by omega
          have n2 : ((k + 1 : Nat) : Int) < (n : Int) := by have := HNN.out; have := HKL.out; omega
          have n3 : (0 : Int) ≤ (k : Int) := by omega
          have n4 : (k : Int) < (n : Int) := by have := HNN.out; have := HKL.out; omega
          obtain ⟨_, wk2, wk3⟩ := wrR1 (n := k) (by have := HKL.out; have := HKB.out; omega)
          clear hy hcl q1 q2 hgl hv2 hv3
          obtain ⟨k1, hk1⟩ : ∃ k1, k + 1 = k1 := ⟨_, rfl⟩
          rw [hk1] at HIR HF hHeld hgt n1 n2 wk2 wk3 ⊢
          have HK1 := hide hk1
          have hgn : decide (0 < k1) = true := by rw [decide_eq_true_eq]; omega
          have hgm : 0 < k1 := by omega
          clear hk1
          by_cases hxy : ltR (x0, x1) (y0, y1)
          · rw [decide_eq_true hxy] at HLs
            have HXY := hide hxy
            clear hxy
            go_upto_region 7 with fail
            refine s_begins (S := fun W => W.cell? ⟨g, k1 * 2, none⟩ = some (.int .i64 x0) ∧ W.cell? ⟨g, k1 * 2 + 1, none⟩ = some (.int .i64 x1) ∧ W.cell? ⟨g, k * 2, none⟩ = some (.int .i64 y0) ∧ W.cell? ⟨g, k * 2 + 1, none⟩ = some (.int .i64 y1)) [] 14 #[false, false, false, false, false, false, false, false, false, false, false, false, false, false] (by kernel_rfl) (by kernel_rfl) (by kernel_rfl) ?_
            refine sk0 (v := ?_) 0 30 #[true, false, false, false, false, false, false, false, false, false, false, false, false, false] rfl rfl (by kernel_rfl) (by kernel_rfl) (by kernel_rfl) (by kernel_rfl) (fun _ _ _ h => h) (by kernel_rfl) (by rfl) ?hy (fun _ => hHeld.out) ?_
            case hy => intro W; first | (go_simp; done) | (go_simp; with_reducible rfl)
            simp only [List.setIfInBounds_toArray, List.set_cons_zero, List.set_cons_succ]
            refine sk0 (v := ?_) 1 31 #[true, true, false, false, false, false, false, false, false, false, false, false, false, false] rfl rfl (by kernel_rfl) (by kernel_rfl) (by kernel_rfl) (by kernel_rfl) (fun _ _ _ h => h) (by kernel_rfl) (by rfl) ?hy (fun _ => hHeld.out) ?_
            case hy => intro W; first | (go_simp; done) | (go_simp; with_reducible rfl)
            simp only [List.setIfInBounds_toArray, List.set_cons_zero, List.set_cons_succ]
            refine sk0 (v := ?_) 2 32 #[true, true, true, false, false, false, false, false, false, false, false, false, false, false] rfl rfl (by kernel_rfl) (by kernel_rfl) (by kernel_rfl) (by kernel_rfl) (fun _ _ _ h => h) (by kernel_rfl) (by rfl) ?hy (fun _ => hHeld.out) ?_
            case hy => intro W; first | (go_simp; done) | (go_simp; with_reducible rfl)
            simp only [List.setIfInBounds_toArray, List.set_cons_zero, List.set_cons_succ]
            refine sk0 (v := ?_) 3 33 #[true, true, true, true, false, false, false, false, false, false, false, false, false, false] rfl rfl (by kernel_rfl) (by kernel_rfl) (by kernel_rfl) (by kernel_rfl) (fun _ _ _ h => h) (by kernel_rfl) (by rfl) ?hy (fun _ => hHeld.out) ?_
            case hy => intro W; first | (go_simp; done) | (go_simp; with_reducible rfl)
            simp only [List.setIfInBounds_toArray, List.set_cons_zero, List.set_cons_succ]
            refine sk0 (v := ?_) 4 34 #[true, true, true, true, true, false, false, false, false, false, false, false, false, false] rfl rfl (by kernel_rfl) (by kernel_rfl) (by kernel_rfl) (by kernel_rfl) (fun _ _ _ h => h) (by kernel_rfl) (by rfl) ?hy (fun _ => hHeld.out) ?_
            case hy => intro W; first | (go_simp; done) | (go_simp; with_reducible rfl)
            simp only [List.setIfInBounds_toArray, List.set_cons_zero, List.set_cons_succ]
            refine sk0 (v := ?_) 5 35 #[true, true, true, true, true, true, false, false, false, false, false, false, false, false] rfl rfl (by kernel_rfl) (by kernel_rfl) (by kernel_rfl) (by kernel_rfl) (fun _ _ _ h => h) (by kernel_rfl) (by rfl) ?hy (fun _ => hHeld.out) ?_
            case hy => intro W; first | (go_simp; done) | (go_simp; with_reducible rfl)
            simp only [List.setIfInBounds_toArray, List.set_cons_zero, List.set_cons_succ]
            refine sk1 (v := ?_) 6 36 #[true, true, true, true, true, true, true, false, false, false, false, false, false, false] rfl rfl (by kernel_rfl) (by kernel_rfl) (by kernel_rfl) (by kernel_rfl) (by kernel_rfl) (by kernel_rfl) (fun _ _ _ h => h) (by kernel_rfl) (by rfl) ?hy hHeld.out ?_
            case hy => rintro W ⟨c0, c1, c2, c3⟩; first | (go_simp; done) | (go_simp; with_reducible rfl)
            simp only [List.setIfInBounds_toArray, List.set_cons_zero, List.set_cons_succ]
            refine sk0 (v := ?_) 7 37 #[true, true, true, true, true, true, true, true, false, false, false, false, false, false] rfl rfl (by kernel_rfl) (by kernel_rfl) (by kernel_rfl) (by kernel_rfl) (fun _ _ _ h => h) (by kernel_rfl) (by rfl) ?hy (fun _ => hHeld.out) ?_
            case hy => intro W; first | (go_simp; done) | (go_simp; with_reducible rfl)
            simp only [List.setIfInBounds_toArray, List.set_cons_zero, List.set_cons_succ]
            refine sk0 (v := ?_) 8 38 #[true, true, true, true, true, true, true, true, true, false, false, false, false, false] rfl rfl (by kernel_rfl) (by kernel_rfl) (by kernel_rfl) (by kernel_rfl) (fun _ _ _ h => h) (by kernel_rfl) (by rfl) ?hy (fun _ => hHeld.out) ?_
            case hy => intro W; first | (go_simp; done) | (go_simp; with_reducible rfl)
            simp only [List.setIfInBounds_toArray, List.set_cons_zero, List.set_cons_succ]
            refine sk0 (v := ?_) 9 39 #[true, true, true, true, true, true, true, true, true, true, false, false, false, false] rfl rfl (by kernel_rfl) (by kernel_rfl) (by kernel_rfl) (by kernel_rfl) (fun _ _ _ h => h) (by kernel_rfl) (by rfl) ?hy (fun _ => hHeld.out) ?_
            case hy => intro W; first | (go_simp; done) | (go_simp; with_reducible rfl)
            simp only [List.setIfInBounds_toArray, List.set_cons_zero, List.set_cons_succ]
            refine sk0 (v := ?_) 10 40 #[true, true, true, true, true, true, true, true, true, true, true, false, false, false] rfl rfl (by kernel_rfl) (by kernel_rfl) (by kernel_rfl) (by kernel_rfl) (fun _ _ _ h => h) (by kernel_rfl) (by rfl) ?hy (fun _ => hHeld.out) ?_
            case hy => intro W; first | (go_simp; done) | (go_simp; with_reducible rfl)
            simp only [List.setIfInBounds_toArray, List.set_cons_zero, List.set_cons_succ]
            refine sk1 (v := ?_) 11 41 #[true, true, true, true, true, true, true, true, true, true, true, true, false, false] rfl rfl (by kernel_rfl) (by kernel_rfl) (by kernel_rfl) (by kernel_rfl) (by kernel_rfl) (by kernel_rfl) (fun _ _ _ h => h) (by kernel_rfl) (by rfl) ?hy hHeld.out ?_
            case hy => rintro W ⟨c0, c1, c2, c3⟩; first | (go_simp; done) | (go_simp; with_reducible rfl)
            simp only [List.setIfInBounds_toArray, List.set_cons_zero, List.set_cons_succ]
            refine s_ready 12 #[true, true, true, true, true, true, true, true, true, true, true, true, true, false] rfl (by kernel_rfl) (by kernel_rfl) (by rfl) (fun K hK => ?_)
            go_simp
            refine HLs.out.mono ?_
            rintro e w5 ⟨rfl, b5⟩
            have HB5 := hide b5
            clear b5
            refine hK.out _ _ (fun _ => four_later hHeld.out HGL.out HB5.out) ?_
            clear hK K
            have hHeld := hide (four_later hHeld.out HGL.out HB5.out)
            refine sk0 (v := ?_) 13 43 #[true, true, true, true, true, true, true, true, true, true, true, true, true, true] rfl rfl (by kernel_rfl) (by kernel_rfl) (by kernel_rfl) (by kernel_rfl) (fun _ _ _ h => h) (by kernel_rfl) (by rfl) ?hy (fun _ => hHeld.out) ?_
            case hy => intro W; first | (go_simp; done) | (go_simp; with_reducible rfl)
            simp only [List.setIfInBounds_toArray, List.set_cons_zero, List.set_cons_succ]
            refine s_done (by kernel_rfl) ?_ _
            obtain ⟨W6, hW6⟩ : ∃ x, w5.alloc (.cells #[.int .i64 x0, .int .i64 x1] 26) = x := ⟨_, rfl⟩
            have HB6 : Hid (Below w5.heap.size w5 W6) := hide (by rw [← hW6]; exact (Below.refl _ _).alloc (Nat.le_refl _) _)
            have HG5 : Hid (g < w5.heap.size) := hide (Nat.lt_of_lt_of_le HGL.out HB5.out.size)
            have HX6 : Hid (W6.heap[w5.heap.size]? = some (.cells #[.int .i64 x0, .int .i64 x1] 26 (0, 0))) := hide (by rw [← hW6]; exact alloc_new w5 _)
            have HI6 : Hid (IR w W6 (.slice (some ⟨g, 0, none⟩) n cp) L (x0, x1) k1) := hide (((HIR.out.later B0.out).later HB5.out).later HB6.out)
            obtain ⟨f0, f1, f2, f3⟩ := hHeld.out
            obtain ⟨h0, h1, h2, h3⟩ := four_later hHeld.out HG5.out HB6.out
            have z1 := om_fz HI6.out.om (k1 * 2)
            have z2 := om_fz HI6.out.om (k1 * 2 + 1)
            obtain ⟨W7, hW7⟩ : ∃ x, (W6.setCell ⟨g, k1 * 2, none⟩ (.int .i64 y0)).setCell ⟨g, k1 * 2 + 1, none⟩ (.int .i64 y1) = x := ⟨_, rfl⟩
            have HN6 : Hid ((atR L (x0, x1) k1).length = n) := hide (by rw [atR_len HIR.out.kl, HNN.out])
            have HS7 := om_set (i := k1) HI6.out.om HN6.out (y0, y1)
            dsimp only at HS7
            rw [hW7] at HS7
            have HX7 : Hid (W7.heap[w5.heap.size]? = some (.cells #[.int .i64 x0, .int .i64 x1] 26 (0, 0))) := hide ((HS7.2.block w5.heap.size (Array.getElem?_eq_some_iff.1 HX6.out).1 (fun e => by injection e with e; have := HG5.out; omega)).trans HX6.out)
            have z3 := om_fz HS7.1 (k * 2)
            have z4 := om_fz HS7.1 (k * 2 + 1)
            obtain ⟨g7, c7, hv7, _, _, hq7⟩ := om_blk HS7.1 (by rw [List.length_set, HN6.out, HNN.out]; omega)
            injection hv7 with hv7 e72 e73
            clear e72 e73
            injection hv7 with hv7
            injection hv7 with hv7
            subst hv7
            obtain ⟨p0, p1⟩ := hq7 k (y0, y1) (by rw [List.getElem?_set_ne (by have := HK1.out; omega), ← HK1.out]; exact atR_prev HY.out)
            dsimp only at p0 p1
            obtain ⟨b0, b1⟩ := pair_cells HX7.out rfl
            obtain ⟨b2, b3⟩ := pair_cells HX6.out rfl
            obtain ⟨W8, hW8⟩ : ∃ x, (W7.setCell ⟨g, k * 2, none⟩ (.int .i64 x0)).setCell ⟨g, k * 2 + 1, none⟩ (.int .i64 x1) = x := ⟨_, rfl⟩
            have HD : Hid (IR w W8 (.slice (some ⟨g, 0, none⟩) n cp) L (x0, x1) k) := hide (by
              have h6 := HI6.out
              rw [← HK1.out] at h6
              have hd := IR.down (y := (y0, y1)) h6 HY.out HXY.out HG.out
              rw [HK1.out] at hd
              dsimp only at hd
              rw [hW7, hW8] at hd
              exact hd)
            have HMS : Hid ((intOf (.int .i64 (k : Int))).toNat < (intOf (.int .i64 (k1 : Int))).toNat) := hide (by rw [← HK1.out]; exact meas_dnR k)
            clear hq7 HS7 HX7 HX6 HI6 HN6 HB6 HG5 HB5 hHeld HLs HF HIR
            go_wp2_with fail
            go_roundw
            case rel => exact ⟨k, by first | rfl | exact congrArg (Value.int .i64) wk2, HD⟩
            case measure => first | exact HMS.out | (rw [wk2]; exact HMS.out) | (have := HK1.out; simp [intOf]; omega)
          · rw [decide_eq_false hxy] at HLs
            have HXY := hide hxy
            clear hxy
            go_upto_region 7 with fail
            refine s_begins (S := fun W => W.cell? ⟨g, k1 * 2, none⟩ = some (.int .i64 x0) ∧ W.cell? ⟨g, k1 * 2 + 1, none⟩ = some (.int .i64 x1) ∧ W.cell? ⟨g, k * 2, none⟩ = some (.int .i64 y0) ∧ W.cell? ⟨g, k * 2 + 1, none⟩ = some (.int .i64 y1)) [] 14 #[false, false, false, false, false, false, false, false, false, false, false, false, false, false] (by kernel_rfl) (by kernel_rfl) (by kernel_rfl) ?_
            refine sk0 (v := ?_) 0 30 #[true, false, false, false, false, false, false, false, false, false, false, false, false, false] rfl rfl (by kernel_rfl) (by kernel_rfl) (by kernel_rfl) (by kernel_rfl) (fun _ _ _ h => h) (by kernel_rfl) (by rfl) ?hy (fun _ => hHeld.out) ?_
            case hy => intro W; first | (go_simp; done) | (go_simp; with_reducible rfl)
            simp only [List.setIfInBounds_toArray, List.set_cons_zero, List.set_cons_succ]
            refine sk0 (v := ?_) 1 31 #[true, true, false, false, false, false, false, false, false, false, false, false, false, false] rfl rfl (by kernel_rfl) (by kernel_rfl) (by kernel_rfl) (by kernel_rfl) (fun _ _ _ h => h) (by kernel_rfl) (by rfl) ?hy (fun _ => hHeld.out) ?_
            case hy => intro W; first | (go_simp; done) | (go_simp; with_reducible rfl)
            simp only [List.setIfInBounds_toArray, List.set_cons_zero, List.set_cons_succ]
            refine sk0 (v := ?_) 2 32 #[true, true, true, false, false, false, false, false, false, false, false, false, false, false] rfl rfl (by kernel_rfl) (by kernel_rfl) (by kernel_rfl) (by kernel_rfl) (fun _ _ _ h => h) (by kernel_rfl) (by rfl) ?hy (fun _ => hHeld.out) ?_
            case hy => intro W; first | (go_simp; done) | (go_simp; with_reducible rfl)
            simp only [List.setIfInBounds_toArray, List.set_cons_zero, List.set_cons_succ]
            refine sk0 (v := ?_) 3 33 #[true, true, true, true, false, false, false, false, false, false, false, false, false, false] rfl rfl (by kernel_rfl) (by kernel_rfl) (by kernel_rfl) (by kernel_rfl) (fun _ _ _ h => h) (by kernel_rfl) (by rfl) ?hy (fun _ => hHeld.out) ?_
            case hy => intro W; first | (go_simp; done) | (go_simp; with_reducible rfl)
            simp only [List.setIfInBounds_toArray, List.set_cons_zero, List.set_cons_succ]
            refine sk0 (v := ?_) 4 34 #[true, true, true, true, true, false, false, false, false, false, false, false, false, false] rfl rfl (by kernel_rfl) (by kernel_rfl) (by kernel_rfl) (by kernel_rfl) (fun _ _ _ h => h) (by kernel_rfl) (by rfl) ?hy (fun _ => hHeld.out) ?_
            case hy => intro W; first | (go_simp; done) | (go_simp; with_reducible rfl)
            simp only [List.setIfInBounds_toArray, List.set_cons_zero, List.set_cons_succ]
            refine sk0 (v := ?_) 5 35 #[true, true, true, true, true, true, false, false, false, false, false, false, false, false] rfl rfl (by kernel_rfl) (by kernel_rfl) (by kernel_rfl) (by kernel_rfl) (fun _ _ _ h => h) (by kernel_rfl) (by rfl) ?hy (fun _ => hHeld.out) ?_
            case hy => intro W; first | (go_simp; done) | (go_simp; with_reducible rfl)
            simp only [List.setIfInBounds_toArray, List.set_cons_zero, List.set_cons_succ]
            refine sk1 (v := ?_) 6 36 #[true, true, true, true, true, true, true, false, false, false, false, false, false, false] rfl rfl (by kernel_rfl) (by kernel_rfl) (by kernel_rfl) (by kernel_rfl) (by kernel_rfl) (by kernel_rfl) (fun _ _ _ h => h) (by kernel_rfl) (by rfl) ?hy hHeld.out ?_
            case hy => rintro W ⟨c0, c1, c2, c3⟩; first | (go_simp; done) | (go_simp; with_reducible rfl)
            simp only [List.setIfInBounds_toArray, List.set_cons_zero, List.set_cons_succ]
            refine sk0 (v := ?_) 7 37 #[true, true, true, true, true, true, true, true, false, false, false, false, false, false] rfl rfl (by kernel_rfl) (by kernel_rfl) (by kernel_rfl) (by kernel_rfl) (fun _ _ _ h => h) (by kernel_rfl) (by rfl) ?hy (fun _ => hHeld.out) ?_
            case hy => intro W; first | (go_simp; done) | (go_simp; with_reducible rfl)
            simp only [List.setIfInBounds_toArray, List.set_cons_zero, List.set_cons_succ]
            refine sk0 (v := ?_) 8 38 #[true, true, true, true, true, true, true, true, true, false, false, false, false, false] rfl rfl (by kernel_rfl) (by kernel_rfl) (by kernel_rfl) (by kernel_rfl) (fun _ _ _ h => h) (by kernel_rfl) (by rfl) ?hy (fun _ => hHeld.out) ?_
            case hy => intro W; first | (go_simp; done) | (go_simp; with_reducible rfl)
            simp only [List.setIfInBounds_toArray, List.set_cons_zero, List.set_cons_succ]
            refine sk0 (v := ?_) 9 39 #[true, true, true, true, true, true, true, true, true, true, false, false, false, false] rfl rfl (by kernel_rfl) (by kernel_rfl) (by kernel_rfl) (by kernel_rfl) (fun _ _ _ h => h) (by kernel_rfl) (by rfl) ?hy (fun _ => hHeld.out) ?_
            case hy => intro W; first | (go_simp; done) | (go_simp; with_reducible rfl)
            simp only [List.setIfInBounds_toArray, List.set_cons_zero, List.set_cons_succ]
            refine sk0 (v := ?_) 10 40 #[true, true, true, true, true, true, true, true, true, true, true, false, false, false] rfl rfl (by kernel_rfl) (by kernel_rfl) (by kernel_rfl) (by kernel_rfl) (fun _ _ _ h => h) (by kernel_rfl) (by rfl) ?hy (fun _ => hHeld.out) ?_
            case hy => intro W; first | (go_simp; done) | (go_simp; with_reducible rfl)
            simp only [List.setIfInBounds_toArray, List.set_cons_zero, List.set_cons_succ]
            refine sk1 (v := ?_) 11 41 #[true, true, true, true, true, true, true, true, true, true, true, true, false, false] rfl rfl (by kernel_rfl) (by kernel_rfl) (by kernel_rfl) (by kernel_rfl) (by kernel_rfl) (by kernel_rfl) (fun _ _ _ h => h) (by kernel_rfl) (by rfl) ?hy hHeld.out ?_
            case hy => rintro W ⟨c0, c1, c2, c3⟩; first | (go_simp; done) | (go_simp; with_reducible rfl)
            simp only [List.setIfInBounds_toArray, List.set_cons_zero, List.set_cons_succ]
            refine s_ready 12 #[true, true, true, true, true, true, true, true, true, true, true, true, true, false] rfl (by kernel_rfl) (by kernel_rfl) (by rfl) (fun K hK => ?_)
            go_simp
            refine HLs.out.mono ?_
            rintro e w5 ⟨rfl, b5⟩
            have HB5 := hide b5
            clear b5
            refine hK.out _ _ (fun _ => four_later hHeld.out HGL.out HB5.out) ?_
            clear hK K
            have hHeld := hide (four_later hHeld.out HGL.out HB5.out)
            refine sk0 (v := ?_) 13 43 #[true, true, true, true, true, true, true, true, true, true, true, true, true, true] rfl rfl (by kernel_rfl) (by kernel_rfl) (by kernel_rfl) (by kernel_rfl) (fun _ _ _ h => h) (by kernel_rfl) (by rfl) ?hy (fun _ => hHeld.out) ?_
            case hy => intro W; first | (go_simp; done) | (go_simp; with_reducible rfl)
            simp only [List.setIfInBounds_toArray, List.set_cons_zero, List.set_cons_succ]
            refine s_done (by kernel_rfl) ?_ _
            have HNX : Hid (KY.OM w5 w.heap.size (.slice (some ⟨g, 0, none⟩) n cp) (atR L (x0, x1) k1) ∧ SrR (atR L (x0, x1) k1) ∧ (atR L (x0, x1) k1).Perm ((R.take (j + 1)).map (·.1)) ∧ Below w.heap.size w w5) := hide (by
              have h5 := (HIR.out.later B0.out).later HB5.out
              refine ⟨h5.om, ?_, perm_up HP.out HPM.out _, h5.bl⟩
              have hk := HK1.out
              subst hk
              exact h5.done1 HSR.out HY.out HXY.out)
            clear hHeld HLs HF HB5
            go_wp2_with fail
            go_roundw
            case rel => exact ⟨j + 1, _, HLT.out, congrArg (Value.int .i64) (by first | exact wk | omega), HNX⟩
            case measure => first | exact meas_upR HLT.out | (rw [wk]; exact meas_upR HLT.out)
    · have e : j = R.length := by omega
      subst e
      have HF : Hid (KY.OM wr w.heap.size u3 L ∧ SrR L ∧ L.Perm (R.map (·.1)) ∧ Below w.heap.size w wr) := hide (by have := HI.out; rw [List.take_length] at this; exact this)
      clear HI hlt hj
      go_wp2_with fail
      go_ret
      exact ⟨_, _, rfl, HF.out.1, HF.out.2.1, HF.out.2.2.1, HF.out.2.2.2⟩
end Go.Proofs.YtgeholiagcckoaaGreatDoor
