/-
  My own text: a walk over a chain: what All answers goes through the versions.
-/
import Derived.Test.YtnjjehlfgoggfaaDoorHC6
import Derived.RangeFuncNested
import Derived.RangeFuncBound
import Derived.RangeFuncCalls
import Derived.RangeFuncLeaves
import Derived.RangeFuncFrom
import Derived.Shelf.Abstract
import Derived.Shelf.RegionOpen
import Derived.WalkKit
import Derived.OwnWalkIn
import Derived.TacticsInMore
import Derived.LoopNIn
import Derived.LoopIn
namespace Go.Proofs.YtnjjehlfgoggfaaDoor
open Go.RowKit Go.Shelf

attribute [local go_sem] Oper.semAt_some

theorem ab_self : ∀ (L : List Ver) (k : Nat) (p : Ver), Ris L → L[k]? = some p → ab p.1 L = k + 1
  | q :: r, 0, p, hr, hp => by
    obtain rfl : q = p := Option.some.inj hp
    unfold ab
    rw [if_neg (by omega)]
    have h0 : ab q.1 r = 0 := by
      cases r with
      | nil => rfl
      | cons a t => unfold ab; rw [if_pos (hr.1 a (List.mem_cons_self ..))]
    rw [h0]
  | q :: r, k + 1, p, hr, hp => by
    have h1 : q.1 < p.1 := hr.1 p (List.mem_of_getElem? hp)
    unfold ab
    rw [if_neg (by omega), ab_self r k p hr.2 hp]
theorem ab_neg (L : List Ver) (h : ∀ p ∈ L, 0 ≤ p.1) : ab (-1) L = 0 := by
  cases L with
  | nil => rfl
  | cons a t => unfold ab; rw [if_pos (by have := h a (List.mem_cons_self ..); omega)]
theorem grown_of_below {W W' : World} (hb : Below W.heap.size W W') : W.grownBy W' none := ⟨hb.os, hb.tape, hb.output, hb.size, fun k hk _ => hb.block k hk⟩
theorem keeps_of_below {W W' : World} (hb : Below W.heap.size W W') : KeepsOthers W W' := ⟨hb.size, fun k _ hk _ => (hb.block k (Array.getElem?_eq_some_iff.1 hk).1).trans hk⟩
theorem wpListIn_load_mid {F : Fence} {n : Nat} {P : Program} {ops : Array Oper} {rest : List Oper} {op : Oper} {a : Act} {w : World} {Q : Exit → Act → World → Prop} (hgd : op.guard = none) (ty : TypeId) (x : Operand) (ho : op.op = .load ty x)
    (b o : Nat) (hx : a.eval x = .pointer (some ⟨b, o, none⟩)) (cs : List Value) (d : TypeDesc) (hc : w.rangeAt b o cs)
    (hu : P.underlying ty = some d) (hd : d.isRow = true) (hi : (P.info? ty).map (·.size) = some cs.length)
    (h : wpListIn F n P ops Q rest (a.put op.dst (.agg cs.toArray)) w) : wpListIn F n P ops Q (op :: rest) a w := by
  refine wpListIn_plain hgd fun K hK' => ?_
  unfold Oper.wpIn
  refine ⟨by simp [Oper.about, ho], ?_⟩
  rw [Oper.semAt_plain F _ _ (by rw [ho]; intro c hc'; cases hc')]
  unfold execOp
  simp only [ho, hx, Instr.loadAt, Instr.sureAddr, Sem.run_bind, Sem.run_pure, Result.andThen_ok, run_loadVar_mid w b o ty cs d hc hu hd hi]
  exact hK' _ _ h
theorem wpListIn_store_row {F : Fence} {n : Nat} {P : Program} {ops : Array Oper} {rest : List Oper} {o : Oper} {a : Act} {w : World} {Q : Exit → Act → World → Prop} (hgd : o.guard = none) (ty : TypeId) (x y : Operand) (ho : o.op = .store ty x y)
    (g : Nat) (cells : Array Value) (hx : a.eval x = .pointer (some ⟨g, 0, none⟩)) (hy : a.eval y = .agg cells)
    (t : TypeId) (old : Array Value) (hg : w.heap[g]? = some (.cells old t (0, 0))) (hi : (P.info? ty).map (·.size) = some cells.size)
    (hold : old.size = cells.size) (h1 : cells.all (·.oneCell') = true)
    (h : wpListIn F n P ops Q rest (a.put o.dst undef) (w.setRow g cells)) : wpListIn F n P ops Q (o :: rest) a w := by
  refine wpListIn_plain hgd fun K hK' => ?_
  unfold Oper.wpIn
  refine ⟨by simp [Oper.about, ho], ?_⟩
  rw [Oper.semAt_plain F _ _ (by rw [ho]; intro c hc'; cases hc')]
  unfold execOp
  simp only [ho, hx, hy, Instr.storeAt, Instr.sureAddr, Sem.run_bind, Sem.run_pure, Result.andThen_ok, run_storeVar_row w g t ty old cells hg hi hold h1]
  exact hK' _ _ h
theorem eqNilY (l : Nat) (W : World) : (binOp .eql 126 (.func (Fn.yield l) #[] #[]) .nilFunc).run Tryd.prog W = .ok (.bool false) W := by kernel_rfl
/-- The two values that a round is handed. -/
def encV {L : List Ver} (p : { q : Ver // q ∈ L }) : Array Value := #[.int .i64 p.1.1, .string ⟨p.1.2.toArray⟩]
set_option maxRecDepth 100000 in
set_option maxHeartbeats 2000000 in
theorem all_any (cb : Nat) (w : World) :
    Calls Tryd.prog 51 #[.pointer (some ⟨cb, 0, none⟩)] w fun e w' => e = .returned (.func (Fn.func 73) #[] #[.pointer (some ⟨w.heap.size, 0, none⟩)]) ∧ w' = w.alloc (.cells #[.pointer (some ⟨cb, 0, none⟩)] 66) := by
  go_enter Tryd.func51, Tryd.ntmps51
  go_wp2_with fail
  go_ret
  exact ⟨rfl, rfl⟩
set_option maxRecDepth 100000 in
set_option maxHeartbeats 4000000 in
theorem all1_in (n : Nat) (hn : 1 ≤ n) (l bc B cb : Nat) (L : List Ver) (CK : World → Prop) (Kp : World → World → Prop) (J Jx : List { q : Ver // q ∈ L } → World → Prop) (hr : Ris L) (hpos : ∀ p ∈ L, 0 ≤ p.1) (hlen : L.length ≤ 4611686018427387904)
    (hCK : ∀ W, CK W → CH W B cb L ∧ W.cell? ⟨bc, 0, none⟩ = some (.pointer (some ⟨cb, 0, none⟩))) (hk1 : ∀ W W', CK W → Below W.heap.size W W' → CK W') (hk2 : ∀ W W', CK W → Kp W W' → CK W')
    (hJ : ∀ s W W', J s W → Below W.heap.size W W' → J s W')
    (W : World) (hkb : ∀ A C g c, Kp A C → W.heap.size ≤ g → A.heap[g]? = some (.cells c 92 (0, 0)) → C.heap[g]? = some (.cells c 92 (0, 0)))
    (hY : ∀ pre x W, J pre W → pre.length < L.length → YieldAt Fence.wide (n - 1) Tryd.prog l (encV x) W fun e W' =>
      (e = .returned (.bool true) ∧ J (pre ++ [x]) W' ∧ Kp W W') ∨ (e = .returned (.bool false) ∧ Jx (pre ++ [x]) W'))
    (hC : CK W) (h0 : J [] W) :
    CallsIn Fence.wide n Tryd.prog 73 #[.func (.yield l) #[] #[], .pointer (some ⟨bc, 0, none⟩)] W fun e W' => (∃ v, e = .returned v) ∧
      ((∃ ys, ys = L.attach ∧ J ys W') ∨ (∃ pre, pre <+: L.attach ∧ Jx pre W')) := by
  have HA := hide (fun (m : Int) (W : World) (h : CK W) => above_any m B cb L W (hCK W h).1 hr hlen)
  have hc0 := (hCK W hC).2
  have qf := eqNilY l
  refine callsIn_of_wp Tryd.func73 rfl trivial ?_ rfl
  simp only [Tryd.ntmps73, List.size_toArray, List.length_cons, List.length_nil, Nat.reduceAdd, Nat.reduceSub, Array.replicate_succ, Array.replicate_zero, List.push_toArray, List.append_toArray, List.nil_append, List.cons_append]
  gi_wp2
  refine ⟨trivial, (callsIn_wide.2 (HA.out (-1) W hC)).mono ?_⟩
  rintro e w1 ⟨rfl, hb1⟩
  rw [ab_neg L hpos]
  have hC1 := hide (hk1 _ _ hC hb1)
  have hJ1 := hide (hJ _ _ _ h0 hb1)
  have hS1 := hide hb1.size
  clear hb1 hc0 h0 hC
  gi_wp2
  gi_loopw [3] (fun i wr => ∃ k : Nat, k ≤ L.length ∧ i = .int .i64 (k : Int) ∧ Hid (J (L.attach.take k) wr) ∧ Hid (CK wr) ∧ Hid (W.heap.size ≤ wr.heap.size)) (fun i _ => L.length - (intOf i).toNat)
  case atStart => exact ⟨0, Nat.zero_le _, rfl, hide (by rw [List.take_zero]; exact hJ1.out), hC1, hS1⟩
  case round =>
    obtain ⟨k, hk, rfl, HJ, HC, HS⟩ := hrel
    obtain ⟨a, cap, c0, hL⟩ := (hCK wr HC.out).1.parts
    have cc := (hCK wr HC.out).2
    by_cases hlt : k < L.length
    · obtain ⟨q, hq⟩ : ∃ q, L.attach[k]? = some q := ⟨_, List.getElem?_eq_getElem (by simpa using hlt)⟩
      obtain ⟨p, hpm⟩ := q
      have hp : L[k]? = some p := by
        have h1 := congrArg (Option.map Subtype.val) hq
        rw [← List.getElem?_map, List.attach_map_subtype_val] at h1
        exact h1
      have HQ := hide hq
      clear hq
      obtain ⟨g, off, rfl, c1, c2⟩ := hL k p hp
      have HR : Hid (wr.rangeAt g (off + k * 2) (vrC p).toList) := hide (fun j u hj => by
        match j, hj with
        | 0, hj => cases hj; exact c1
        | 1, hj => cases hj; exact c2)
      have hd1 : decide ((k : Int) < (L.length : Int)) = true := by rw [decide_eq_true_eq]; omega
      have k0 : (0 : Int) ≤ (k : Int) := by omega
      have k1 : (k : Int) < (L.length : Int) := by omega
      have HP := hide hp
      obtain ⟨W2, hW2⟩ : ∃ W2, wr.alloc (.cells #[.int .i64 p.1, .string ⟨p.2.toArray⟩] 92) = W2 := ⟨_, rfl⟩
      have hb2 : Below wr.heap.size wr W2 := by rw [← hW2]; exact (Below.refl _ _).alloc (Nat.le_refl _) _
      have hN2 : Hid (W2.heap[wr.heap.size]? = some (.cells #[.int .i64 p.1, .string ⟨p.2.toArray⟩] 92 (0, 0))) := hide (by rw [← hW2]; exact alloc_newV wr _)
      have b0 : W2.cell? ⟨wr.heap.size, 0, none⟩ = some (.int .i64 p.1) := by rw [cell_of_row _ _ _ _ _ _ hN2.out]; rfl
      have b1 : W2.cell? ⟨wr.heap.size, 1, none⟩ = some (.string ⟨p.2.toArray⟩) := by rw [cell_of_row _ _ _ _ _ _ hN2.out]; rfl
      have HC2 := hide (hk1 _ _ HC.out hb2)
      have HS2 := hide hb2.size
      obtain ⟨fn, tmps, assign, body, hy, hR⟩ := hY (L.attach.take k) ⟨p, hpm⟩ W2 (hJ _ _ _ HJ.out hb2) (by rw [List.length_take]; omega)
      dsimp only [encV] at hy
      have HRR := hide hR
      clear hR hb2 hL c1 c2 hp hY
      gi_wp2_with (first
        | (refine wpListIn_load_mid rfl 92 _ rfl g (off + k * 2) rfl (vrC p).toList _ HR.out Tryd.underlying92 rfl Tryd.sizeVer ?_; rw [Array.toArray_toList]; unfold vrC)
        | (refine wpListIn_store_row rfl 92 _ _ rfl wr.heap.size #[.int .i64 p.1, .string ⟨p.2.toArray⟩] rfl rfl _ _ (alloc_newV wr _) Tryd.sizeVer rfl (by simp [Value.oneCell']) ?_; rw [World.setRow_alloc_new]))
      refine HRR.out.mono ?_
      rintro e W3 (⟨rfl, hJ3, hk3⟩ | ⟨rfl, hJx3⟩)
      · have HC3 := hide (hk2 _ _ HC2.out hk3)
        have hN3 := hkb _ _ _ _ hk3 HS.out hN2.out
        have b3 : W3.cell? ⟨wr.heap.size, 0, none⟩ = some (.int .i64 p.1) := by rw [cell_of_row _ _ _ _ _ _ hN3]; rfl
        have c3 := (hCK W3 HC3.out).2
        have HZ3 : Hid (wr.heap.size < W3.heap.size) := hide (Array.getElem?_eq_some_iff.1 hN3).1
        have HJ3 := hide hJ3
        clear hk3 hJ3 hN3 hW2 b0 b1 cc c0
        gi_wp2
        refine ⟨trivial, (callsIn_wide.2 (HA.out p.1 W3 HC3.out)).mono ?_⟩
        rintro e w4 ⟨rfl, hb4⟩
        rw [ab_self L k p hr HP.out]
        have HJ4 : Hid (J (L.attach.take (k + 1)) w4) := hide (by rw [List.take_add_one, HQ.out]; exact hJ _ _ _ HJ3.out hb4)
        have HC4 := hide (hk1 _ _ HC3.out hb4)
        have HS4 : Hid (W.heap.size ≤ w4.heap.size) := hide (by have := HS.out; have := HZ3.out; have := hb4.size; omega)
        clear hb4
        gi_wp2
        go_roundw
        case rel => exact ⟨k + 1, by omega, by first | rfl | go_num, HJ4, HC4, HS4⟩
        case measure => simp [intOf]; omega
      · have HX3 := hide hJx3
        clear hJx3
        gi_wp2
        refine bodyPost_ret (results_none rfl _ _ _) rfl ?_
        exact ⟨⟨_, rfl⟩, .inr ⟨L.attach.take k ++ [⟨p, hpm⟩], by
          have e : L.attach.take k ++ [⟨p, hpm⟩] = L.attach.take (k + 1) := by rw [List.take_add_one, HQ.out]; rfl
          rw [e]; exact List.take_prefix _ _, HX3.out⟩⟩
    · have e : k = L.length := by omega
      subst e
      gi_wp2
      go_end0
      exact ⟨⟨_, rfl⟩, .inl ⟨L.attach, rfl, by have := HJ.out; rw [List.take_of_length_le (by simp)] at this; exact this⟩⟩
/-- What All answers, as a walk. -/
theorem all_stops (n : Nat) (hn : 1 ≤ n) (bc B cb : Nat) (L : List Ver) (CK : World → Prop) (Kp : World → World → Prop) (hr : Ris L) (hpos : ∀ p ∈ L, 0 ≤ p.1) (hlen : L.length ≤ 4611686018427387904)
    (hCK : ∀ W, CK W → CH W B cb L ∧ W.cell? ⟨bc, 0, none⟩ = some (.pointer (some ⟨cb, 0, none⟩))) (hk1 : ∀ W W', CK W → Below W.heap.size W W' → CK W') (hk2 : ∀ W W', CK W → Kp W W' → CK W')
    (w : World) (hkb : ∀ A C g c, Kp A C → w.heap.size ≤ g → A.heap[g]? = some (.cells c 92 (0, 0)) → C.heap[g]? = some (.cells c 92 (0, 0))) (hC : CK w) :
    SeqStopsK Fence.wide n Tryd.prog 73 #[.pointer (some ⟨bc, 0, none⟩)] encV Kp (fun ys => ys = L.attach) (fun pre => pre <+: L.attach) L.length w := by
  intro l J Jx W hW hJ _ hY h0
  exact all1_in n hn l bc B cb L CK Kp J Jx hr hpos hlen hCK hk1 hk2 (fun s A C hs hb => hJ s A C none hs (grown_of_below hb) (fun r e => by cases e)) W (fun A C g c hk hg h => hkb A C g c hk (Nat.le_trans hW.size hg) h) hY (hk1 _ _ hC hW) h0
end Go.Proofs.YtnjjehlfgoggfaaDoor
