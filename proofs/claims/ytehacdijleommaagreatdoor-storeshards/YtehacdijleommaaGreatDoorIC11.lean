/-
  My own text: IC7, IC9, IC11 in one.
-/
import Derived.Test.YtehacdijleommaaGreatDoorIC6
import Derived.RangeFuncNested
import Derived.RangeFuncBound
import Derived.RangeFuncCalls
import Derived.RangeFuncLeaves
import Derived.RangeFuncFrom
import Derived.Shelf.Abstract
import Derived.Shelf.RegionOpen
import Derived.WalkKit
import Derived.OwnWalkIn
import Derived.TacticsInMore
import Derived.LoopNIn
import Derived.LoopIn
namespace Go.Proofs.YtehacdijleommaaGreatDoor.CI
open Go.RowKit Go.Shelf

attribute [local go_sem] Oper.semAt_some

theorem ab_self : ∀ (L : List Ver) (k : Nat) (p : Ver), Ris L → L[k]? = some p → ab p.1 L = k + 1
  | q :: r, 0, p, hr, hp => by
    obtain rfl : q = p := Option.some.inj hp
    unfold ab
    rw [if_neg (by omega)]
    have h0 : ab q.1 r = 0 := by
      cases r with
      | nil => rfl
      | cons a t => unfold ab; rw [if_pos (hr.1 a (List.mem_cons_self ..))]
    rw [h0]
  | q :: r, k + 1, p, hr, hp => by
    have h1 : q.1 < p.1 := hr.1 p (List.mem_of_getElem? hp)
    unfold ab
    rw [if_neg (by omega), ab_self r k p hr.2 hp]
theorem ab_neg (L : List Ver) (h : ∀ p ∈ L, 0 ≤ p.1) : ab (-1) L = 0 := by
  cases L with
  | nil => rfl
  | cons a t => unfold ab; rw [if_pos (by have := h a (List.mem_cons_self ..); omega)]
theorem grown_of_below {W W' : World} (hb : Below W.heap.size W W') : W.grownBy W' none := ⟨hb.os, hb.tape, hb.output, hb.size, fun k hk _ => hb.block k hk⟩
theorem keeps_of_below {W W' : World} (hb : Below W.heap.size W W') : KeepsOthers W W' := ⟨hb.size, fun k _ hk _ => (hb.block k (Array.getElem?_eq_some_iff.1 hk).1).trans hk⟩
theorem wpListIn_load_mid {F : Fence} {n : Nat} {P : Program} {ops : Array Oper} {rest : List Oper} {op : Oper} {a : Act} {w : World} {Q : Exit → Act → World → Prop} (hgd : op.guard = none) (ty : TypeId) (x : Operand) (ho : op.op = .load ty x)
    (b o : Nat) (hx : a.eval x = .pointer (some ⟨b, o, none⟩)) (cs : List Value) (d : TypeDesc) (hc : w.rangeAt b o cs)
    (hu : P.underlying ty = some d) (hd : d.isRow = true) (hi : (P.info? ty).map (·.size) = some cs.length)
    (h : wpListIn F n P ops Q rest (a.put op.dst (.agg cs.toArray)) w) : wpListIn F n P ops Q (op :: rest) a w := by
  refine wpListIn_plain hgd fun K hK' => ?_
  unfold Oper.wpIn
  refine ⟨by simp [Oper.about, ho], ?_⟩
  rw [Oper.semAt_plain F _ _ (by rw [ho]; intro c hc'; cases hc')]
  unfold execOp
  simp only [ho, hx, Instr.loadAt, Instr.sureAddr, Sem.run_bind, Sem.run_pure, Result.andThen_ok, run_loadVar_mid w b o ty cs d hc hu hd hi]
  exact hK' _ _ h
theorem wpListIn_store_row {F : Fence} {n : Nat} {P : Program} {ops : Array Oper} {rest : List Oper} {o : Oper} {a : Act} {w : World} {Q : Exit → Act → World → Prop} (hgd : o.guard = none) (ty : TypeId) (x y : Operand) (ho : o.op = .store ty x y)
    (g : Nat) (cells : Array Value) (hx : a.eval x = .pointer (some ⟨g, 0, none⟩)) (hy : a.eval y = .agg cells)
    (t : TypeId) (old : Array Value) (hg : w.heap[g]? = some (.cells old t (0, 0))) (hi : (P.info? ty).map (·.size) = some cells.size)
    (hold : old.size = cells.size) (h1 : cells.all (·.oneCell') = true)
    (h : wpListIn F n P ops Q rest (a.put o.dst undef) (w.setRow g cells)) : wpListIn F n P ops Q (o :: rest) a w := by
  refine wpListIn_plain hgd fun K hK' => ?_
  unfold Oper.wpIn
  refine ⟨by simp [Oper.about, ho], ?_⟩
  rw [Oper.semAt_plain F _ _ (by rw [ho]; intro c hc'; cases hc')]
  unfold execOp
  simp only [ho, hx, hy, Instr.storeAt, Instr.sureAddr, Sem.run_bind, Sem.run_pure, Result.andThen_ok, run_storeVar_row w g t ty old cells hg hi hold h1]
  exact hK' _ _ h
theorem eqNilY (l : Nat) (W : World) : (binOp .eql 139 (.func (Fn.yield l) #[] #[]) .nilFunc).run Tryz.prog W = .ok (.bool false) W := by kernel_rfl
/-- The two values that a round is handed. -/
def encV {L : List Ver} (p : { q : Ver // q ∈ L }) : Array Value := #[.int .i64 p.1.1, .int .i64 p.1.2]
set_option maxRecDepth 100000 in
set_option maxHeartbeats 2000000 in
theorem all_any (cb : Nat) (w : World) :
    Calls Tryz.prog 90 #[.pointer (some ⟨cb, 0, none⟩)] w fun e w' => e = .returned (.func (Fn.func 105) #[] #[.pointer (some ⟨w.heap.size, 0, none⟩)]) ∧ w' = w.alloc (.cells #[.pointer (some ⟨cb, 0, none⟩)] 66) := by
  go_enter Tryz.func90, Tryz.ntmps90
  go_wp2_with fail
  go_ret
  exact ⟨rfl, rfl⟩
set_option maxRecDepth 100000 in
set_option maxHeartbeats 4000000 in
theorem all1_in (n : Nat) (hn : 1 ≤ n) (l bc B cb : Nat) (L : List Ver) (CK : World → Prop) (Kp : World → World → Prop) (J Jx : List { q : Ver // q ∈ L } → World → Prop) (hr : Ris L) (hpos : ∀ p ∈ L, 0 ≤ p.1) (hlen : L.length ≤ 4611686018427387904)
    (hCK : ∀ W, CK W → CH W B cb L ∧ W.cell? ⟨bc, 0, none⟩ = some (.pointer (some ⟨cb, 0, none⟩))) (hk1 : ∀ W W', CK W → Below W.heap.size W W' → CK W') (hk2 : ∀ W W', CK W → Kp W W' → CK W')
    (hJ : ∀ s W W', J s W → Below W.heap.size W W' → J s W')
    (W : World) (hkb : ∀ A C g c, Kp A C → W.heap.size ≤ g → A.heap[g]? = some (.cells c 148 (0, 0)) → C.heap[g]? = some (.cells c 148 (0, 0)))
    (hY : ∀ pre x W, J pre W → pre.length < L.length → YieldAt Fence.wide (n - 1) Tryz.prog l (encV x) W fun e W' =>
      (e = .returned (.bool true) ∧ J (pre ++ [x]) W' ∧ Kp W W') ∨ (e = .returned (.bool false) ∧ Jx (pre ++ [x]) W'))
    (hC : CK W) (h0 : J [] W) :
    CallsIn Fence.wide n Tryz.prog 105 #[.func (.yield l) #[] #[], .pointer (some ⟨bc, 0, none⟩)] W fun e W' => (∃ v, e = .returned v) ∧
      ((∃ ys, ys = L.attach ∧ J ys W') ∨ (∃ pre, pre <+: L.attach ∧ Jx pre W')) := by
  have HA := hide (fun (m : Int) (W : World) (h : CK W) => above_any m B cb L W (hCK W h).1 hr hlen)
  have hc0 := (hCK W hC).2
  have qf := eqNilY l
  refine callsIn_of_wp Tryz.func105 rfl trivial ?_ rfl
  simp only [Tryz.ntmps105, List.size_toArray, List.length_cons, List.length_nil, Nat.reduceAdd, Nat.reduceSub, Array.replicate_succ, Array.replicate_zero, List.push_toArray, List.append_toArray, List.nil_append, List.cons_append]
  gi_wp2
  refine ⟨trivial, (callsIn_wide.2 (HA.out (-1) W hC)).mono ?_⟩
  rintro e w1 ⟨rfl, hb1⟩
  rw [ab_neg L hpos]
  have hC1 := hide (hk1 _ _ hC hb1)
  have hJ1 := hide (hJ _ _ _ h0 hb1)
  have hS1 := hide hb1.size
  clear hb1 hc0 h0 hC
  gi_wp2
  gi_loopw [3] (fun i wr => ∃ k : Nat, k ≤ L.length ∧ i = .int .i64 (k : Int) ∧ Hid (J (L.attach.take k) wr) ∧ Hid (CK wr) ∧ Hid (W.heap.size ≤ wr.heap.size)) (fun i _ => L.length - (intOf i).toNat)
  case atStart => exact ⟨0, Nat.zero_le _, rfl, hide (by rw [List.take_zero]; exact hJ1.out), hC1, hS1⟩
  case round =>
    obtain ⟨k, hk, rfl, HJ, HC, HS⟩ := hrel
    obtain ⟨a, cap, c0, hL⟩ := (hCK wr HC.out).1.parts
    have cc := (hCK wr HC.out).2
    by_cases hlt : k < L.length
    · obtain ⟨q, hq⟩ : ∃ q, L.attach[k]? = some q := ⟨_, List.getElem?_eq_getElem (by simpa using hlt)⟩
      obtain ⟨p, hpm⟩ := q
      have hp : L[k]? = some p := by
        have h1 := congrArg (Option.map Subtype.val) hq
        rw [← List.getElem?_map, List.attach_map_subtype_val] at h1
        exact h1
      have HQ := hide hq
      clear hq
      obtain ⟨g, off, rfl, c1, c2⟩ := hL k p hp
      have HR : Hid (wr.rangeAt g (off + k * 2) (vrC p).toList) := hide (fun j u hj => by
        match j, hj with
        | 0, hj => cases hj; exact c1
        | 1, hj => cases hj; exact c2)
      have hd1 : decide ((k : Int) < (L.length : Int)) = true := by rw [decide_eq_true_eq]; omega
      have k0 : (0 : Int) ≤ (k : Int) := by omega
      have k1 : (k : Int) < (L.length : Int) := by omega
      have HP := hide hp
      obtain ⟨W2, hW2⟩ : ∃ W2, wr.alloc (.cells #[.int .i64 p.1, .int .i64 p.2] 148) = W2 := ⟨_, rfl⟩
      have hb2 : Below wr.heap.size wr W2 := by rw [← hW2]; exact (Below.refl _ _).alloc (Nat.le_refl _) _
      have hN2 : Hid (W2.heap[wr.heap.size]? = some (.cells #[.int .i64 p.1, .int .i64 p.2] 148 (0, 0))) := hide (by rw [← hW2]; exact alloc_newV wr _)
      have b0 : W2.cell? ⟨wr.heap.size, 0, none⟩ = some (.int .i64 p.1) := by rw [cell_of_row _ _ _ _ _ _ hN2.out]; rfl
      have b1 : W2.cell? ⟨wr.heap.size, 1, none⟩ = some (.int .i64 p.2) := by rw [cell_of_row _ _ _ _ _ _ hN2.out]; rfl
      have HC2 := hide (hk1 _ _ HC.out hb2)
      have HS2 := hide hb2.size
      obtain ⟨fn, tmps, assign, body, hy, hR⟩ := hY (L.attach.take k) ⟨p, hpm⟩ W2 (hJ _ _ _ HJ.out hb2) (by rw [List.length_take]; omega)
      dsimp only [encV] at hy
      have HRR := hide hR
      clear hR hb2 hL c1 c2 hp hY
      gi_wp2_with (first
        | (refine wpListIn_load_mid rfl 148 _ rfl g (off + k * 2) rfl (vrC p).toList _ HR.out Tryz.underlying148 rfl Tryz.sizeVerI ?_; rw [Array.toArray_toList]; unfold vrC)
        | (refine wpListIn_store_row rfl 148 _ _ rfl wr.heap.size #[.int .i64 p.1, .int .i64 p.2] rfl rfl _ _ (alloc_newV wr _) Tryz.sizeVerI rfl (by simp [Value.oneCell']) ?_; rw [World.setRow_alloc_new]))
      refine HRR.out.mono ?_
      rintro e W3 (⟨rfl, hJ3, hk3⟩ | ⟨rfl, hJx3⟩)
      · have HC3 := hide (hk2 _ _ HC2.out hk3)
        have hN3 := hkb _ _ _ _ hk3 HS.out hN2.out
        have b3 : W3.cell? ⟨wr.heap.size, 0, none⟩ = some (.int .i64 p.1) := by rw [cell_of_row _ _ _ _ _ _ hN3]; rfl
        have c3 := (hCK W3 HC3.out).2
        have HZ3 : Hid (wr.heap.size < W3.heap.size) := hide (Array.getElem?_eq_some_iff.1 hN3).1
        have HJ3 := hide hJ3
        clear hk3 hJ3 hN3 hW2 b0 b1 cc c0
        gi_wp2
        refine ⟨trivial, (callsIn_wide.2 (HA.out p.1 W3 HC3.out)).mono ?_⟩
        rintro e w4 ⟨rfl, hb4⟩
        rw [ab_self L k p hr HP.out]
        have HJ4 : Hid (J (L.attach.take (k + 1)) w4) := hide (by rw [List.take_add_one, HQ.out]; exact hJ _ _ _ HJ3.out hb4)
        have HC4 := hide (hk1 _ _ HC3.out hb4)
        have HS4 : Hid (W.heap.size ≤ w4.heap.size) := hide (by have := HS.out; have := HZ3.out; have := hb4.size; omega)
        clear hb4
        gi_wp2
        go_roundw
        case rel => exact ⟨k + 1, by omega, by first | rfl | go_num, HJ4, HC4, HS4⟩
        case measure => simp [intOf]; omega
      · have HX3 := hide hJx3
        clear hJx3
        gi_wp2
        refine bodyPost_ret (results_none rfl _ _ _) rfl ?_
        exact ⟨⟨_, rfl⟩, .inr ⟨L.attach.take k ++ [⟨p, hpm⟩], by
          have e : L.attach.take k ++ [⟨p, hpm⟩] = L.attach.take (k + 1) := by rw [List.take_add_one, HQ.out]; rfl
          rw [e]; exact List.take_prefix _ _, HX3.out⟩⟩
    · have e : k = L.length := by omega
      subst e
      gi_wp2
      go_end0
      exact ⟨⟨_, rfl⟩, .inl ⟨L.attach, rfl, by have := HJ.out; rw [List.take_of_length_le (by simp)] at this; exact this⟩⟩
/-- What All answers, as a walk. -/
theorem all_stops (n : Nat) (hn : 1 ≤ n) (bc B cb : Nat) (L : List Ver) (CK : World → Prop) (Kp : World → World → Prop) (hr : Ris L) (hpos : ∀ p ∈ L, 0 ≤ p.1) (hlen : L.length ≤ 4611686018427387904)
    (hCK : ∀ W, CK W → CH W B cb L ∧ W.cell? ⟨bc, 0, none⟩ = some (.pointer (some ⟨cb, 0, none⟩))) (hk1 : ∀ W W', CK W → Below W.heap.size W W' → CK W') (hk2 : ∀ W W', CK W → Kp W W' → CK W')
    (w : World) (hkb : ∀ A C g c, Kp A C → w.heap.size ≤ g → A.heap[g]? = some (.cells c 148 (0, 0)) → C.heap[g]? = some (.cells c 148 (0, 0))) (hC : CK w) :
    SeqStopsK Fence.wide n Tryz.prog 105 #[.pointer (some ⟨bc, 0, none⟩)] encV Kp (fun ys => ys = L.attach) (fun pre => pre <+: L.attach) L.length w := by
  intro l J Jx W hW hJ _ hY h0
  exact all1_in n hn l bc B cb L CK Kp J Jx hr hpos hlen hCK hk1 hk2 (fun s A C hs hb => hJ s A C none hs (grown_of_below hb) (fun r e => by cases e)) W (fun A C g c hk hg h => hkb A C g c hk (Nat.le_trans hW.size hg) h) hY (hk1 _ _ hC hW) h0
end Go.Proofs.YtehacdijleommaaGreatDoor.CI
namespace Go.Proofs.YtehacdijleommaaGreatDoor.CI
open Go.RowKit

/-- An act: is it a pruning, its number, its text. -/
abbrev Ac := Bool × Int × Int
def lastN (L : List Ver) : Int := match L[L.length - 1]? with | some p => p.1 | none => -1
theorem lastN_nil : lastN [] = -1 := rfl
theorem lastN_snoc (L : List Ver) (p : Ver) : lastN (L ++ [p]) = p.1 := by
  unfold lastN
  have : (L ++ [p])[(L ++ [p]).length - 1]? = some p := by
    rw [List.length_append]
    simp
  rw [this]
theorem lastN_at {L : List Ver} {p : Ver} (h : L[L.length - 1]? = some p) : lastN L = p.1 := by unfold lastN; rw [h]
theorem snoc_cases (L : List Ver) : L = [] ∨ ∃ K p, L = K ++ [p] := by
  rcases List.eq_nil_or_concat L with h | ⟨K, p, h⟩
  · exact .inl h
  · exact .inr ⟨K, p, by rw [h]; simp⟩
theorem ris_snoc : ∀ (L : List Ver) (p : Ver), Ris L → (∀ q ∈ L, q.1 < p.1) → Ris (L ++ [p])
  | [], p, _, _ => ⟨fun q hq => (by cases hq), trivial⟩
  | a :: r, p, h, hp => ⟨fun q hq => by
      rcases List.mem_append.1 hq with hq | hq
      · exact h.1 q hq
      · rw [List.mem_singleton.1 hq]; exact hp a (List.mem_cons_self ..), ris_snoc r p h.2 (fun q hq => hp q (List.mem_cons_of_mem _ hq))⟩
theorem ris_last : ∀ (L : List Ver), Ris L → ∀ q ∈ L, q.1 ≤ lastN L := by
  intro L
  rcases snoc_cases L with rfl | ⟨K, p, rfl⟩
  · intro _ q hq; cases hq
  · intro h q hq
    rw [lastN_snoc]
    have hs : ∀ (K : List Ver), Ris (K ++ [p]) → ∀ q ∈ K, q.1 < p.1 := by
      intro K
      induction K with
      | nil => intro _ q hq; cases hq
      | cons a r ih =>
        intro h q hq
        rcases List.mem_cons.1 hq with rfl | hq
        · exact h.1 p (List.mem_append.2 (.inr (List.mem_singleton.2 rfl)))
        · exact ih h.2 q hq
    rcases List.mem_append.1 hq with hq | hq
    · have := hs K h q hq; omega
    · rw [List.mem_singleton.1 hq]; exact Int.le_refl _
theorem ab_snoc (n : Int) : ∀ (L : List Ver) (p : Ver), (∀ q ∈ L, q.1 < p.1) → ab n (L ++ [p]) = if p.1 ≤ n then L.length + 1 else ab n L
  | [], p, _ => by
    show ab n [p] = _
    unfold ab
    by_cases h : p.1 ≤ n
    · rw [if_neg (by omega), if_pos h]; rfl
    · rw [if_pos (by omega), if_neg h]
  | a :: r, p, h => by
    have h1 := h a (List.mem_cons_self ..)
    have ih := ab_snoc n r p (fun q hq => h q (List.mem_cons_of_mem _ hq))
    show ab n (a :: (r ++ [p])) = _
    unfold ab
    by_cases ha : n < a.1
    · rw [if_pos ha, if_pos ha, if_neg (by omega)]
    · rw [if_neg ha, if_neg ha, ih]
      split <;> simp only [List.length_cons]
end Go.Proofs.YtehacdijleommaaGreatDoor.CI
namespace Go.Proofs.YtehacdijleommaaGreatDoor.CI
open Go.RowKit Go.Shelf

/-- A box: one cell of its own. -/
def Box (W : World) (b : Nat) (t : TypeId) (u : Value) : Prop := W.heap[b]? = some (.cells #[u] t (0, 0))
theorem Box.lt {W : World} {b : Nat} {t : TypeId} {u : Value} (h : Box W b t u) : b < W.heap.size := (Array.getElem?_eq_some_iff.1 h).1
theorem Box.later {W W' : World} {b : Nat} {t : TypeId} {u : Value} (h : Box W b t u) (hb : Below W.heap.size W W') : Box W' b t u := (hb.block b h.lt).trans h
theorem Box.cell {W : World} {b : Nat} {t : TypeId} {u : Value} (h : Box W b t u) : W.cell? ⟨b, 0, none⟩ = some u := by rw [cell_of_row W b 0 _ _ _ h]; rfl
theorem Box.frozen {W : World} {b : Nat} {t : TypeId} {u : Value} (h : Box W b t u) : W.frozen? ⟨b, 0, none⟩ = false := by
  have h' : W.heap[b]? = some (.cells #[u] t (0, 0)) := h
  unfold World.frozen?; simp [h']
theorem Box.new (W : World) (t : TypeId) (u : Value) : Box (W.alloc (.cells #[u] t)) W.heap.size t u := alloc_newV W _
theorem Box.set {W : World} {b : Nat} {t : TypeId} {u : Value} (h : Box W b t u) (u' : Value) : Box (W.setCell ⟨b, 0, none⟩ u') b t u' := by
  unfold Box
  rw [setCell_eq_setRow W b 0 _ _ _ u' h]
  exact setRow_heap W b _ _ _ _ h
theorem Box.other {W : World} {b c : Nat} {t : TypeId} {u : Value} (h : Box W b t u) (hne : b ≠ c) (u' : Value) : Box (W.setCell ⟨c, 0, none⟩ u') b t u := (Below.heap_setCell _ _ _ b hne).trans h
theorem CH.row_ne {W : World} {B cb b : Nat} {L : List Ver} {c : Array Value} {t : TypeId} {fz : Nat × Nat} (h : CH W B cb L) (hb : W.heap[b]? = some (.cells c t fz)) (ht : t ≠ 148) : ∀ v, W.cell? ⟨cb, 0, none⟩ = some v → v.ownBlock ≠ some b := by
  obtain ⟨_, v, em, hh, ho, hn⟩ := h
  intro v' hv' e
  have hc : W.cell? ⟨cb, 0, none⟩ = some v := by rw [cell_of_row W cb 0 _ _ _ hh]; rfl
  rw [hc] at hv'
  cases hv'
  rcases ho.2 with ⟨rfl, _⟩ | ⟨g, off, cap, cur, rfl, _, hg, _⟩
  · cases e
  · cases e
    rw [hb] at hg
    injection hg with hg
    injection hg with _ hg _
    exact ht hg
theorem Fr.box {W w' : World} {B cb b : Nat} {L : List Ver} {t : TypeId} {u : Value} (hf : Fr W w' cb) (h : CH W B cb L) (hb : Box W b t u) (ht : t ≠ 148) (hne : b ≠ cb) : Box w' b t u :=
  (hf.block b hb.lt hne (h.row_ne hb ht)).trans hb
theorem CH.set {W : World} {B cb b : Nat} {L : List Ver} {t : TypeId} {u : Value} (h : CH W B cb L) (hb : Box W b t u) (ht : t ≠ 148) (hne : b ≠ cb) (u' : Value) : CH (W.setCell ⟨b, 0, none⟩ u') B cb L := by
  have hr := h.row_ne hb ht
  obtain ⟨h1, v, em, hh, ho, hn⟩ := h
  have hc : W.cell? ⟨cb, 0, none⟩ = some v := by rw [cell_of_row W cb 0 _ _ _ hh]; rfl
  exact ⟨h1, v, em, (Below.heap_setCell _ _ _ cb (Ne.symm hne)).trans hh, ho.kept (fun g hg => Below.heap_setCell _ _ _ g (fun e => hr v hc (by have e' : g = b := e; rw [← e']; exact hg))), hn⟩
theorem size_set (W : World) (p : Addr) (u : Value) : (W.setCell p u).heap.size = W.heap.size := by simp [World.setCell]
theorem grown_cells {W W' : World} {row : Option Nat} (hg : W.grownBy W' row) (hr : ∀ r, row = some r → ∃ o : Obj, W.heap[r]? = some o ∧ o.isCells = false) {b : Nat} {c : Array Value} {t : TypeId} {fz : Nat × Nat} (h : W.heap[b]? = some (.cells c t fz)) : W'.heap[b]? = some (.cells c t fz) := by
  refine (hg.block b (Array.getElem?_eq_some_iff.1 h).1 (fun e => ?_)).trans h
  obtain ⟨o, ho, hc⟩ := hr b e.symm
  rw [h] at ho
  cases ho
  cases hc
theorem CH.grown {W W' : World} {B cb : Nat} {L : List Ver} {row : Option Nat} (h : CH W B cb L) (hg : W.grownBy W' row) (hr : ∀ r, row = some r → ∃ o : Obj, W.heap[r]? = some o ∧ o.isCells = false) : CH W' B cb L := by
  obtain ⟨q1, v, em, hh, ho, hn⟩ := h
  refine ⟨q1, v, em, grown_cells hg hr hh, ho.kept (fun g hgg => ?_), hn⟩
  rcases ho.2 with ⟨rfl, _⟩ | ⟨g', off, cap, cur, rfl, _, h2, _⟩
  · cases hgg
  · obtain rfl : g' = g := Option.some.inj hgg
    rw [h2]; exact grown_cells hg hr h2
end Go.Proofs.YtehacdijleommaaGreatDoor.CI
