/-
  My own text: HC7, HC8, HC9, HC11 in one.
-/
import Derived.Test.YtehacdijleommaaGreatDoorHC6
import Derived.RangeFuncNested
import Derived.RangeFuncBound
import Derived.RangeFuncCalls
import Derived.RangeFuncLeaves
import Derived.RangeFuncFrom
import Derived.Shelf.Abstract
import Derived.Shelf.RegionOpen
import Derived.WalkKit
import Derived.OwnWalkIn
import Derived.TacticsInMore
import Derived.LoopNIn
import Derived.LoopIn
namespace Go.Proofs.YtehacdijleommaaGreatDoor
open Go.RowKit Go.Shelf

attribute [local go_sem] Oper.semAt_some

theorem ab_self : ∀ (L : List Ver) (k : Nat) (p : Ver), Ris L → L[k]? = some p → ab p.1 L = k + 1
  | q :: r, 0, p, hr, hp => by
    obtain rfl : q = p := Option.some.inj hp
    unfold ab
    rw [if_neg (by omega)]
    have h0 : ab q.1 r = 0 := by
      cases r with
      | nil => rfl
      | cons a t => unfold ab; rw [if_pos (hr.1 a (List.mem_cons_self ..))]
    rw [h0]
  | q :: r, k + 1, p, hr, hp => by
    have h1 : q.1 < p.1 := hr.1 p (List.mem_of_getElem? hp)
    unfold ab
    rw [if_neg (by omega), ab_self r k p hr.2 hp]
theorem ab_neg (L : List Ver) (h : ∀ p ∈ L, 0 ≤ p.1) : ab (-1) L = 0 := by
  cases L with
  | nil => rfl
  | cons a t => unfold ab; rw [if_pos (by have := h a (List.mem_cons_self ..); omega)]
theorem grown_of_below {W W' : World} (hb : Below W.heap.size W W') : W.grownBy W' none := ⟨hb.os, hb.tape, hb.output, hb.size, fun k hk _ => hb.block k hk⟩
theorem keeps_of_below {W W' : World} (hb : Below W.heap.size W W') : KeepsOthers W W' := ⟨hb.size, fun k _ hk _ => (hb.block k (Array.getElem?_eq_some_iff.1 hk).1).trans hk⟩
theorem wpListIn_load_mid {F : Fence} {n : Nat} {P : Program} {ops : Array Oper} {rest : List Oper} {op : Oper} {a : Act} {w : World} {Q : Exit → Act → World → Prop} (hgd : op.guard = none) (ty : TypeId) (x : Operand) (ho : op.op = .load ty x)
    (b o : Nat) (hx : a.eval x = .pointer (some ⟨b, o, none⟩)) (cs : List Value) (d : TypeDesc) (hc : w.rangeAt b o cs)
    (hu : P.underlying ty = some d) (hd : d.isRow = true) (hi : (P.info? ty).map (·.size) = some cs.length)
    (h : wpListIn F n P ops Q rest (a.put op.dst (.agg cs.toArray)) w) : wpListIn F n P ops Q (op :: rest) a w := by
  refine wpListIn_plain hgd fun K hK' => ?_
  unfold Oper.wpIn
  refine ⟨by simp [Oper.about, ho], ?_⟩
  rw [Oper.semAt_plain F _ _ (by rw [ho]; intro c hc'; cases hc')]
  unfold execOp
  simp only [ho, hx, Instr.loadAt, Instr.sureAddr, Sem.run_bind, Sem.run_pure, Result.andThen_ok, run_loadVar_mid w b o ty cs d hc hu hd hi]
  exact hK' _ _ h
theorem wpListIn_store_row {F : Fence} {n : Nat} {P : Program} {ops : Array Oper} {rest : List Oper} {o : Oper} {a : Act} {w : World} {Q : Exit → Act → World → Prop} (hgd : o.guard = none) (ty : TypeId) (x y : Operand) (ho : o.op = .store ty x y)
    (g : Nat) (cells : Array Value) (hx : a.eval x = .pointer (some ⟨g, 0, none⟩)) (hy : a.eval y = .agg cells)
    (t : TypeId) (old : Array Value) (hg : w.heap[g]? = some (.cells old t (0, 0))) (hi : (P.info? ty).map (·.size) = some cells.size)
    (hold : old.size = cells.size) (h1 : cells.all (·.oneCell') = true)
    (h : wpListIn F n P ops Q rest (a.put o.dst undef) (w.setRow g cells)) : wpListIn F n P ops Q (o :: rest) a w := by
  refine wpListIn_plain hgd fun K hK' => ?_
  unfold Oper.wpIn
  refine ⟨by simp [Oper.about, ho], ?_⟩
  rw [Oper.semAt_plain F _ _ (by rw [ho]; intro c hc'; cases hc')]
  unfold execOp
  simp only [ho, hx, hy, Instr.storeAt, Instr.sureAddr, Sem.run_bind, Sem.run_pure, Result.andThen_ok, run_storeVar_row w g t ty old cells hg hi hold h1]
  exact hK' _ _ h
theorem eqNilY (l : Nat) (W : World) : (binOp .eql 177 (.func (Fn.yield l) #[] #[]) .nilFunc).run Tryz.prog W = .ok (.bool false) W := by kernel_rfl
/-- The two values that a round is handed. -/
def encV {L : List Ver} (p : { q : Ver // q ∈ L }) : Array Value := #[.int .i64 p.1.1, .string ⟨p.1.2.toArray⟩]
set_option maxRecDepth 100000 in
set_option maxHeartbeats 2000000 in
theorem all_any (cb : Nat) (w : World) :
    Calls Tryz.prog 86 #[.pointer (some ⟨cb, 0, none⟩)] w fun e w' => e = .returned (.func (Fn.func 102) #[] #[.pointer (some ⟨w.heap.size, 0, none⟩)]) ∧ w' = w.alloc (.cells #[.pointer (some ⟨cb, 0, none⟩)] 62) := by
  go_enter Tryz.func86, Tryz.ntmps86
  go_wp2_with fail
  go_ret
  exact ⟨rfl, rfl⟩
set_option maxRecDepth 100000 in
set_option maxHeartbeats 4000000 in
theorem all1_in (n : Nat) (hn : 1 ≤ n) (l bc B cb : Nat) (L : List Ver) (CK : World → Prop) (Kp : World → World → Prop) (J Jx : List { q : Ver // q ∈ L } → World → Prop) (hr : Ris L) (hpos : ∀ p ∈ L, 0 ≤ p.1) (hlen : L.length ≤ 4611686018427387904)
    (hCK : ∀ W, CK W → CH W B cb L ∧ W.cell? ⟨bc, 0, none⟩ = some (.pointer (some ⟨cb, 0, none⟩))) (hk1 : ∀ W W', CK W → Below W.heap.size W W' → CK W') (hk2 : ∀ W W', CK W → Kp W W' → CK W')
    (hJ : ∀ s W W', J s W → Below W.heap.size W W' → J s W')
    (W : World) (hkb : ∀ A C g c, Kp A C → W.heap.size ≤ g → A.heap[g]? = some (.cells c 111 (0, 0)) → C.heap[g]? = some (.cells c 111 (0, 0)))
    (hY : ∀ pre x W, J pre W → pre.length < L.length → YieldAt Fence.wide (n - 1) Tryz.prog l (encV x) W fun e W' =>
      (e = .returned (.bool true) ∧ J (pre ++ [x]) W' ∧ Kp W W') ∨ (e = .returned (.bool false) ∧ Jx (pre ++ [x]) W'))
    (hC : CK W) (h0 : J [] W) :
    CallsIn Fence.wide n Tryz.prog 102 #[.func (.yield l) #[] #[], .pointer (some ⟨bc, 0, none⟩)] W fun e W' => (∃ v, e = .returned v) ∧
      ((∃ ys, ys = L.attach ∧ J ys W') ∨ (∃ pre, pre <+: L.attach ∧ Jx pre W')) := by
  have HA := hide (fun (m : Int) (W : World) (h : CK W) => above_any m B cb L W (hCK W h).1 hr hlen)
  have hc0 := (hCK W hC).2
  have qf := eqNilY l
  refine callsIn_of_wp Tryz.func102 rfl trivial ?_ rfl
  simp only [Tryz.ntmps102, List.size_toArray, List.length_cons, List.length_nil, Nat.reduceAdd, Nat.reduceSub, Array.replicate_succ, Array.replicate_zero, List.push_toArray, List.append_toArray, List.nil_append, List.cons_append]
  gi_wp2
  refine ⟨trivial, (callsIn_wide.2 (HA.out (-1) W hC)).mono ?_⟩
  rintro e w1 ⟨rfl, hb1⟩
  rw [ab_neg L hpos]
  have hC1 := hide (hk1 _ _ hC hb1)
  have hJ1 := hide (hJ _ _ _ h0 hb1)
  have hS1 := hide hb1.size
  clear hb1 hc0 h0 hC
  gi_wp2
  gi_loopw [3] (fun i wr => ∃ k : Nat, k ≤ L.length ∧ i = .int .i64 (k : Int) ∧ Hid (J (L.attach.take k) wr) ∧ Hid (CK wr) ∧ Hid (W.heap.size ≤ wr.heap.size)) (fun i _ => L.length - (intOf i).toNat)
  case atStart => exact ⟨0, Nat.zero_le _, rfl, hide (by rw [List.take_zero]; exact hJ1.out), hC1, hS1⟩
  case round =>
    obtain ⟨k, hk, rfl, HJ, HC, HS⟩ := hrel
    obtain ⟨a, cap, c0, hL⟩ := (hCK wr HC.out).1.parts
    have cc := (hCK wr HC.out).2
    by_cases hlt : k < L.length
    · obtain ⟨q, hq⟩ : ∃ q, L.attach[k]? = some q := ⟨_, List.getElem?_eq_getElem (by simpa using hlt)⟩
      obtain ⟨p, hpm⟩ := q
      have hp : L[k]? = some p := by
        have h1 := congrArg (Option.map Subtype.val) hq
        rw [← List.getElem?_map, List.attach_map_subtype_val] at h1
        exact h1
      have HQ := hide hq
      clear hq
      obtain ⟨g, off, rfl, c1, c2⟩ := hL k p hp
      have HR : Hid (wr.rangeAt g (off + k * 2) (vrC p).toList) := hide (fun j u hj => by
        match j, hj with
        | 0, hj => cases hj; exact c1
        | 1, hj => cases hj; exact c2)
      have hd1 : decide ((k : Int) < (L.length : Int)) = true := by rw [decide_eq_true_eq]; omega
      have k0 : (0 : Int) ≤ (k : Int) := by omega
      have k1 : (k : Int) < (L.length : Int) := by omega
      have HP := hide hp
      obtain ⟨W2, hW2⟩ : ∃ W2, wr.alloc (.cells #[.int .i64 p.1, .string ⟨p.2.toArray⟩] 111) = W2 := ⟨_, rfl⟩
      have hb2 : Below wr.heap.size wr W2 := by rw [← hW2]; exact (Below.refl _ _).alloc (Nat.le_refl _) _
      have hN2 : Hid (W2.heap[wr.heap.size]? = some (.cells #[.int .i64 p.1, .string ⟨p.2.toArray⟩] 111 (0, 0))) := hide (by rw [← hW2]; exact alloc_newV wr _)
      have b0 : W2.cell? ⟨wr.heap.size, 0, none⟩ = some (.int .i64 p.1) := by rw [cell_of_row _ _ _ _ _ _ hN2.out]; rfl
      have b1 : W2.cell? ⟨wr.heap.size, 1, none⟩ = some (.string ⟨p.2.toArray⟩) := by rw [cell_of_row _ _ _ _ _ _ hN2.out]; rfl
      have HC2 := hide (hk1 _ _ HC.out hb2)
      have HS2 := hide hb2.size
      obtain ⟨fn, tmps, assign, body, hy, hR⟩ := hY (L.attach.take k) ⟨p, hpm⟩ W2 (hJ _ _ _ HJ.out hb2) (by rw [List.length_take]; omega)
      dsimp only [encV] at hy
      have HRR := hide hR
      clear hR hb2 hL c1 c2 hp hY
      gi_wp2_with (first
        | (refine wpListIn_load_mid rfl 111 _ rfl g (off + k * 2) rfl (vrC p).toList _ HR.out Tryz.underlying111 rfl Tryz.sizeVer ?_; rw [Array.toArray_toList]; unfold vrC)
        | (refine wpListIn_store_row rfl 111 _ _ rfl wr.heap.size #[.int .i64 p.1, .string ⟨p.2.toArray⟩] rfl rfl _ _ (alloc_newV wr _) Tryz.sizeVer rfl (by simp [Value.oneCell']) ?_; rw [World.setRow_alloc_new]))
      refine HRR.out.mono ?_
      rintro e W3 (⟨rfl, hJ3, hk3⟩ | ⟨rfl, hJx3⟩)
      · have HC3 := hide (hk2 _ _ HC2.out hk3)
        have hN3 := hkb _ _ _ _ hk3 HS.out hN2.out
        have b3 : W3.cell? ⟨wr.heap.size, 0, none⟩ = some (.int .i64 p.1) := by rw [cell_of_row _ _ _ _ _ _ hN3]; rfl
        have c3 := (hCK W3 HC3.out).2
        have HZ3 : Hid (wr.heap.size < W3.heap.size) := hide (Array.getElem?_eq_some_iff.1 hN3).1
        have HJ3 := hide hJ3
        clear hk3 hJ3 hN3 hW2 b0 b1 cc c0
        gi_wp2
        refine ⟨trivial, (callsIn_wide.2 (HA.out p.1 W3 HC3.out)).mono ?_⟩
        rintro e w4 ⟨rfl, hb4⟩
        rw [ab_self L k p hr HP.out]
        have HJ4 : Hid (J (L.attach.take (k + 1)) w4) := hide (by rw [List.take_add_one, HQ.out]; exact hJ _ _ _ HJ3.out hb4)
        have HC4 := hide (hk1 _ _ HC3.out hb4)
        have HS4 : Hid (W.heap.size ≤ w4.heap.size) := hide (by have := HS.out; have := HZ3.out; have := hb4.size; omega)
        clear hb4
        gi_wp2
        go_roundw
        case rel => exact ⟨k + 1, by omega, by first | rfl | go_num, HJ4, HC4, HS4⟩
        case measure => simp [intOf]; omega
      · have HX3 := hide hJx3
        clear hJx3
        gi_wp2
        refine bodyPost_ret (results_none rfl _ _ _) rfl ?_
        exact ⟨⟨_, rfl⟩, .inr ⟨L.attach.take k ++ [⟨p, hpm⟩], by
          have e : L.attach.take k ++ [⟨p, hpm⟩] = L.attach.take (k + 1) := by rw [List.take_add_one, HQ.out]; rfl
          rw [e]; exact List.take_prefix _ _, HX3.out⟩⟩
    · have e : k = L.length := by omega
      subst e
      gi_wp2
      go_end0
      exact ⟨⟨_, rfl⟩, .inl ⟨L.attach, rfl, by have := HJ.out; rw [List.take_of_length_le (by simp)] at this; exact this⟩⟩
/-- What All answers, as a walk. -/
theorem all_stops (n : Nat) (hn : 1 ≤ n) (bc B cb : Nat) (L : List Ver) (CK : World → Prop) (Kp : World → World → Prop) (hr : Ris L) (hpos : ∀ p ∈ L, 0 ≤ p.1) (hlen : L.length ≤ 4611686018427387904)
    (hCK : ∀ W, CK W → CH W B cb L ∧ W.cell? ⟨bc, 0, none⟩ = some (.pointer (some ⟨cb, 0, none⟩))) (hk1 : ∀ W W', CK W → Below W.heap.size W W' → CK W') (hk2 : ∀ W W', CK W → Kp W W' → CK W')
    (w : World) (hkb : ∀ A C g c, Kp A C → w.heap.size ≤ g → A.heap[g]? = some (.cells c 111 (0, 0)) → C.heap[g]? = some (.cells c 111 (0, 0))) (hC : CK w) :
    SeqStopsK Fence.wide n Tryz.prog 102 #[.pointer (some ⟨bc, 0, none⟩)] encV Kp (fun ys => ys = L.attach) (fun pre => pre <+: L.attach) L.length w := by
  intro l J Jx W hW hJ _ hY h0
  exact all1_in n hn l bc B cb L CK Kp J Jx hr hpos hlen hCK hk1 hk2 (fun s A C hs hb => hJ s A C none hs (grown_of_below hb) (fun r e => by cases e)) W (fun A C g c hk hg h => hkb A C g c hk (Nat.le_trans hW.size hg) h) hY (hk1 _ _ hC hW) h0
end Go.Proofs.YtehacdijleommaaGreatDoor
namespace Go.Proofs.YtehacdijleommaaGreatDoor
open Go.RowKit

theorem ris1 (p : Ver) : Ris [p] := ⟨fun q hq => (by cases hq), trivial⟩
end Go.Proofs.YtehacdijleommaaGreatDoor
namespace Go.Proofs.YtehacdijleommaaGreatDoor
open Go.RowKit

/-- An act: is it a pruning, its number, its text. -/
abbrev Ac := Bool × Int × List UInt8
def lastN (L : List Ver) : Int := match L[L.length - 1]? with | some p => p.1 | none => -1
theorem lastN_nil : lastN [] = -1 := rfl
theorem lastN_snoc (L : List Ver) (p : Ver) : lastN (L ++ [p]) = p.1 := by
  unfold lastN
  have : (L ++ [p])[(L ++ [p]).length - 1]? = some p := by
    rw [List.length_append]
    simp
  rw [this]
theorem lastN_at {L : List Ver} {p : Ver} (h : L[L.length - 1]? = some p) : lastN L = p.1 := by unfold lastN; rw [h]
theorem snoc_cases (L : List Ver) : L = [] ∨ ∃ K p, L = K ++ [p] := by
  rcases List.eq_nil_or_concat L with h | ⟨K, p, h⟩
  · exact .inl h
  · exact .inr ⟨K, p, by rw [h]; simp⟩
theorem ris_snoc : ∀ (L : List Ver) (p : Ver), Ris L → (∀ q ∈ L, q.1 < p.1) → Ris (L ++ [p])
  | [], p, _, _ => ⟨fun q hq => (by cases hq), trivial⟩
  | a :: r, p, h, hp => ⟨fun q hq => by
      rcases List.mem_append.1 hq with hq | hq
      · exact h.1 q hq
      · rw [List.mem_singleton.1 hq]; exact hp a (List.mem_cons_self ..), ris_snoc r p h.2 (fun q hq => hp q (List.mem_cons_of_mem _ hq))⟩
theorem ris_last : ∀ (L : List Ver), Ris L → ∀ q ∈ L, q.1 ≤ lastN L := by
  intro L
  rcases snoc_cases L with rfl | ⟨K, p, rfl⟩
  · intro _ q hq; cases hq
  · intro h q hq
    rw [lastN_snoc]
    have hs : ∀ (K : List Ver), Ris (K ++ [p]) → ∀ q ∈ K, q.1 < p.1 := by
      intro K
      induction K with
      | nil => intro _ q hq; cases hq
      | cons a r ih =>
        intro h q hq
        rcases List.mem_cons.1 hq with rfl | hq
        · exact h.1 p (List.mem_append.2 (.inr (List.mem_singleton.2 rfl)))
        · exact ih h.2 q hq
    rcases List.mem_append.1 hq with hq | hq
    · have := hs K h q hq; omega
    · rw [List.mem_singleton.1 hq]; exact Int.le_refl _
theorem ab_snoc (n : Int) : ∀ (L : List Ver) (p : Ver), (∀ q ∈ L, q.1 < p.1) → ab n (L ++ [p]) = if p.1 ≤ n then L.length + 1 else ab n L
  | [], p, _ => by
    show ab n [p] = _
    unfold ab
    by_cases h : p.1 ≤ n
    · rw [if_neg (by omega), if_pos h]; rfl
    · rw [if_pos (by omega), if_neg h]
  | a :: r, p, h => by
    have h1 := h a (List.mem_cons_self ..)
    have ih := ab_snoc n r p (fun q hq => h q (List.mem_cons_of_mem _ hq))
    show ab n (a :: (r ++ [p])) = _
    unfold ab
    by_cases ha : n < a.1
    · rw [if_pos ha, if_pos ha, if_neg (by omega)]
    · rw [if_neg ha, if_neg ha, ih]
      split <;> simp only [List.length_cons]
/-- The chain behind the first k puts. -/
structure NS (n : Int) (ps : List Ac) (k : Nat) (L : List Ver) (last best : Int) : Prop where
  ris : Ris L
  pos : ∀ p ∈ L, 0 ≤ p.1
  max : ∀ p ∈ L, p.1 ≤ 9223372036854775807
  len : L.length ≤ k
  last : last = lastN L
  best : (ab n L = 0 ∧ best = -1) ∨ ∃ (b : Nat) (pr : Bool) (p : Ver), best = (b : Int) ∧ ps[b]? = some (pr, p.1, p.2) ∧ ∃ j, ab n L = j + 1 ∧ L[j]? = some p
theorem NS.start (n : Int) (ps : List Ac) : NS n ps 0 [] (-1) (-1) :=
  ⟨trivial, fun p hp => (by cases hp), fun p hp => (by cases hp), Nat.le_refl _, rfl, .inl ⟨rfl, rfl⟩⟩
theorem NS.low {n : Int} {ps : List Ac} {k : Nat} {L : List Ver} {last best : Int} (h : NS n ps k L last best) : -1 ≤ last := by
  rw [h.last]
  rcases snoc_cases L with rfl | ⟨K, p, rfl⟩
  · exact Int.le_refl _
  · rw [lastN_snoc]; have := h.pos p (List.mem_append.2 (.inr (List.mem_singleton.2 rfl))); omega
theorem NS.skip {n : Int} {ps : List Ac} {k : Nat} {L : List Ver} {last best : Int} (h : NS n ps k L last best) : NS n ps (k + 1) L last best :=
  ⟨h.ris, h.pos, h.max, by have := h.len; omega, h.last, h.best⟩
theorem NS.no {n : Int} {ps : List Ac} {k : Nat} {L : List Ver} {last best N : Int} (h : NS n ps k L last best) (hN : N ≤ last) : N < 0 ∨ ∃ p, L[L.length - 1]? = some p ∧ N ≤ p.1 := by
  rw [h.last] at hN
  rcases snoc_cases L with rfl | ⟨K, p, rfl⟩
  · rw [lastN_nil] at hN; exact .inl (by omega)
  · rw [lastN_snoc] at hN
    exact .inr ⟨p, by rw [List.length_append]; simp, hN⟩
theorem NS.yes {n : Int} {ps : List Ac} {k : Nat} {L : List Ver} {last best N : Int} (h : NS n ps k L last best) (hN : last < N) : 0 ≤ N ∧ ∀ p, L[L.length - 1]? = some p → p.1 < N :=
  ⟨by have := h.low; omega, fun p hp => by rw [← lastN_at hp, ← h.last]; exact hN⟩
theorem NS.put {n : Int} {ps : List Ac} {k : Nat} {L : List Ver} {last best N : Int} {pr : Bool} {V : List UInt8} (h : NS n ps k L last best) (hN : last < N) (hM : N ≤ 9223372036854775807) (hk : ps[k]? = some (pr, N, V)) :
    NS n ps (k + 1) (L ++ [(N, V)]) N (if N ≤ n then (k : Int) else best) := by
  have hq : ∀ q ∈ L, q.1 < N := fun q hq => by have := ris_last L h.ris q hq; rw [← h.last] at this; omega
  refine ⟨ris_snoc L (N, V) h.ris hq, fun p hp => ?_, fun p hp => ?_, by rw [List.length_append]; have := h.len; simp; omega, (lastN_snoc L (N, V)).symm, ?_⟩
  · rcases List.mem_append.1 hp with hp | hp
    · exact h.pos p hp
    · rw [List.mem_singleton.1 hp]; exact (h.yes hN).1
  · rcases List.mem_append.1 hp with hp | hp
    · exact h.max p hp
    · rw [List.mem_singleton.1 hp]; exact hM
  · have e : ab n (L ++ [(N, V)]) = if N ≤ n then L.length + 1 else ab n L := ab_snoc n L (N, V) hq
    by_cases hn : N ≤ n
    · rw [if_pos hn] at e ⊢
      exact .inr ⟨k, pr, (N, V), rfl, hk, L.length, e, by simp⟩
    · rw [if_neg hn] at e ⊢
      rcases h.best with ⟨h1, h2⟩ | ⟨b, pr', p, h1, h2, j, h3, h4⟩
      · exact .inl ⟨e.trans h1, h2⟩
      · exact .inr ⟨b, pr', p, h1, h2, j, e.trans h3, by rw [List.getElem?_append_left (List.getElem?_eq_some_iff.1 h4).1]; exact h4⟩
/-- Acts in memory. -/
def RAc (w : World) (v : Value) (ps : List Ac) : Prop := ∃ a cap, v = .slice a ps.length cap ∧ ∀ (i : Nat) (p : Ac), ps[i]? = some p → ∃ g off, a = some ⟨g, off, none⟩ ∧ w.cell? ⟨g, off + i * 3, none⟩ = some (.bool p.1) ∧ w.cell? ⟨g, off + i * 3 + 1, none⟩ = some (.int .i64 p.2.1) ∧ w.cell? ⟨g, off + i * 3 + 2, none⟩ = some (.string ⟨p.2.2.toArray⟩)
theorem RAc.later {w w' : World} {v : Value} {ps : List Ac} (h : RAc w v ps) (hb : Below w.heap.size w w') : RAc w' v ps := by
  obtain ⟨a, cap, hv, hc⟩ := h
  refine ⟨a, cap, hv, fun i p hp => ?_⟩
  obtain ⟨g, off, ha, h1, h2, h3⟩ := hc i p hp
  exact ⟨g, off, ha, (hb.cell (World.block_lt_of_cell? _ _ h1)).trans h1, (hb.cell (World.block_lt_of_cell? _ _ h2)).trans h2, (hb.cell (World.block_lt_of_cell? _ _ h3)).trans h3⟩
end Go.Proofs.YtehacdijleommaaGreatDoor
namespace Go.Proofs.YtehacdijleommaaGreatDoor
open Go.RowKit Go.Shelf

/-- A box: one cell of its own. -/
def Box (W : World) (b : Nat) (t : TypeId) (u : Value) : Prop := W.heap[b]? = some (.cells #[u] t (0, 0))
theorem Box.lt {W : World} {b : Nat} {t : TypeId} {u : Value} (h : Box W b t u) : b < W.heap.size := (Array.getElem?_eq_some_iff.1 h).1
theorem Box.later {W W' : World} {b : Nat} {t : TypeId} {u : Value} (h : Box W b t u) (hb : Below W.heap.size W W') : Box W' b t u := (hb.block b h.lt).trans h
theorem Box.cell {W : World} {b : Nat} {t : TypeId} {u : Value} (h : Box W b t u) : W.cell? ⟨b, 0, none⟩ = some u := by rw [cell_of_row W b 0 _ _ _ h]; rfl
theorem Box.frozen {W : World} {b : Nat} {t : TypeId} {u : Value} (h : Box W b t u) : W.frozen? ⟨b, 0, none⟩ = false := by
  have h' : W.heap[b]? = some (.cells #[u] t (0, 0)) := h
  unfold World.frozen?; simp [h']
theorem Box.new (W : World) (t : TypeId) (u : Value) : Box (W.alloc (.cells #[u] t)) W.heap.size t u := alloc_newV W _
theorem Box.set {W : World} {b : Nat} {t : TypeId} {u : Value} (h : Box W b t u) (u' : Value) : Box (W.setCell ⟨b, 0, none⟩ u') b t u' := by
  unfold Box
  rw [setCell_eq_setRow W b 0 _ _ _ u' h]
  exact setRow_heap W b _ _ _ _ h
theorem Box.other {W : World} {b c : Nat} {t : TypeId} {u : Value} (h : Box W b t u) (hne : b ≠ c) (u' : Value) : Box (W.setCell ⟨c, 0, none⟩ u') b t u := (Below.heap_setCell _ _ _ b hne).trans h
theorem CH.row_ne {W : World} {B cb b : Nat} {L : List Ver} {c : Array Value} {t : TypeId} {fz : Nat × Nat} (h : CH W B cb L) (hb : W.heap[b]? = some (.cells c t fz)) (ht : t ≠ 111) : ∀ v, W.cell? ⟨cb, 0, none⟩ = some v → v.ownBlock ≠ some b := by
  obtain ⟨_, v, em, hh, ho, hn⟩ := h
  intro v' hv' e
  have hc : W.cell? ⟨cb, 0, none⟩ = some v := by rw [cell_of_row W cb 0 _ _ _ hh]; rfl
  rw [hc] at hv'
  cases hv'
  rcases ho.2 with ⟨rfl, _⟩ | ⟨g, off, cap, cur, rfl, _, hg, _⟩
  · cases e
  · cases e
    rw [hb] at hg
    injection hg with hg
    injection hg with _ hg _
    exact ht hg
theorem Fr.box {W w' : World} {B cb b : Nat} {L : List Ver} {t : TypeId} {u : Value} (hf : Fr W w' cb) (h : CH W B cb L) (hb : Box W b t u) (ht : t ≠ 111) (hne : b ≠ cb) : Box w' b t u :=
  (hf.block b hb.lt hne (h.row_ne hb ht)).trans hb
theorem CH.set {W : World} {B cb b : Nat} {L : List Ver} {t : TypeId} {u : Value} (h : CH W B cb L) (hb : Box W b t u) (ht : t ≠ 111) (hne : b ≠ cb) (u' : Value) : CH (W.setCell ⟨b, 0, none⟩ u') B cb L := by
  have hr := h.row_ne hb ht
  obtain ⟨h1, v, em, hh, ho, hn⟩ := h
  have hc : W.cell? ⟨cb, 0, none⟩ = some v := by rw [cell_of_row W cb 0 _ _ _ hh]; rfl
  exact ⟨h1, v, em, (Below.heap_setCell _ _ _ cb (Ne.symm hne)).trans hh, ho.kept (fun g hg => Below.heap_setCell _ _ _ g (fun e => hr v hc (by have e' : g = b := e; rw [← e']; exact hg))), hn⟩
/-- What the first loop holds. -/
structure LS (w W : World) (br bx bn cb B : Nat) (L : List Ver) : Prop where
  res : Box W br 4 (.bool false)
  box : Box W bx 62 (.pointer (some ⟨cb, 0, none⟩))
  cnt : Box W bn 3 (.int .i64 (L.length : Int))
  ch : CH W B cb L
  low : Below w.heap.size w W
  ne : br ≠ cb ∧ bx ≠ cb ∧ bn ≠ cb ∧ br ≠ bn ∧ bx ≠ bn ∧ w.heap.size ≤ bn ∧ w.heap.size ≤ B
theorem LS.later {w W W' : World} {br bx bn cb B : Nat} {L : List Ver} (h : LS w W br bx bn cb B L) (hb : Below W.heap.size W W') : LS w W' br bx bn cb B L :=
  ⟨h.res.later hb, h.box.later hb, h.cnt.later hb, h.ch.later hb, h.low.trans (hb.mono h.low.size), h.ne⟩
/-- One version more, and counted. -/
theorem LS.put {w W W' : World} {br bx bn cb B : Nat} {L : List Ver} {p : Ver} (h : LS w W br bx bn cb B L) (hc : CH W' B cb (L ++ [p])) (hf : Fr W W' cb) : LS w (W'.setCell ⟨bn, 0, none⟩ (.int .i64 ((L.length : Int) + 1))) br bx bn cb B (L ++ [p]) := by
  obtain ⟨n1, n2, n3, n4, n5, n6, n7⟩ := h.ne
  have r1 := hf.box h.ch h.res (by decide) n1
  have r2 := hf.box h.ch h.box (by decide) n2
  have r3 := hf.box h.ch h.cnt (by decide) n3
  refine ⟨r1.other n4 _, r2.other n5 _, ?_, hc.set r3 (by decide) n3 _, ((h.low).trans ((hf.below h.ch).mono n7)).setCell (p := ⟨bn, 0, none⟩) n6 _, h.ne⟩
  rw [List.length_append]
  exact r3.set _
/-- What a round keeps: all cells but two boxes. -/
def KpN (bat bse : Nat) (A C : World) : Prop := A.heap.size ≤ C.heap.size ∧ (∀ g c t fz, A.heap[g]? = some (.cells c t fz) → g ≠ bat → g ≠ bse → C.heap[g]? = some (.cells c t fz)) ∧ (∀ u, Box A bat 3 u → ∃ u', Box C bat 3 u') ∧ (∀ u, Box A bse 3 u → ∃ u', Box C bse 3 u')
theorem KpN.trans {bat bse : Nat} {A B C : World} (h : KpN bat bse A B) (k : KpN bat bse B C) : KpN bat bse A C :=
  ⟨Nat.le_trans h.1 k.1, fun g c t fz h0 h1 h2 => k.2.1 g c t fz (h.2.1 g c t fz h0 h1 h2) h1 h2, fun u hu => by
    obtain ⟨u1, h1⟩ := h.2.2.1 u hu
    exact k.2.2.1 u1 h1, fun u hu => by
    obtain ⟨u1, h1⟩ := h.2.2.2 u hu
    exact k.2.2.2 u1 h1⟩
theorem KpN.below {bat bse : Nat} {A C : World} (hb : Below A.heap.size A C) : KpN bat bse A C :=
  ⟨hb.size, fun g _ _ _ h _ _ => (hb.block g (Array.getElem?_eq_some_iff.1 h).1).trans h, fun u hu => ⟨u, hu.later hb⟩, fun u hu => ⟨u, hu.later hb⟩⟩
theorem size_set (W : World) (p : Addr) (u : Value) : (W.setCell p u).heap.size = W.heap.size := by simp [World.setCell]
theorem KpN.setA {bat bse : Nat} {W : World} {u : Value} (hne : bat ≠ bse) (h : Box W bat 3 u) (u' : Value) : KpN bat bse W (W.setCell ⟨bat, 0, none⟩ u') :=
  ⟨Nat.le_of_eq (size_set _ _ _).symm, fun g _ _ _ h0 h1 _ => (Below.heap_setCell _ _ _ g h1).trans h0, fun _ _ => ⟨u', h.set u'⟩, fun u1 h1 => ⟨u1, h1.other (Ne.symm hne) u'⟩⟩
theorem KpN.setS {bat bse : Nat} {W : World} {u : Value} (hne : bat ≠ bse) (h : Box W bse 3 u) (u' : Value) : KpN bat bse W (W.setCell ⟨bse, 0, none⟩ u') :=
  ⟨Nat.le_of_eq (size_set _ _ _).symm, fun g _ _ _ h0 _ h1 => (Below.heap_setCell _ _ _ g h1).trans h0, fun u1 h1 => ⟨u1, h1.other hne u'⟩, fun _ _ => ⟨u', h.set u'⟩⟩
theorem KpN.put {bat bse l : Nat} {W : World} {o : Obj} (h : W.heap[l]? = some o) (ho : o.isCells = false) (o' : Obj) : KpN bat bse W (W.putObj l o') := by
  have hn : ∀ g c t fz, W.heap[g]? = some (.cells c t fz) → g ≠ l := fun g c t fz hg e => by
    rw [e, h] at hg
    cases hg
    cases ho
  refine ⟨by simp, fun g c t fz hg _ _ => (World.putObj_heap_other (hn g c t fz hg)).trans hg, fun u hu => ⟨u, (World.putObj_heap_other (hn _ _ _ _ hu)).trans hu⟩, fun u hu => ⟨u, (World.putObj_heap_other (hn _ _ _ _ hu)).trans hu⟩⟩
/-- What the walk holds of a chain. -/
structure CKn (bat bse bc cb : Nat) (L : List Ver) (W : World) : Prop where
  ch : CH W cb cb L
  bx : Box W bc 62 (.pointer (some ⟨cb, 0, none⟩))
  ats : ∃ u, Box W bat 3 u
  ses : ∃ u, Box W bse 3 u
  ne : cb ≠ bat ∧ cb ≠ bse ∧ bc ≠ bat ∧ bc ≠ bse
theorem CKn.later {bat bse bc cb : Nat} {L : List Ver} {W W' : World} (h : CKn bat bse bc cb L W) (hb : Below W.heap.size W W') : CKn bat bse bc cb L W' := by
  obtain ⟨u, hu⟩ := h.ats
  obtain ⟨s, hs⟩ := h.ses
  exact ⟨h.ch.later hb, h.bx.later hb, ⟨u, hu.later hb⟩, ⟨s, hs.later hb⟩, h.ne⟩
theorem CH.kp {bat bse cb B : Nat} {L : List Ver} {W W' : World} (h : CH W B cb L) (ha : ∃ u, Box W bat 3 u) (hs : ∃ u, Box W bse 3 u) (h1 : cb ≠ bat) (h2 : cb ≠ bse) (hk : KpN bat bse W W') : CH W' B cb L := by
  obtain ⟨u, hu⟩ := ha
  obtain ⟨s, hs⟩ := hs
  have r1 := h.row_ne hu (by decide)
  have r2 := h.row_ne hs (by decide)
  obtain ⟨q1, v, em, hh, ho, hn⟩ := h
  have hc : W.cell? ⟨cb, 0, none⟩ = some v := by rw [cell_of_row W cb 0 _ _ _ hh]; rfl
  refine ⟨q1, v, em, hk.2.1 cb _ _ _ hh h1 h2, ho.kept (fun g hg => ?_), hn⟩
  rcases ho.2 with ⟨rfl, _⟩ | ⟨g', off, cap, cur, rfl, _, hgg, _⟩
  · cases hg
  · obtain rfl : g' = g := Option.some.inj hg
    rw [hgg]
    exact hk.2.1 g' _ _ _ hgg (fun e => r1 _ hc (by rw [← e]; rfl)) (fun e => r2 _ hc (by rw [← e]; rfl))
theorem CKn.kp {bat bse bc cb : Nat} {L : List Ver} {W W' : World} (h : CKn bat bse bc cb L W) (hk : KpN bat bse W W') : CKn bat bse bc cb L W' := by
  obtain ⟨u, hu⟩ := h.ats
  obtain ⟨s, hs⟩ := h.ses
  exact ⟨h.ch.kp h.ats h.ses h.ne.1 h.ne.2.1 hk, hk.2.1 bc _ _ _ h.bx h.ne.2.2.1 h.ne.2.2.2, hk.2.2.1 u hu, hk.2.2.2 s hs, h.ne⟩
theorem grown_cells {W W' : World} {row : Option Nat} (hg : W.grownBy W' row) (hr : ∀ r, row = some r → ∃ o : Obj, W.heap[r]? = some o ∧ o.isCells = false) {b : Nat} {c : Array Value} {t : TypeId} {fz : Nat × Nat} (h : W.heap[b]? = some (.cells c t fz)) : W'.heap[b]? = some (.cells c t fz) := by
  refine (hg.block b (Array.getElem?_eq_some_iff.1 h).1 (fun e => ?_)).trans h
  obtain ⟨o, ho, hc⟩ := hr b e.symm
  rw [h] at ho
  cases ho
  cases hc
theorem CH.grown {W W' : World} {B cb : Nat} {L : List Ver} {row : Option Nat} (h : CH W B cb L) (hg : W.grownBy W' row) (hr : ∀ r, row = some r → ∃ o : Obj, W.heap[r]? = some o ∧ o.isCells = false) : CH W' B cb L := by
  obtain ⟨q1, v, em, hh, ho, hn⟩ := h
  refine ⟨q1, v, em, grown_cells hg hr hh, ho.kept (fun g hgg => ?_), hn⟩
  rcases ho.2 with ⟨rfl, _⟩ | ⟨g', off, cap, cur, rfl, _, h2, _⟩
  · cases hgg
  · obtain rfl : g' = g := Option.some.inj hgg
    rw [h2]; exact grown_cells hg hr h2
theorem LS.grown {w W W' : World} {br bx bn cb B : Nat} {L : List Ver} {row : Option Nat} (h : LS w W br bx bn cb B L) (hg : W.grownBy W' row) (hr : ∀ r, row = some r → w.heap.size ≤ r ∧ ∃ o : Obj, W.heap[r]? = some o ∧ o.isCells = false) : LS w W' br bx bn cb B L := by
  have hr' : ∀ r, row = some r → ∃ o : Obj, W.heap[r]? = some o ∧ o.isCells = false := fun r e => (hr r e).2
  refine ⟨grown_cells hg hr' h.res, grown_cells hg hr' h.box, grown_cells hg hr' h.cnt, h.ch.grown hg hr', ?_, h.ne⟩
  refine ⟨hg.os.trans h.low.os, hg.tape.trans h.low.tape, hg.output.trans h.low.output, Nat.le_trans h.low.size hg.size, fun k hk => ?_⟩
  exact (hg.block k (Nat.lt_of_lt_of_le hk h.low.size) (fun e => by have := (hr k e.symm).1; omega)).trans (h.low.block k hk)
/-- A round's store leaves the rest. -/
theorem LS.setO {w W : World} {br bx bn cb B b : Nat} {L : List Ver} {u : Value} (h : LS w W br bx bn cb B L) (hb : Box W b 3 u) (h1 : br ≠ b) (h2 : bx ≠ b) (h3 : bn ≠ b) (h4 : b ≠ cb) (h5 : w.heap.size ≤ b) (u' : Value) : LS w (W.setCell ⟨b, 0, none⟩ u') br bx bn cb B L :=
  ⟨h.res.other h1 u', h.box.other h2 u', h.cnt.other h3 u', h.ch.set hb (by decide) h4 u', h.low.setCell (p := ⟨b, 0, none⟩) h5 u', h.ne⟩
theorem pre_rise {L : List Ver} (hr : Ris L) (hp : ∀ p ∈ L, 0 ≤ p.1) {pre : List { q : Ver // q ∈ L }} {x : { q : Ver // q ∈ L }} (h : pre ++ [x] <+: L.attach) : lastN (pre.map Subtype.val) < x.1.1 := by
  obtain ⟨t, ht⟩ := h
  have h1 := congrArg (List.map Subtype.val) ht
  rw [List.attach_map_subtype_val] at h1
  simp only [List.map_append, List.map_cons, List.append_assoc, List.cons_append, List.nil_append] at h1
  rcases snoc_cases (pre.map Subtype.val) with h0 | ⟨K, p, h0⟩
  · rw [h0, lastN_nil]; have := hp x.1 x.2; omega
  · rw [h0, lastN_snoc]
    rw [h0] at h1
    have hs : ∀ (K : List Ver), Ris (K ++ [p] ++ (x.1 :: t.map Subtype.val)) → p.1 < x.1.1 := by
      intro K
      induction K with
      | nil => intro h; exact h.1 x.1 (List.mem_cons_self ..)
      | cons a r ih => intro h; exact ih h.2
    exact hs K (by rw [h1]; exact hr)
end Go.Proofs.YtehacdijleommaaGreatDoor
