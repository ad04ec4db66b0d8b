/-
  My own text: Credit, Debit, Mark, Unmark, by the program (printed by mkb7.py).
-/
import Derived.Test.YtmebomifakmkbaaDoorB6
namespace Go.Proofs.YtmebomifakmkbaaDoor
open Go.RowKit

/-- What a call comes to: a position, or an error's type and the error. -/
inductive Out where
  | ok (av : Int) (L : List Mk)
  | no (t : TypeId) (x : Value)
abbrev eno (k : Int) : Out := .no 74 (.int .i64 k)
def creditO (av : Int) (L : List Mk) (q : Int) : Out := match bg av L q with
  | some (t, x) => .no t x
  | none => if top < av + sm L + q then eno 9 else .ok (av + q) (setM 0 0 L)
def debitO (av : Int) (L : List Mk) (q n : Int) : Out := match bg av L q with
  | some (t, x) => .no t x
  | none => if n < 0 ∨ 65536 < n then eno 19 else if av + mq n L < q then eno 18 else if q ≤ mq n L then .ok av (setM n (mq n L - q) L) else .ok (av - (q - mq n L)) (setM n 0 L)
def markO (av : Int) (L : List Mk) (q n : Int) : Out := match bg av L q with
  | some (t, x) => .no t x
  | none => if n < 1 ∨ 65536 < n then eno 19 else if av < q then eno 18 else if mq n L = 0 ∧ L.length = 8 then eno 5 else .ok (av - q) (setM n (mq n L + q) L)
def unmarkO (av : Int) (L : List Mk) (q n : Int) : Out := match bg av L q with
  | some (t, x) => .no t x
  | none => if mq n L = 0 then eno 19 else if mq n L < q then eno 18 else .ok (av + q) (setM n (mq n L - q) L)
/-- What a call answers. -/
def Ans (w w' : World) (s : List UInt8) (o : Out) (e : Ending) : Prop := match o with
  | .no t x => e = .returned (.tuple #[posZ, refV s (.iface t x)])
  | .ok a M => ∃ v, e = .returned (.tuple #[.agg #[.int .i64 a, v], .nilIface]) ∧ OM w' w.heap.size v M
/-- The parameter's box and the result's. -/
structure Bx2 (w : World) (av : Int) (v : Value) (W : World) : Prop where
  low : Below w.heap.size w W
  par : W.heap[w.heap.size]? = some (.cells #[.int .i64 av, v] 24 (0, 0))
  res : W.heap[w.heap.size + 1]? = some (.cells #[.int .i64 0, .slice Option.none 0 0] 24 (0, 0))
theorem Bx2.later {w W W' : World} {av : Int} {v : Value} (h : Bx2 w av v W) (hb : Below W.heap.size W W') : Bx2 w av v W' := ⟨h.low.trans (hb.mono h.low.size), blk_later h.par hb, blk_later h.res hb⟩
theorem Bx2.new (w : World) (av : Int) (v : Value) : Bx2 w av v ((w.alloc (.cells #[.int .i64 av, v] 24)).alloc (.cells #[.int .i64 0, .slice Option.none 0 0] 24)) := by
  refine ⟨((Below.refl w.heap.size w).alloc (Nat.le_refl _) _).alloc (by simp) _, alloc_block (alloc_new w _), ?_⟩
  have := alloc_new (w.alloc (.cells #[.int .i64 av, v] 24)) (.cells #[.int .i64 0, .slice Option.none 0 0] 24)
  rw [show (w.alloc (.cells #[.int .i64 av, v] 24)).heap.size = w.heap.size + 1 by simp] at this
  exact this
theorem Bx2.facts {w W : World} {av : Int} {v : Value} (h : Bx2 w av v W) : W.cell? ⟨w.heap.size, 0, none⟩ = some (.int .i64 av) ∧ W.cell? ⟨w.heap.size, 1, none⟩ = some v ∧ W.cell? ⟨w.heap.size + 1, 0, none⟩ = some (.int .i64 0) ∧ W.cell? ⟨w.heap.size + 1, 1, none⟩ = some (.slice Option.none 0 0) ∧ W.frozen? ⟨w.heap.size + 1, 0, none⟩ = false ∧ W.frozen? ⟨w.heap.size + 1, 1, none⟩ = false := by
  obtain ⟨x0, x1⟩ := pair_cells h.par rfl
  obtain ⟨y0, y1⟩ := pair_cells h.res rfl
  have hr := h.res
  exact ⟨x0, x1, y0, y1, by unfold World.frozen?; simp [hr], by unfold World.frozen?; simp [hr]⟩
theorem refuse_end {w W : World} {av : Int} {v : Value} (h : Bx2 w av v W) :
    ((W.setCell ⟨w.heap.size + 1, 0, none⟩ (.int .i64 0)).setCell ⟨w.heap.size + 1, 1, none⟩ (.slice Option.none 0 0)).heap[w.heap.size + 1]? = some (.cells #[.int .i64 0, .slice Option.none 0 0] 24 (0, 0)) ∧ Below w.heap.size w ((W.setCell ⟨w.heap.size + 1, 0, none⟩ (.int .i64 0)).setCell ⟨w.heap.size + 1, 1, none⟩ (.slice Option.none 0 0)) :=
  ⟨set2 h.res, (h.low.setCell (p := ⟨w.heap.size + 1, 0, none⟩) (Nat.le_succ _) _).setCell (p := ⟨w.heap.size + 1, 1, none⟩) (Nat.le_succ _) _⟩
set_option maxRecDepth 100000 in
set_option maxHeartbeats 2000000 in
theorem credit_b (av q : Int) (v : Value) (L : List Mk) (w : World) (t : TypeId) (x : Value) (h : RM w v L) (ho : MOk L) (h1 : av ≤ top) (hq1 : q ≤ top) (hl : L.length ≤ 4611686018427387904) (hb : bg av L q = some (t, x)) :
    Calls Tryd.prog 30 #[.agg #[.int .i64 av, v], .int .i64 q] w fun e w' => Ans w w' [99, 114, 101, 100, 105, 116] (creditO av L q) e ∧ Below w.heap.size w w' := by
  have HQ1 := hide hq1
  clear HQ1
  have HRM := hide h
  obtain ⟨a, cap, rfl, _, _⟩ := h
  have HBG := hide (fun (W : World) (hw : Below w.heap.size w W) => begin_some av q _ L W t x (HRM.out.later hw) ho h1 hl hb)
  rw [show creditO av L q = .no t x by unfold creditO; rw [hb]]
  have n0 := ifNeq0
  have n1 := ifNeq
  have X0 := hide (Bx2.new w av (.slice a L.length cap))
  obtain ⟨x0, x1, y0, y1, f0, f1⟩ := X0.out.facts
  have HRF := hide (fun W => refuse_any [99, 114, 101, 100, 105, 116] t x W)
  clear hb
  go_enter Tryd.func30, Tryd.ntmps30
  go_wp2_with fail
  refine (HBG.out _ X0.out.low).mono ?_
  rintro e w1 ⟨rfl, hb⟩
  have X1 := hide (X0.out.later hb)
  obtain ⟨x0, x1, y0, y1, f0, f1⟩ := X1.out.facts
  clear hb
  go_wp2_with fail
  refine (HRF.out _).mono ?_
  rintro e w2 ⟨rfl, hb⟩
  have X2 := hide (X1.out.later hb)
  obtain ⟨x0, x1, y0, y1, f0, f1⟩ := X2.out.facts
  clear hb
  unfold refV
  go_wp2_with fail
  obtain ⟨e1, e3⟩ := refuse_end X2.out
  generalize ((w2.setCell ⟨w.heap.size + 1, 0, none⟩ (.int .i64 0)).setCell ⟨w.heap.size + 1, 1, none⟩ (.slice Option.none 0 0)) = X at *
  obtain ⟨dd0, dd1⟩ := pair_cells e1 rfl
  exact bodyPost_ret (v := .tuple #[posZ, refV [99, 114, 101, 100, 105, 116] (.iface t x)]) (by simp [results, Tryd.results30, go_sem, dd0, dd1, refV]) rfl ⟨rfl, e3⟩
set_option maxRecDepth 100000 in
set_option maxHeartbeats 2000000 in
theorem credit_o (av q : Int) (v : Value) (L : List Mk) (w : World) (h : RM w v L) (ho : MOk L) (h1 : av ≤ top) (hq1 : q ≤ top) (hl : L.length ≤ 4611686018427387904) (hb : bg av L q = none) (hc : top < av + sm L + q) :
    Calls Tryd.prog 30 #[.agg #[.int .i64 av, v], .int .i64 q] w fun e w' => Ans w w' [99, 114, 101, 100, 105, 116] (creditO av L q) e ∧ Below w.heap.size w w' := by
  have HQ1 := hide hq1
  clear HQ1
  have HRM := hide h
  obtain ⟨a, cap, rfl, _, _⟩ := h
  have HBG := hide (fun (W : World) (hw : Below w.heap.size w W) => begin_none av q _ L W (HRM.out.later hw) ho h1 hl hb)
  obtain ⟨hR, hq⟩ := bg_none h1 hb
  have hav := hR.av0
  have hal := hR.all
  have htop : top = 9223372036854775807 := rfl
  have hsm := sm_pos hR.ri
  rw [show creditO av L q = eno 9 by unfold creditO; rw [hb]; exact if_pos hc]
  have e := add_over (a := av + sm L) (b := q) (by omega) (by omega)
  have HAR := hide (fun W => add_any (av + sm L) q W hal hq1)
  rw [e.1, e.2, show errV 9 = .iface 74 (.int .i64 9) from rfl] at HAR
  have HRF := hide (fun W => refuse_any [99, 114, 101, 100, 105, 116] 74 (.int .i64 9) W)
  have n0 := ifNeq0
  have n1 := ifNeq
  have X0 := hide (Bx2.new w av (.slice a L.length cap))
  obtain ⟨x0, x1, y0, y1, f0, f1⟩ := X0.out.facts
  generalize av + sm L = T at *
  clear hb hR hq hav hal htop hsm hc e
  go_enter Tryd.func30, Tryd.ntmps30
  go_wp2_with fail
  refine (HBG.out _ X0.out.low).mono ?_
  rintro e w1 ⟨rfl, hb⟩
  have X1 := hide (X0.out.later hb)
  obtain ⟨x0, x1, y0, y1, f0, f1⟩ := X1.out.facts
  clear hb
  go_wp2_with fail
  refine (HAR.out _).mono ?_
  rintro e w' ⟨rfl, hw⟩
  have hw' := hw.symm
  clear hw
  subst hw'
  go_wp2_with fail
  refine (HRF.out _).mono ?_
  rintro e w2 ⟨rfl, hb⟩
  have X2 := hide (X1.out.later hb)
  obtain ⟨x0, x1, y0, y1, f0, f1⟩ := X2.out.facts
  clear hb
  unfold refV
  go_wp2_with fail
  obtain ⟨e1, e3⟩ := refuse_end X2.out
  generalize ((w2.setCell ⟨w.heap.size + 1, 0, none⟩ (.int .i64 0)).setCell ⟨w.heap.size + 1, 1, none⟩ (.slice Option.none 0 0)) = X at *
  obtain ⟨dd0, dd1⟩ := pair_cells e1 rfl
  exact bodyPost_ret (v := .tuple #[posZ, refV [99, 114, 101, 100, 105, 116] (.iface 74 (.int .i64 9))]) (by simp [results, Tryd.results30, go_sem, dd0, dd1, refV]) rfl ⟨rfl, e3⟩
set_option maxRecDepth 100000 in
set_option maxHeartbeats 2000000 in
theorem credit_k (av q : Int) (v : Value) (L : List Mk) (w : World) (h : RM w v L) (ho : MOk L) (h1 : av ≤ top) (hq1 : q ≤ top) (hl : L.length ≤ 4611686018427387904) (hb : bg av L q = none) (hc : ¬ top < av + sm L + q) :
    Calls Tryd.prog 30 #[.agg #[.int .i64 av, v], .int .i64 q] w fun e w' => Ans w w' [99, 114, 101, 100, 105, 116] (creditO av L q) e ∧ Below w.heap.size w w' := by
  have HQ1 := hide hq1
  clear HQ1
  have HRM := hide h
  obtain ⟨a, cap, rfl, _, _⟩ := h
  have HBG := hide (fun (W : World) (hw : Below w.heap.size w W) => begin_none av q _ L W (HRM.out.later hw) ho h1 hl hb)
  obtain ⟨hR, hq⟩ := bg_none h1 hb
  have hav := hR.av0
  have hal := hR.all
  have htop : top = 9223372036854775807 := rfl
  have hsm := sm_pos hR.ri
  rw [show creditO av L q = .ok (av + q) (setM 0 0 L) by unfold creditO; rw [hb]; exact if_neg hc]
  have e := add_ok (a := av + sm L) (b := q) (by omega) (by omega)
  have HAR := hide (fun W => add_any (av + sm L) q W hal hq1)
  rw [e.1, e.2, show errV 0 = .nilIface from rfl] at HAR
  have hw1 : wrap64 (av + q) = av + q := by unfold wrap64; omega
  have HTU := hide (fun (W : World) (hw : Below w.heap.size w W) => turned_any av (av + q) _ L (0) (0) W (HRM.out.later hw) hR.ri hR.few)
  generalize setM (0) (0) L = R at *
  have n0 := ifNeq0
  have n1 := ifNeq
  have X0 := hide (Bx2.new w av (.slice a L.length cap))
  obtain ⟨x0, x1, y0, y1, f0, f1⟩ := X0.out.facts
  generalize av + sm L + q = T2 at *
  generalize av + sm L = T at *
  obtain ⟨A2, hA2⟩ : ∃ A2, av + q = A2 := ⟨_, rfl⟩
  rw [hA2] at hw1 HTU ⊢
  have hw1' : wrap64 (av + q) = A2 := by rw [hA2]; exact hw1
  have hw2 : IntKind.i64.wrap (av + q) = A2 := by rw [IntKind.wrap_i64, hA2]; unfold wrap64 at hw1; exact hw1
  have HA2 := hide hA2
  clear hb hR hq hav hal htop hsm hc e hA2 hw1
  go_enter Tryd.func30, Tryd.ntmps30
  go_wp2_with fail
  refine (HBG.out _ X0.out.low).mono ?_
  rintro e w1 ⟨rfl, hb⟩
  have X1 := hide (X0.out.later hb)
  obtain ⟨x0, x1, y0, y1, f0, f1⟩ := X1.out.facts
  clear hb
  go_wp2_with fail
  refine (HAR.out _).mono ?_
  rintro e w' ⟨rfl, hw⟩
  have hw' := hw.symm
  clear hw
  subst hw'
  go_wp2_with fail
  refine (HTU.out _ X1.out.low).mono ?_
  rintro e w2 ⟨v', rfl, hO, hb⟩
  obtain ⟨a4, c4, hv4⟩ := rm_lt (OM.rm hO)
  subst hv4
  have HO := hide hO
  have X2 := hide (X1.out.later hb)
  obtain ⟨x0, x1, y0, y1, f0, f1⟩ := X2.out.facts
  clear hb
  go_wp2_with fail
  obtain ⟨e1, e2, e3⟩ := turn_end (a2 := A2) X2.out.res (World.ownsRow.mono HO.out X1.out.low.size) X2.out.low (Nat.le_succ _)
  generalize ((w2.setCell ⟨w.heap.size + 1, 0, none⟩ (.int .i64 A2)).setCell ⟨w.heap.size + 1, 1, none⟩ (.slice a4 R.length c4)) = X at *
  obtain ⟨dd0, dd1⟩ := pair_cells e1 rfl
  exact bodyPost_ret (v := .tuple #[.agg #[.int .i64 A2, .slice a4 R.length c4], .nilIface]) (by simp [results, Tryd.results30, go_sem, dd0, dd1]) rfl ⟨⟨_, rfl, e2⟩, e3⟩
set_option maxRecDepth 100000 in
set_option maxHeartbeats 2000000 in
theorem debit_b (av q n : Int) (v : Value) (L : List Mk) (w : World) (t : TypeId) (x : Value) (h : RM w v L) (ho : MOk L) (h1 : av ≤ top) (hq1 : q ≤ top) (hl : L.length ≤ 4611686018427387904) (hb : bg av L q = some (t, x)) :
    Calls Tryd.prog 31 #[.agg #[.int .i64 av, v], .int .i64 q, .int .i64 n] w fun e w' => Ans w w' [100, 101, 98, 105, 116] (debitO av L q n) e ∧ Below w.heap.size w w' := by
  have HQ1 := hide hq1
  clear HQ1
  have HRM := hide h
  obtain ⟨a, cap, rfl, _, _⟩ := h
  have HBG := hide (fun (W : World) (hw : Below w.heap.size w W) => begin_some av q _ L W t x (HRM.out.later hw) ho h1 hl hb)
  rw [show debitO av L q n = .no t x by unfold debitO; rw [hb]]
  have n0 := ifNeq0
  have n1 := ifNeq
  have X0 := hide (Bx2.new w av (.slice a L.length cap))
  obtain ⟨x0, x1, y0, y1, f0, f1⟩ := X0.out.facts
  have HRF := hide (fun W => refuse_any [100, 101, 98, 105, 116] t x W)
  clear hb
  go_enter Tryd.func31, Tryd.ntmps31
  go_wp2_with fail
  refine (HBG.out _ X0.out.low).mono ?_
  rintro e w1 ⟨rfl, hb⟩
  have X1 := hide (X0.out.later hb)
  obtain ⟨x0, x1, y0, y1, f0, f1⟩ := X1.out.facts
  clear hb
  go_wp2_with fail
  refine (HRF.out _).mono ?_
  rintro e w2 ⟨rfl, hb⟩
  have X2 := hide (X1.out.later hb)
  obtain ⟨x0, x1, y0, y1, f0, f1⟩ := X2.out.facts
  clear hb
  unfold refV
  go_wp2_with fail
  obtain ⟨e1, e3⟩ := refuse_end X2.out
  generalize ((w2.setCell ⟨w.heap.size + 1, 0, none⟩ (.int .i64 0)).setCell ⟨w.heap.size + 1, 1, none⟩ (.slice Option.none 0 0)) = X at *
  obtain ⟨dd0, dd1⟩ := pair_cells e1 rfl
  exact bodyPost_ret (v := .tuple #[posZ, refV [100, 101, 98, 105, 116] (.iface t x)]) (by simp [results, Tryd.results31, go_sem, dd0, dd1, refV]) rfl ⟨rfl, e3⟩
set_option maxRecDepth 100000 in
set_option maxHeartbeats 2000000 in
theorem debit_n (av q n : Int) (v : Value) (L : List Mk) (w : World) (h : RM w v L) (ho : MOk L) (h1 : av ≤ top) (hq1 : q ≤ top) (hl : L.length ≤ 4611686018427387904) (hb : bg av L q = none) (hn : n < 0 ∨ 65536 < n) :
    Calls Tryd.prog 31 #[.agg #[.int .i64 av, v], .int .i64 q, .int .i64 n] w fun e w' => Ans w w' [100, 101, 98, 105, 116] (debitO av L q n) e ∧ Below w.heap.size w w' := by
  have HQ1 := hide hq1
  clear HQ1
  have HRM := hide h
  obtain ⟨a, cap, rfl, _, _⟩ := h
  have HBG := hide (fun (W : World) (hw : Below w.heap.size w W) => begin_none av q _ L W (HRM.out.later hw) ho h1 hl hb)
  obtain ⟨hR, hq⟩ := bg_none h1 hb
  have hav := hR.av0
  have hal := hR.all
  have htop : top = 9223372036854775807 := rfl
  have hmq := mq_ge (n := n) hR.ri
  rw [show debitO av L q n = eno 19 by unfold debitO; rw [hb]; exact if_pos hn]
  have HIN := hide (fun W => isName_any n W)
  rw [show (decide (0 < n) && decide (n ≤ 65536)) = false by rw [Bool.and_eq_false_iff, decide_eq_false_iff_not, decide_eq_false_iff_not]; omega] at HIN
  have hz : (n != 0) = true := by rw [bne_iff_ne]; omega
  have hz2 : ¬ n = 0 := by omega
  have HRF := hide (fun W => refuse_any [100, 101, 98, 105, 116] 74 (.int .i64 19) W)
  have n0 := ifNeq0
  have n1 := ifNeq
  have X0 := hide (Bx2.new w av (.slice a L.length cap))
  obtain ⟨x0, x1, y0, y1, f0, f1⟩ := X0.out.facts
  generalize av + sm L = T at *
  clear hb hR hq hav hal htop hmq hn
  go_enter Tryd.func31, Tryd.ntmps31
  go_wp2_with fail
  refine (HBG.out _ X0.out.low).mono ?_
  rintro e w1 ⟨rfl, hb⟩
  have X1 := hide (X0.out.later hb)
  obtain ⟨x0, x1, y0, y1, f0, f1⟩ := X1.out.facts
  clear hb
  go_wp2_with fail
  refine (HIN.out _).mono ?_
  rintro e w' ⟨rfl, hw⟩
  have hw' := hw.symm
  clear hw
  subst hw'
  go_wp2_with fail
  refine (HRF.out _).mono ?_
  rintro e w2 ⟨rfl, hb⟩
  have X2 := hide (X1.out.later hb)
  obtain ⟨x0, x1, y0, y1, f0, f1⟩ := X2.out.facts
  clear hb
  unfold refV
  go_wp2_with fail
  obtain ⟨e1, e3⟩ := refuse_end X2.out
  generalize ((w2.setCell ⟨w.heap.size + 1, 0, none⟩ (.int .i64 0)).setCell ⟨w.heap.size + 1, 1, none⟩ (.slice Option.none 0 0)) = X at *
  obtain ⟨dd0, dd1⟩ := pair_cells e1 rfl
  exact bodyPost_ret (v := .tuple #[posZ, refV [100, 101, 98, 105, 116] (.iface 74 (.int .i64 19))]) (by simp [results, Tryd.results31, go_sem, dd0, dd1, refV]) rfl ⟨rfl, e3⟩
set_option maxRecDepth 100000 in
set_option maxHeartbeats 2000000 in
theorem debit_s0 (av q n : Int) (v : Value) (L : List Mk) (w : World) (h : RM w v L) (ho : MOk L) (h1 : av ≤ top) (hq1 : q ≤ top) (hl : L.length ≤ 4611686018427387904) (hb : bg av L q = none) (hz0 : n = 0) (hc : av + mq n L < q) :
    Calls Tryd.prog 31 #[.agg #[.int .i64 av, v], .int .i64 q, .int .i64 n] w fun e w' => Ans w w' [100, 101, 98, 105, 116] (debitO av L q n) e ∧ Below w.heap.size w w' := by
  have HQ1 := hide hq1
  clear HQ1
  have HRM := hide h
  obtain ⟨a, cap, rfl, _, _⟩ := h
  have HBG := hide (fun (W : World) (hw : Below w.heap.size w W) => begin_none av q _ L W (HRM.out.later hw) ho h1 hl hb)
  obtain ⟨hR, hq⟩ := bg_none h1 hb
  have hav := hR.av0
  have hal := hR.all
  have htop : top = 9223372036854775807 := rfl
  have hmq := mq_ge (n := n) hR.ri
  rw [show debitO av L q n = eno 18 by unfold debitO; rw [hb]; rw [if_neg (by omega : ¬ (n < 0 ∨ 65536 < n))]; exact if_pos hc]
  have hz : (n != 0) = false := by rw [bne_eq_false_iff_eq]; exact hz0
  have HUN := hide (fun (W : World) (hw : Below w.heap.size w W) => under_any _ L n W (HRM.out.later hw) hR.ri hR.few)
  have e := sub_short (a := av) (b := q - mq n L) (by omega) (by omega)
  have HAR := hide (fun W => sub_any av (q - mq n L) W h1 (by omega))
  rw [e.2, e.1, show errV 2 = .iface 74 (.int .i64 2) from rfl] at HAR
  have HRF := hide (fun W => refuse_any [100, 101, 98, 105, 116] 74 (.int .i64 18) W)
  have n0 := ifNeq0
  have n1 := ifNeq
  have X0 := hide (Bx2.new w av (.slice a L.length cap))
  obtain ⟨x0, x1, y0, y1, f0, f1⟩ := X0.out.facts
  generalize mq n L = m at *
  have hw1 : wrap64 (q - m) = q - m := by unfold wrap64; omega
  have hw2 : IntKind.i64.wrap (q - m) = q - m := by rw [IntKind.wrap_i64]; omega
  have hm1 : m < q := by omega
  have hm2 : ¬ q < m := by omega
  have hm3 : min m q = m := by omega
  generalize av + sm L = T at *
  clear hb hR hq hav hal htop hmq hc e hz0
  go_enter Tryd.func31, Tryd.ntmps31
  go_wp2_with fail
  refine (HBG.out _ X0.out.low).mono ?_
  rintro e w1 ⟨rfl, hb⟩
  have X1 := hide (X0.out.later hb)
  obtain ⟨x0, x1, y0, y1, f0, f1⟩ := X1.out.facts
  clear hb
  go_wp2_with fail
  refine (HUN.out _ X1.out.low).mono ?_
  rintro e w2 ⟨rfl, hb⟩
  have X2 := hide (X1.out.later hb)
  obtain ⟨x0, x1, y0, y1, f0, f1⟩ := X2.out.facts
  clear hb
  go_wp2_with fail
  refine (HAR.out _).mono ?_
  rintro e w' ⟨rfl, hw⟩
  have hw' := hw.symm
  clear hw
  subst hw'
  go_wp2_with fail
  refine (HRF.out _).mono ?_
  rintro e w3 ⟨rfl, hb⟩
  have X3 := hide (X2.out.later hb)
  obtain ⟨x0, x1, y0, y1, f0, f1⟩ := X3.out.facts
  clear hb
  unfold refV
  go_wp2_with fail
  obtain ⟨e1, e3⟩ := refuse_end X3.out
  generalize ((w3.setCell ⟨w.heap.size + 1, 0, none⟩ (.int .i64 0)).setCell ⟨w.heap.size + 1, 1, none⟩ (.slice Option.none 0 0)) = X at *
  obtain ⟨dd0, dd1⟩ := pair_cells e1 rfl
  exact bodyPost_ret (v := .tuple #[posZ, refV [100, 101, 98, 105, 116] (.iface 74 (.int .i64 18))]) (by simp [results, Tryd.results31, go_sem, dd0, dd1, refV]) rfl ⟨rfl, e3⟩
set_option maxRecDepth 100000 in
set_option maxHeartbeats 2000000 in
theorem debit_m0 (av q n : Int) (v : Value) (L : List Mk) (w : World) (h : RM w v L) (ho : MOk L) (h1 : av ≤ top) (hq1 : q ≤ top) (hl : L.length ≤ 4611686018427387904) (hb : bg av L q = none) (hz0 : n = 0) (hc : ¬ av + mq n L < q) (hm : q < mq n L) :
    Calls Tryd.prog 31 #[.agg #[.int .i64 av, v], .int .i64 q, .int .i64 n] w fun e w' => Ans w w' [100, 101, 98, 105, 116] (debitO av L q n) e ∧ Below w.heap.size w w' := by
  have HQ1 := hide hq1
  clear HQ1
  have HRM := hide h
  obtain ⟨a, cap, rfl, _, _⟩ := h
  have HBG := hide (fun (W : World) (hw : Below w.heap.size w W) => begin_none av q _ L W (HRM.out.later hw) ho h1 hl hb)
  obtain ⟨hR, hq⟩ := bg_none h1 hb
  have hav := hR.av0
  have hal := hR.all
  have htop : top = 9223372036854775807 := rfl
  have hmq := mq_ge (n := n) hR.ri
  rw [show debitO av L q n = .ok av (setM n (mq n L - q) L) by unfold debitO; rw [hb]; rw [if_neg (by omega : ¬ (n < 0 ∨ 65536 < n)), if_neg hc]; exact if_pos (by omega)]
  have hz : (n != 0) = false := by rw [bne_eq_false_iff_eq]; exact hz0
  have HUN := hide (fun (W : World) (hw : Below w.heap.size w W) => under_any _ L n W (HRM.out.later hw) hR.ri hR.few)
  have e := sub_ok (a := av) (b := 0) (by omega) (by omega)
  have HAR := hide (fun W => sub_any av 0 W h1 (by omega))
  rw [e.2, e.1, Int.sub_zero, show errV 0 = .nilIface from rfl] at HAR
  have HTU := hide (fun (W : World) (hw : Below w.heap.size w W) => turned_any av (av) _ L (n) (mq n L - q) W (HRM.out.later hw) hR.ri hR.few)
  generalize setM (n) (mq n L - q) L = R at *
  have n0 := ifNeq0
  have n1 := ifNeq
  have X0 := hide (Bx2.new w av (.slice a L.length cap))
  obtain ⟨x0, x1, y0, y1, f0, f1⟩ := X0.out.facts
  obtain ⟨A2, hA2⟩ : ∃ A2, A2 = av := ⟨_, rfl⟩
  generalize mq n L = m at *
  have hw1 : wrap64 (m - q) = m - q := by unfold wrap64; omega
  have hw2 : IntKind.i64.wrap (m - q) = m - q := by rw [IntKind.wrap_i64]; omega
  have hm3 : min m q = q := by omega
  have hqq : q - q = 0 := by omega
  have hm1 : ¬ m < q := by omega
  have hm4 : ¬ m ≤ q := by omega
  generalize av + sm L = T at *
  clear hb hR hq hav hal htop hmq hc e hz0 hm
  subst hA2
  go_enter Tryd.func31, Tryd.ntmps31
  go_wp2_with fail
  refine (HBG.out _ X0.out.low).mono ?_
  rintro e w1 ⟨rfl, hb⟩
  have X1 := hide (X0.out.later hb)
  obtain ⟨x0, x1, y0, y1, f0, f1⟩ := X1.out.facts
  clear hb
  go_wp2_with fail
  refine (HUN.out _ X1.out.low).mono ?_
  rintro e w2 ⟨rfl, hb⟩
  have X2 := hide (X1.out.later hb)
  obtain ⟨x0, x1, y0, y1, f0, f1⟩ := X2.out.facts
  clear hb
  go_wp2_with fail
  refine (HAR.out _).mono ?_
  rintro e w' ⟨rfl, hw⟩
  have hw' := hw.symm
  clear hw
  subst hw'
  go_wp2_with fail
  refine (HTU.out _ X2.out.low).mono ?_
  rintro e w3 ⟨v', rfl, hO, hb⟩
  obtain ⟨a4, c4, hv4⟩ := rm_lt (OM.rm hO)
  subst hv4
  have HO := hide hO
  have X3 := hide (X2.out.later hb)
  obtain ⟨x0, x1, y0, y1, f0, f1⟩ := X3.out.facts
  clear hb
  go_wp2_with fail
  obtain ⟨e1, e2, e3⟩ := turn_end (a2 := A2) X3.out.res (World.ownsRow.mono HO.out X2.out.low.size) X3.out.low (Nat.le_succ _)
  generalize ((w3.setCell ⟨w.heap.size + 1, 0, none⟩ (.int .i64 A2)).setCell ⟨w.heap.size + 1, 1, none⟩ (.slice a4 R.length c4)) = X at *
  obtain ⟨dd0, dd1⟩ := pair_cells e1 rfl
  exact bodyPost_ret (v := .tuple #[.agg #[.int .i64 A2, .slice a4 R.length c4], .nilIface]) (by simp [results, Tryd.results31, go_sem, dd0, dd1]) rfl ⟨⟨_, rfl, e2⟩, e3⟩
set_option maxRecDepth 100000 in
set_option maxHeartbeats 2000000 in
theorem debit_e0 (av q n : Int) (v : Value) (L : List Mk) (w : World) (h : RM w v L) (ho : MOk L) (h1 : av ≤ top) (hq1 : q ≤ top) (hl : L.length ≤ 4611686018427387904) (hb : bg av L q = none) (hz0 : n = 0) (hm : mq n L = q) :
    Calls Tryd.prog 31 #[.agg #[.int .i64 av, v], .int .i64 q, .int .i64 n] w fun e w' => Ans w w' [100, 101, 98, 105, 116] (debitO av L q n) e ∧ Below w.heap.size w w' := by
  have HQ1 := hide hq1
  clear HQ1
  have HRM := hide h
  obtain ⟨a, cap, rfl, _, _⟩ := h
  have HBG := hide (fun (W : World) (hw : Below w.heap.size w W) => begin_none av q _ L W (HRM.out.later hw) ho h1 hl hb)
  obtain ⟨hR, hq⟩ := bg_none h1 hb
  have hav := hR.av0
  have hal := hR.all
  have htop : top = 9223372036854775807 := rfl
  have hmq := mq_ge (n := n) hR.ri
  rw [show debitO av L q n = .ok av (setM n 0 L) by unfold debitO; rw [hb]; show (if n < 0 ∨ 65536 < n then eno 19 else if av + mq n L < q then eno 18 else if q ≤ mq n L then Out.ok av (setM n (mq n L - q) L) else _) = _; rw [if_neg (by omega : ¬ (n < 0 ∨ 65536 < n)), if_neg (by omega), if_pos (by omega), hm, Int.sub_self]]
  have hz : (n != 0) = false := by rw [bne_eq_false_iff_eq]; exact hz0
  have HUN := hide (fun (W : World) (hw : Below w.heap.size w W) => under_any _ L n W (HRM.out.later hw) hR.ri hR.few)
  have e := sub_ok (a := av) (b := 0) (by omega) (by omega)
  have HAR := hide (fun W => sub_any av 0 W h1 (by omega))
  rw [e.2, e.1, Int.sub_zero, show errV 0 = .nilIface from rfl] at HAR
  rw [hm] at HUN
  have HTU := hide (fun (W : World) (hw : Below w.heap.size w W) => turned_any av (av) _ L (n) (0) W (HRM.out.later hw) hR.ri hR.few)
  generalize setM (n) (0) L = R at *
  have n0 := ifNeq0
  have n1 := ifNeq
  have X0 := hide (Bx2.new w av (.slice a L.length cap))
  obtain ⟨x0, x1, y0, y1, f0, f1⟩ := X0.out.facts
  obtain ⟨A2, hA2⟩ : ∃ A2, A2 = av := ⟨_, rfl⟩
  have hm3 : min q q = q := by omega
  generalize av + sm L = T at *
  clear hb hR hq hav hal htop hmq hm e hz0
  subst hA2
  go_enter Tryd.func31, Tryd.ntmps31
  go_wp2_with fail
  refine (HBG.out _ X0.out.low).mono ?_
  rintro e w1 ⟨rfl, hb⟩
  have X1 := hide (X0.out.later hb)
  obtain ⟨x0, x1, y0, y1, f0, f1⟩ := X1.out.facts
  clear hb
  go_wp2_with fail
  refine (HUN.out _ X1.out.low).mono ?_
  rintro e w2 ⟨rfl, hb⟩
  have X2 := hide (X1.out.later hb)
  obtain ⟨x0, x1, y0, y1, f0, f1⟩ := X2.out.facts
  clear hb
  go_wp2_with fail
  refine (HAR.out _).mono ?_
  rintro e w' ⟨rfl, hw⟩
  have hw' := hw.symm
  clear hw
  subst hw'
  go_wp2_with fail
  refine (HTU.out _ X2.out.low).mono ?_
  rintro e w3 ⟨v', rfl, hO, hb⟩
  obtain ⟨a4, c4, hv4⟩ := rm_lt (OM.rm hO)
  subst hv4
  have HO := hide hO
  have X3 := hide (X2.out.later hb)
  obtain ⟨x0, x1, y0, y1, f0, f1⟩ := X3.out.facts
  clear hb
  go_wp2_with fail
  obtain ⟨e1, e2, e3⟩ := turn_end (a2 := A2) X3.out.res (World.ownsRow.mono HO.out X2.out.low.size) X3.out.low (Nat.le_succ _)
  generalize ((w3.setCell ⟨w.heap.size + 1, 0, none⟩ (.int .i64 A2)).setCell ⟨w.heap.size + 1, 1, none⟩ (.slice a4 R.length c4)) = X at *
  obtain ⟨dd0, dd1⟩ := pair_cells e1 rfl
  exact bodyPost_ret (v := .tuple #[.agg #[.int .i64 A2, .slice a4 R.length c4], .nilIface]) (by simp [results, Tryd.results31, go_sem, dd0, dd1]) rfl ⟨⟨_, rfl, e2⟩, e3⟩
set_option maxRecDepth 100000 in
set_option maxHeartbeats 2000000 in
theorem debit_a0 (av q n : Int) (v : Value) (L : List Mk) (w : World) (h : RM w v L) (ho : MOk L) (h1 : av ≤ top) (hq1 : q ≤ top) (hl : L.length ≤ 4611686018427387904) (hb : bg av L q = none) (hz0 : n = 0) (hc : ¬ av + mq n L < q) (hm : ¬ q ≤ mq n L) :
    Calls Tryd.prog 31 #[.agg #[.int .i64 av, v], .int .i64 q, .int .i64 n] w fun e w' => Ans w w' [100, 101, 98, 105, 116] (debitO av L q n) e ∧ Below w.heap.size w w' := by
  have HQ1 := hide hq1
  clear HQ1
  have HRM := hide h
  obtain ⟨a, cap, rfl, _, _⟩ := h
  have HBG := hide (fun (W : World) (hw : Below w.heap.size w W) => begin_none av q _ L W (HRM.out.later hw) ho h1 hl hb)
  obtain ⟨hR, hq⟩ := bg_none h1 hb
  have hav := hR.av0
  have hal := hR.all
  have htop : top = 9223372036854775807 := rfl
  have hmq := mq_ge (n := n) hR.ri
  rw [show debitO av L q n = .ok (av - (q - mq n L)) (setM n 0 L) by unfold debitO; rw [hb]; rw [if_neg (by omega : ¬ (n < 0 ∨ 65536 < n)), if_neg hc]; exact if_neg hm]
  have hz : (n != 0) = false := by rw [bne_eq_false_iff_eq]; exact hz0
  have HUN := hide (fun (W : World) (hw : Below w.heap.size w W) => under_any _ L n W (HRM.out.later hw) hR.ri hR.few)
  have e := sub_ok (a := av) (b := q - mq n L) (by omega) (by omega)
  have HAR := hide (fun W => sub_any av (q - mq n L) W h1 (by omega))
  rw [e.2, e.1, show errV 0 = .nilIface from rfl] at HAR
  have HTU := hide (fun (W : World) (hw : Below w.heap.size w W) => turned_any av (av - (q - mq n L)) _ L (n) (0) W (HRM.out.later hw) hR.ri hR.few)
  generalize setM (n) (0) L = R at *
  have n0 := ifNeq0
  have n1 := ifNeq
  have X0 := hide (Bx2.new w av (.slice a L.length cap))
  obtain ⟨x0, x1, y0, y1, f0, f1⟩ := X0.out.facts
  obtain ⟨A2, hA2⟩ : ∃ A2, av - (q - mq n L) = A2 := ⟨_, rfl⟩
  rw [hA2] at HTU HAR ⊢
  generalize mq n L = m at *
  have hw1 : wrap64 (q - m) = q - m := by unfold wrap64; omega
  have hw2 : IntKind.i64.wrap (q - m) = q - m := by rw [IntKind.wrap_i64]; omega
  have hm3 : min m q = m := by omega
  have hqq : m - m = 0 := by omega
  have hm1 : m < q := by omega
  have hm2 : ¬ q < m := by omega
  generalize av + sm L = T at *
  clear hb hR hq hav hal htop hmq hc e hz0 hm hA2
  go_enter Tryd.func31, Tryd.ntmps31
  go_wp2_with fail
  refine (HBG.out _ X0.out.low).mono ?_
  rintro e w1 ⟨rfl, hb⟩
  have X1 := hide (X0.out.later hb)
  obtain ⟨x0, x1, y0, y1, f0, f1⟩ := X1.out.facts
  clear hb
  go_wp2_with fail
  refine (HUN.out _ X1.out.low).mono ?_
  rintro e w2 ⟨rfl, hb⟩
  have X2 := hide (X1.out.later hb)
  obtain ⟨x0, x1, y0, y1, f0, f1⟩ := X2.out.facts
  clear hb
  go_wp2_with fail
  refine (HAR.out _).mono ?_
  rintro e w' ⟨rfl, hw⟩
  have hw' := hw.symm
  clear hw
  subst hw'
  go_wp2_with fail
  refine (HTU.out _ X2.out.low).mono ?_
  rintro e w3 ⟨v', rfl, hO, hb⟩
  obtain ⟨a4, c4, hv4⟩ := rm_lt (OM.rm hO)
  subst hv4
  have HO := hide hO
  have X3 := hide (X2.out.later hb)
  obtain ⟨x0, x1, y0, y1, f0, f1⟩ := X3.out.facts
  clear hb
  go_wp2_with fail
  obtain ⟨e1, e2, e3⟩ := turn_end (a2 := A2) X3.out.res (World.ownsRow.mono HO.out X2.out.low.size) X3.out.low (Nat.le_succ _)
  generalize ((w3.setCell ⟨w.heap.size + 1, 0, none⟩ (.int .i64 A2)).setCell ⟨w.heap.size + 1, 1, none⟩ (.slice a4 R.length c4)) = X at *
  obtain ⟨dd0, dd1⟩ := pair_cells e1 rfl
  exact bodyPost_ret (v := .tuple #[.agg #[.int .i64 A2, .slice a4 R.length c4], .nilIface]) (by simp [results, Tryd.results31, go_sem, dd0, dd1]) rfl ⟨⟨_, rfl, e2⟩, e3⟩
set_option maxRecDepth 100000 in
set_option maxHeartbeats 2000000 in
theorem debit_s1 (av q n : Int) (v : Value) (L : List Mk) (w : World) (h : RM w v L) (ho : MOk L) (h1 : av ≤ top) (hq1 : q ≤ top) (hl : L.length ≤ 4611686018427387904) (hb : bg av L q = none) (hz0 : 1 ≤ n) (hz1 : n ≤ 65536) (hc : av + mq n L < q) :
    Calls Tryd.prog 31 #[.agg #[.int .i64 av, v], .int .i64 q, .int .i64 n] w fun e w' => Ans w w' [100, 101, 98, 105, 116] (debitO av L q n) e ∧ Below w.heap.size w w' := by
  have HQ1 := hide hq1
  clear HQ1
  have HRM := hide h
  obtain ⟨a, cap, rfl, _, _⟩ := h
  have HBG := hide (fun (W : World) (hw : Below w.heap.size w W) => begin_none av q _ L W (HRM.out.later hw) ho h1 hl hb)
  obtain ⟨hR, hq⟩ := bg_none h1 hb
  have hav := hR.av0
  have hal := hR.all
  have htop : top = 9223372036854775807 := rfl
  have hmq := mq_ge (n := n) hR.ri
  rw [show debitO av L q n = eno 18 by unfold debitO; rw [hb]; rw [if_neg (by omega : ¬ (n < 0 ∨ 65536 < n))]; exact if_pos hc]
  have HIN := hide (fun W => isName_any n W)
  rw [show (decide (0 < n) && decide (n ≤ 65536)) = true by rw [Bool.and_eq_true, decide_eq_true_eq, decide_eq_true_eq]; omega] at HIN
  have hz : (n != 0) = true := by rw [bne_iff_ne]; omega
  have hz2 : ¬ n = 0 := by omega
  have HUN := hide (fun (W : World) (hw : Below w.heap.size w W) => under_any _ L n W (HRM.out.later hw) hR.ri hR.few)
  have e := sub_short (a := av) (b := q - mq n L) (by omega) (by omega)
  have HAR := hide (fun W => sub_any av (q - mq n L) W h1 (by omega))
  rw [e.2, e.1, show errV 2 = .iface 74 (.int .i64 2) from rfl] at HAR
  have HRF := hide (fun W => refuse_any [100, 101, 98, 105, 116] 74 (.int .i64 18) W)
  have n0 := ifNeq0
  have n1 := ifNeq
  have X0 := hide (Bx2.new w av (.slice a L.length cap))
  obtain ⟨x0, x1, y0, y1, f0, f1⟩ := X0.out.facts
  generalize mq n L = m at *
  have hw1 : wrap64 (q - m) = q - m := by unfold wrap64; omega
  have hw2 : IntKind.i64.wrap (q - m) = q - m := by rw [IntKind.wrap_i64]; omega
  have hm1 : m < q := by omega
  have hm2 : ¬ q < m := by omega
  have hm3 : min m q = m := by omega
  generalize av + sm L = T at *
  clear hb hR hq hav hal htop hmq hc e hz0 hz1
  go_enter Tryd.func31, Tryd.ntmps31
  go_wp2_with fail
  refine (HBG.out _ X0.out.low).mono ?_
  rintro e w1 ⟨rfl, hb⟩
  have X1 := hide (X0.out.later hb)
  obtain ⟨x0, x1, y0, y1, f0, f1⟩ := X1.out.facts
  clear hb
  go_wp2_with fail
  refine (HIN.out _).mono ?_
  rintro e w' ⟨rfl, hw⟩
  have hw' := hw.symm
  clear hw
  subst hw'
  go_wp2_with fail
  refine (HUN.out _ X1.out.low).mono ?_
  rintro e w2 ⟨rfl, hb⟩
  have X2 := hide (X1.out.later hb)
  obtain ⟨x0, x1, y0, y1, f0, f1⟩ := X2.out.facts
  clear hb
  go_wp2_with fail
  refine (HAR.out _).mono ?_
  rintro e w' ⟨rfl, hw⟩
  have hw' := hw.symm
  clear hw
  subst hw'
  go_wp2_with fail
  refine (HRF.out _).mono ?_
  rintro e w3 ⟨rfl, hb⟩
  have X3 := hide (X2.out.later hb)
  obtain ⟨x0, x1, y0, y1, f0, f1⟩ := X3.out.facts
  clear hb
  unfold refV
  go_wp2_with fail
  obtain ⟨e1, e3⟩ := refuse_end X3.out
  generalize ((w3.setCell ⟨w.heap.size + 1, 0, none⟩ (.int .i64 0)).setCell ⟨w.heap.size + 1, 1, none⟩ (.slice Option.none 0 0)) = X at *
  obtain ⟨dd0, dd1⟩ := pair_cells e1 rfl
  exact bodyPost_ret (v := .tuple #[posZ, refV [100, 101, 98, 105, 116] (.iface 74 (.int .i64 18))]) (by simp [results, Tryd.results31, go_sem, dd0, dd1, refV]) rfl ⟨rfl, e3⟩
set_option maxRecDepth 100000 in
set_option maxHeartbeats 2000000 in
theorem debit_m1 (av q n : Int) (v : Value) (L : List Mk) (w : World) (h : RM w v L) (ho : MOk L) (h1 : av ≤ top) (hq1 : q ≤ top) (hl : L.length ≤ 4611686018427387904) (hb : bg av L q = none) (hz0 : 1 ≤ n) (hz1 : n ≤ 65536) (hc : ¬ av + mq n L < q) (hm : q < mq n L) :
    Calls Tryd.prog 31 #[.agg #[.int .i64 av, v], .int .i64 q, .int .i64 n] w fun e w' => Ans w w' [100, 101, 98, 105, 116] (debitO av L q n) e ∧ Below w.heap.size w w' := by
  have HQ1 := hide hq1
  clear HQ1
  have HRM := hide h
  obtain ⟨a, cap, rfl, _, _⟩ := h
  have HBG := hide (fun (W : World) (hw : Below w.heap.size w W) => begin_none av q _ L W (HRM.out.later hw) ho h1 hl hb)
  obtain ⟨hR, hq⟩ := bg_none h1 hb
  have hav := hR.av0
  have hal := hR.all
  have htop : top = 9223372036854775807 := rfl
  have hmq := mq_ge (n := n) hR.ri
  rw [show debitO av L q n = .ok av (setM n (mq n L - q) L) by unfold debitO; rw [hb]; rw [if_neg (by omega : ¬ (n < 0 ∨ 65536 < n)), if_neg hc]; exact if_pos (by omega)]
  have HIN := hide (fun W => isName_any n W)
  rw [show (decide (0 < n) && decide (n ≤ 65536)) = true by rw [Bool.and_eq_true, decide_eq_true_eq, decide_eq_true_eq]; omega] at HIN
  have hz : (n != 0) = true := by rw [bne_iff_ne]; omega
  have hz2 : ¬ n = 0 := by omega
  have HUN := hide (fun (W : World) (hw : Below w.heap.size w W) => under_any _ L n W (HRM.out.later hw) hR.ri hR.few)
  have e := sub_ok (a := av) (b := 0) (by omega) (by omega)
  have HAR := hide (fun W => sub_any av 0 W h1 (by omega))
  rw [e.2, e.1, Int.sub_zero, show errV 0 = .nilIface from rfl] at HAR
  have HTU := hide (fun (W : World) (hw : Below w.heap.size w W) => turned_any av (av) _ L (n) (mq n L - q) W (HRM.out.later hw) hR.ri hR.few)
  generalize setM (n) (mq n L - q) L = R at *
  have n0 := ifNeq0
  have n1 := ifNeq
  have X0 := hide (Bx2.new w av (.slice a L.length cap))
  obtain ⟨x0, x1, y0, y1, f0, f1⟩ := X0.out.facts
  obtain ⟨A2, hA2⟩ : ∃ A2, A2 = av := ⟨_, rfl⟩
  generalize mq n L = m at *
  have hw1 : wrap64 (m - q) = m - q := by unfold wrap64; omega
  have hw2 : IntKind.i64.wrap (m - q) = m - q := by rw [IntKind.wrap_i64]; omega
  have hm3 : min m q = q := by omega
  have hqq : q - q = 0 := by omega
  have hm1 : ¬ m < q := by omega
  have hm4 : ¬ m ≤ q := by omega
  generalize av + sm L = T at *
  clear hb hR hq hav hal htop hmq hc e hz0 hz1 hm
  subst hA2
  go_enter Tryd.func31, Tryd.ntmps31
  go_wp2_with fail
  refine (HBG.out _ X0.out.low).mono ?_
  rintro e w1 ⟨rfl, hb⟩
  have X1 := hide (X0.out.later hb)
  obtain ⟨x0, x1, y0, y1, f0, f1⟩ := X1.out.facts
  clear hb
  go_wp2_with fail
  refine (HIN.out _).mono ?_
  rintro e w' ⟨rfl, hw⟩
  have hw' := hw.symm
  clear hw
  subst hw'
  go_wp2_with fail
  refine (HUN.out _ X1.out.low).mono ?_
  rintro e w2 ⟨rfl, hb⟩
  have X2 := hide (X1.out.later hb)
  obtain ⟨x0, x1, y0, y1, f0, f1⟩ := X2.out.facts
  clear hb
  go_wp2_with fail
  refine (HAR.out _).mono ?_
  rintro e w' ⟨rfl, hw⟩
  have hw' := hw.symm
  clear hw
  subst hw'
  go_wp2_with fail
  refine (HTU.out _ X2.out.low).mono ?_
  rintro e w3 ⟨v', rfl, hO, hb⟩
  obtain ⟨a4, c4, hv4⟩ := rm_lt (OM.rm hO)
  subst hv4
  have HO := hide hO
  have X3 := hide (X2.out.later hb)
  obtain ⟨x0, x1, y0, y1, f0, f1⟩ := X3.out.facts
  clear hb
  go_wp2_with fail
  obtain ⟨e1, e2, e3⟩ := turn_end (a2 := A2) X3.out.res (World.ownsRow.mono HO.out X2.out.low.size) X3.out.low (Nat.le_succ _)
  generalize ((w3.setCell ⟨w.heap.size + 1, 0, none⟩ (.int .i64 A2)).setCell ⟨w.heap.size + 1, 1, none⟩ (.slice a4 R.length c4)) = X at *
  obtain ⟨dd0, dd1⟩ := pair_cells e1 rfl
  exact bodyPost_ret (v := .tuple #[.agg #[.int .i64 A2, .slice a4 R.length c4], .nilIface]) (by simp [results, Tryd.results31, go_sem, dd0, dd1]) rfl ⟨⟨_, rfl, e2⟩, e3⟩
set_option maxRecDepth 100000 in
set_option maxHeartbeats 2000000 in
theorem debit_e1 (av q n : Int) (v : Value) (L : List Mk) (w : World) (h : RM w v L) (ho : MOk L) (h1 : av ≤ top) (hq1 : q ≤ top) (hl : L.length ≤ 4611686018427387904) (hb : bg av L q = none) (hz0 : 1 ≤ n) (hz1 : n ≤ 65536) (hm : mq n L = q) :
    Calls Tryd.prog 31 #[.agg #[.int .i64 av, v], .int .i64 q, .int .i64 n] w fun e w' => Ans w w' [100, 101, 98, 105, 116] (debitO av L q n) e ∧ Below w.heap.size w w' := by
  have HQ1 := hide hq1
  clear HQ1
  have HRM := hide h
  obtain ⟨a, cap, rfl, _, _⟩ := h
  have HBG := hide (fun (W : World) (hw : Below w.heap.size w W) => begin_none av q _ L W (HRM.out.later hw) ho h1 hl hb)
  obtain ⟨hR, hq⟩ := bg_none h1 hb
  have hav := hR.av0
  have hal := hR.all
  have htop : top = 9223372036854775807 := rfl
  have hmq := mq_ge (n := n) hR.ri
  rw [show debitO av L q n = .ok av (setM n 0 L) by unfold debitO; rw [hb]; show (if n < 0 ∨ 65536 < n then eno 19 else if av + mq n L < q then eno 18 else if q ≤ mq n L then Out.ok av (setM n (mq n L - q) L) else _) = _; rw [if_neg (by omega : ¬ (n < 0 ∨ 65536 < n)), if_neg (by omega), if_pos (by omega), hm, Int.sub_self]]
  have HIN := hide (fun W => isName_any n W)
  rw [show (decide (0 < n) && decide (n ≤ 65536)) = true by rw [Bool.and_eq_true, decide_eq_true_eq, decide_eq_true_eq]; omega] at HIN
  have hz : (n != 0) = true := by rw [bne_iff_ne]; omega
  have hz2 : ¬ n = 0 := by omega
  have HUN := hide (fun (W : World) (hw : Below w.heap.size w W) => under_any _ L n W (HRM.out.later hw) hR.ri hR.few)
  have e := sub_ok (a := av) (b := 0) (by omega) (by omega)
  have HAR := hide (fun W => sub_any av 0 W h1 (by omega))
  rw [e.2, e.1, Int.sub_zero, show errV 0 = .nilIface from rfl] at HAR
  rw [hm] at HUN
  have HTU := hide (fun (W : World) (hw : Below w.heap.size w W) => turned_any av (av) _ L (n) (0) W (HRM.out.later hw) hR.ri hR.few)
  generalize setM (n) (0) L = R at *
  have n0 := ifNeq0
  have n1 := ifNeq
  have X0 := hide (Bx2.new w av (.slice a L.length cap))
  obtain ⟨x0, x1, y0, y1, f0, f1⟩ := X0.out.facts
  obtain ⟨A2, hA2⟩ : ∃ A2, A2 = av := ⟨_, rfl⟩
  have hm3 : min q q = q := by omega
  generalize av + sm L = T at *
  clear hb hR hq hav hal htop hmq hm e hz0 hz1
  subst hA2
  go_enter Tryd.func31, Tryd.ntmps31
  go_wp2_with fail
  refine (HBG.out _ X0.out.low).mono ?_
  rintro e w1 ⟨rfl, hb⟩
  have X1 := hide (X0.out.later hb)
  obtain ⟨x0, x1, y0, y1, f0, f1⟩ := X1.out.facts
  clear hb
  go_wp2_with fail
  refine (HIN.out _).mono ?_
  rintro e w' ⟨rfl, hw⟩
  have hw' := hw.symm
  clear hw
  subst hw'
  go_wp2_with fail
  refine (HUN.out _ X1.out.low).mono ?_
  rintro e w2 ⟨rfl, hb⟩
  have X2 := hide (X1.out.later hb)
  obtain ⟨x0, x1, y0, y1, f0, f1⟩ := X2.out.facts
  clear hb
  go_wp2_with fail
  refine (HAR.out _).mono ?_
  rintro e w' ⟨rfl, hw⟩
  have hw' := hw.symm
  clear hw
  subst hw'
  go_wp2_with fail
  refine (HTU.out _ X2.out.low).mono ?_
  rintro e w3 ⟨v', rfl, hO, hb⟩
  obtain ⟨a4, c4, hv4⟩ := rm_lt (OM.rm hO)
  subst hv4
  have HO := hide hO
  have X3 := hide (X2.out.later hb)
  obtain ⟨x0, x1, y0, y1, f0, f1⟩ := X3.out.facts
  clear hb
  go_wp2_with fail
  obtain ⟨e1, e2, e3⟩ := turn_end (a2 := A2) X3.out.res (World.ownsRow.mono HO.out X2.out.low.size) X3.out.low (Nat.le_succ _)
  generalize ((w3.setCell ⟨w.heap.size + 1, 0, none⟩ (.int .i64 A2)).setCell ⟨w.heap.size + 1, 1, none⟩ (.slice a4 R.length c4)) = X at *
  obtain ⟨dd0, dd1⟩ := pair_cells e1 rfl
  exact bodyPost_ret (v := .tuple #[.agg #[.int .i64 A2, .slice a4 R.length c4], .nilIface]) (by simp [results, Tryd.results31, go_sem, dd0, dd1]) rfl ⟨⟨_, rfl, e2⟩, e3⟩
set_option maxRecDepth 100000 in
set_option maxHeartbeats 2000000 in
theorem debit_a1 (av q n : Int) (v : Value) (L : List Mk) (w : World) (h : RM w v L) (ho : MOk L) (h1 : av ≤ top) (hq1 : q ≤ top) (hl : L.length ≤ 4611686018427387904) (hb : bg av L q = none) (hz0 : 1 ≤ n) (hz1 : n ≤ 65536) (hc : ¬ av + mq n L < q) (hm : ¬ q ≤ mq n L) :
    Calls Tryd.prog 31 #[.agg #[.int .i64 av, v], .int .i64 q, .int .i64 n] w fun e w' => Ans w w' [100, 101, 98, 105, 116] (debitO av L q n) e ∧ Below w.heap.size w w' := by
  have HQ1 := hide hq1
  clear HQ1
  have HRM := hide h
  obtain ⟨a, cap, rfl, _, _⟩ := h
  have HBG := hide (fun (W : World) (hw : Below w.heap.size w W) => begin_none av q _ L W (HRM.out.later hw) ho h1 hl hb)
  obtain ⟨hR, hq⟩ := bg_none h1 hb
  have hav := hR.av0
  have hal := hR.all
  have htop : top = 9223372036854775807 := rfl
  have hmq := mq_ge (n := n) hR.ri
  rw [show debitO av L q n = .ok (av - (q - mq n L)) (setM n 0 L) by unfold debitO; rw [hb]; rw [if_neg (by omega : ¬ (n < 0 ∨ 65536 < n)), if_neg hc]; exact if_neg hm]
  have HIN := hide (fun W => isName_any n W)
  rw [show (decide (0 < n) && decide (n ≤ 65536)) = true by rw [Bool.and_eq_true, decide_eq_true_eq, decide_eq_true_eq]; omega] at HIN
  have hz : (n != 0) = true := by rw [bne_iff_ne]; omega
  have hz2 : ¬ n = 0 := by omega
  have HUN := hide (fun (W : World) (hw : Below w.heap.size w W) => under_any _ L n W (HRM.out.later hw) hR.ri hR.few)
  have e := sub_ok (a := av) (b := q - mq n L) (by omega) (by omega)
  have HAR := hide (fun W => sub_any av (q - mq n L) W h1 (by omega))
  rw [e.2, e.1, show errV 0 = .nilIface from rfl] at HAR
  have HTU := hide (fun (W : World) (hw : Below w.heap.size w W) => turned_any av (av - (q - mq n L)) _ L (n) (0) W (HRM.out.later hw) hR.ri hR.few)
  generalize setM (n) (0) L = R at *
  have n0 := ifNeq0
  have n1 := ifNeq
  have X0 := hide (Bx2.new w av (.slice a L.length cap))
  obtain ⟨x0, x1, y0, y1, f0, f1⟩ := X0.out.facts
  obtain ⟨A2, hA2⟩ : ∃ A2, av - (q - mq n L) = A2 := ⟨_, rfl⟩
  rw [hA2] at HTU HAR ⊢
  generalize mq n L = m at *
  have hw1 : wrap64 (q - m) = q - m := by unfold wrap64; omega
  have hw2 : IntKind.i64.wrap (q - m) = q - m := by rw [IntKind.wrap_i64]; omega
  have hm3 : min m q = m := by omega
  have hqq : m - m = 0 := by omega
  have hm1 : m < q := by omega
  have hm2 : ¬ q < m := by omega
  generalize av + sm L = T at *
  clear hb hR hq hav hal htop hmq hc e hz0 hz1 hm hA2
  go_enter Tryd.func31, Tryd.ntmps31
  go_wp2_with fail
  refine (HBG.out _ X0.out.low).mono ?_
  rintro e w1 ⟨rfl, hb⟩
  have X1 := hide (X0.out.later hb)
  obtain ⟨x0, x1, y0, y1, f0, f1⟩ := X1.out.facts
  clear hb
  go_wp2_with fail
  refine (HIN.out _).mono ?_
  rintro e w' ⟨rfl, hw⟩
  have hw' := hw.symm
  clear hw
  subst hw'
  go_wp2_with fail
  refine (HUN.out _ X1.out.low).mono ?_
  rintro e w2 ⟨rfl, hb⟩
  have X2 := hide (X1.out.later hb)
  obtain ⟨x0, x1, y0, y1, f0, f1⟩ := X2.out.facts
  clear hb
  go_wp2_with fail
  refine (HAR.out _).mono ?_
  rintro e w' ⟨rfl, hw⟩
  have hw' := hw.symm
  clear hw
  subst hw'
  go_wp2_with fail
  refine (HTU.out _ X2.out.low).mono ?_
  rintro e w3 ⟨v', rfl, hO, hb⟩
  obtain ⟨a4, c4, hv4⟩ := rm_lt (OM.rm hO)
  subst hv4
  have HO := hide hO
  have X3 := hide (X2.out.later hb)
  obtain ⟨x0, x1, y0, y1, f0, f1⟩ := X3.out.facts
  clear hb
  go_wp2_with fail
  obtain ⟨e1, e2, e3⟩ := turn_end (a2 := A2) X3.out.res (World.ownsRow.mono HO.out X2.out.low.size) X3.out.low (Nat.le_succ _)
  generalize ((w3.setCell ⟨w.heap.size + 1, 0, none⟩ (.int .i64 A2)).setCell ⟨w.heap.size + 1, 1, none⟩ (.slice a4 R.length c4)) = X at *
  obtain ⟨dd0, dd1⟩ := pair_cells e1 rfl
  exact bodyPost_ret (v := .tuple #[.agg #[.int .i64 A2, .slice a4 R.length c4], .nilIface]) (by simp [results, Tryd.results31, go_sem, dd0, dd1]) rfl ⟨⟨_, rfl, e2⟩, e3⟩
set_option maxRecDepth 100000 in
set_option maxHeartbeats 2000000 in
theorem mark_b (av q n : Int) (v : Value) (L : List Mk) (w : World) (t : TypeId) (x : Value) (h : RM w v L) (ho : MOk L) (h1 : av ≤ top) (hq1 : q ≤ top) (hl : L.length ≤ 4611686018427387904) (hb : bg av L q = some (t, x)) :
    Calls Tryd.prog 28 #[.agg #[.int .i64 av, v], .int .i64 q, .int .i64 n] w fun e w' => Ans w w' [109, 97, 114, 107] (markO av L q n) e ∧ Below w.heap.size w w' := by
  have HQ1 := hide hq1
  clear HQ1
  have HRM := hide h
  obtain ⟨a, cap, rfl, _, _⟩ := h
  have HBG := hide (fun (W : World) (hw : Below w.heap.size w W) => begin_some av q _ L W t x (HRM.out.later hw) ho h1 hl hb)
  rw [show markO av L q n = .no t x by unfold markO; rw [hb]]
  have n0 := ifNeq0
  have n1 := ifNeq
  have X0 := hide (Bx2.new w av (.slice a L.length cap))
  obtain ⟨x0, x1, y0, y1, f0, f1⟩ := X0.out.facts
  have HRF := hide (fun W => refuse_any [109, 97, 114, 107] t x W)
  clear hb
  go_enter Tryd.func28, Tryd.ntmps28
  go_wp2_with fail
  refine (HBG.out _ X0.out.low).mono ?_
  rintro e w1 ⟨rfl, hb⟩
  have X1 := hide (X0.out.later hb)
  obtain ⟨x0, x1, y0, y1, f0, f1⟩ := X1.out.facts
  clear hb
  go_wp2_with fail
  refine (HRF.out _).mono ?_
  rintro e w2 ⟨rfl, hb⟩
  have X2 := hide (X1.out.later hb)
  obtain ⟨x0, x1, y0, y1, f0, f1⟩ := X2.out.facts
  clear hb
  unfold refV
  go_wp2_with fail
  obtain ⟨e1, e3⟩ := refuse_end X2.out
  generalize ((w2.setCell ⟨w.heap.size + 1, 0, none⟩ (.int .i64 0)).setCell ⟨w.heap.size + 1, 1, none⟩ (.slice Option.none 0 0)) = X at *
  obtain ⟨dd0, dd1⟩ := pair_cells e1 rfl
  exact bodyPost_ret (v := .tuple #[posZ, refV [109, 97, 114, 107] (.iface t x)]) (by simp [results, Tryd.results28, go_sem, dd0, dd1, refV]) rfl ⟨rfl, e3⟩
set_option maxRecDepth 100000 in
set_option maxHeartbeats 2000000 in
theorem mark_n (av q n : Int) (v : Value) (L : List Mk) (w : World) (h : RM w v L) (ho : MOk L) (h1 : av ≤ top) (hq1 : q ≤ top) (hl : L.length ≤ 4611686018427387904) (hb : bg av L q = none) (hn : n < 1 ∨ 65536 < n) :
    Calls Tryd.prog 28 #[.agg #[.int .i64 av, v], .int .i64 q, .int .i64 n] w fun e w' => Ans w w' [109, 97, 114, 107] (markO av L q n) e ∧ Below w.heap.size w w' := by
  have HQ1 := hide hq1
  clear HQ1
  have HRM := hide h
  obtain ⟨a, cap, rfl, _, _⟩ := h
  have HBG := hide (fun (W : World) (hw : Below w.heap.size w W) => begin_none av q _ L W (HRM.out.later hw) ho h1 hl hb)
  obtain ⟨hR, hq⟩ := bg_none h1 hb
  have hav := hR.av0
  have hal := hR.all
  have htop : top = 9223372036854775807 := rfl
  have hmq := mq_ge (n := n) hR.ri
  rw [show markO av L q n = eno 19 by unfold markO; rw [hb]; exact if_pos hn]
  have HIN := hide (fun W => isName_any n W)
  rw [show (decide (0 < n) && decide (n ≤ 65536)) = false by rw [Bool.and_eq_false_iff, decide_eq_false_iff_not, decide_eq_false_iff_not]; omega] at HIN
  have HRF := hide (fun W => refuse_any [109, 97, 114, 107] 74 (.int .i64 19) W)
  have n0 := ifNeq0
  have n1 := ifNeq
  have X0 := hide (Bx2.new w av (.slice a L.length cap))
  obtain ⟨x0, x1, y0, y1, f0, f1⟩ := X0.out.facts
  generalize av + sm L = T at *
  clear hb hR hq hav hal htop hmq hn
  go_enter Tryd.func28, Tryd.ntmps28
  go_wp2_with fail
  refine (HBG.out _ X0.out.low).mono ?_
  rintro e w1 ⟨rfl, hb⟩
  have X1 := hide (X0.out.later hb)
  obtain ⟨x0, x1, y0, y1, f0, f1⟩ := X1.out.facts
  clear hb
  go_wp2_with fail
  refine (HIN.out _).mono ?_
  rintro e w' ⟨rfl, hw⟩
  have hw' := hw.symm
  clear hw
  subst hw'
  go_wp2_with fail
  refine (HRF.out _).mono ?_
  rintro e w2 ⟨rfl, hb⟩
  have X2 := hide (X1.out.later hb)
  obtain ⟨x0, x1, y0, y1, f0, f1⟩ := X2.out.facts
  clear hb
  unfold refV
  go_wp2_with fail
  obtain ⟨e1, e3⟩ := refuse_end X2.out
  generalize ((w2.setCell ⟨w.heap.size + 1, 0, none⟩ (.int .i64 0)).setCell ⟨w.heap.size + 1, 1, none⟩ (.slice Option.none 0 0)) = X at *
  obtain ⟨dd0, dd1⟩ := pair_cells e1 rfl
  exact bodyPost_ret (v := .tuple #[posZ, refV [109, 97, 114, 107] (.iface 74 (.int .i64 19))]) (by simp [results, Tryd.results28, go_sem, dd0, dd1, refV]) rfl ⟨rfl, e3⟩
set_option maxRecDepth 100000 in
set_option maxHeartbeats 2000000 in
theorem mark_s (av q n : Int) (v : Value) (L : List Mk) (w : World) (h : RM w v L) (ho : MOk L) (h1 : av ≤ top) (hq1 : q ≤ top) (hl : L.length ≤ 4611686018427387904) (hb : bg av L q = none) (hz0 : 1 ≤ n) (hz1 : n ≤ 65536) (hc : av < q) :
    Calls Tryd.prog 28 #[.agg #[.int .i64 av, v], .int .i64 q, .int .i64 n] w fun e w' => Ans w w' [109, 97, 114, 107] (markO av L q n) e ∧ Below w.heap.size w w' := by
  have HQ1 := hide hq1
  clear HQ1
  have HRM := hide h
  obtain ⟨a, cap, rfl, _, _⟩ := h
  have HBG := hide (fun (W : World) (hw : Below w.heap.size w W) => begin_none av q _ L W (HRM.out.later hw) ho h1 hl hb)
  obtain ⟨hR, hq⟩ := bg_none h1 hb
  have hav := hR.av0
  have hal := hR.all
  have htop : top = 9223372036854775807 := rfl
  have hmq := mq_ge (n := n) hR.ri
  rw [show markO av L q n = eno 18 by unfold markO; rw [hb]; rw [if_neg (by omega : ¬ (n < 1 ∨ 65536 < n))]; exact if_pos hc]
  have HIN := hide (fun W => isName_any n W)
  rw [show (decide (0 < n) && decide (n ≤ 65536)) = true by rw [Bool.and_eq_true, decide_eq_true_eq, decide_eq_true_eq]; omega] at HIN
  have e := sub_short (a := av) (b := q) (by omega) hc
  have HAR := hide (fun W => sub_any av q W h1 hq1)
  rw [e.2, e.1, show errV 2 = .iface 74 (.int .i64 2) from rfl] at HAR
  have HRF := hide (fun W => refuse_any [109, 97, 114, 107] 74 (.int .i64 18) W)
  have n0 := ifNeq0
  have n1 := ifNeq
  have X0 := hide (Bx2.new w av (.slice a L.length cap))
  obtain ⟨x0, x1, y0, y1, f0, f1⟩ := X0.out.facts
  generalize av + sm L = T at *
  clear hb hR hq hav hal htop hmq hc e hz0 hz1
  go_enter Tryd.func28, Tryd.ntmps28
  go_wp2_with fail
  refine (HBG.out _ X0.out.low).mono ?_
  rintro e w1 ⟨rfl, hb⟩
  have X1 := hide (X0.out.later hb)
  obtain ⟨x0, x1, y0, y1, f0, f1⟩ := X1.out.facts
  clear hb
  go_wp2_with fail
  refine (HIN.out _).mono ?_
  rintro e w' ⟨rfl, hw⟩
  have hw' := hw.symm
  clear hw
  subst hw'
  go_wp2_with fail
  refine (HAR.out _).mono ?_
  rintro e w' ⟨rfl, hw⟩
  have hw' := hw.symm
  clear hw
  subst hw'
  go_wp2_with fail
  refine (HRF.out _).mono ?_
  rintro e w2 ⟨rfl, hb⟩
  have X2 := hide (X1.out.later hb)
  obtain ⟨x0, x1, y0, y1, f0, f1⟩ := X2.out.facts
  clear hb
  unfold refV
  go_wp2_with fail
  obtain ⟨e1, e3⟩ := refuse_end X2.out
  generalize ((w2.setCell ⟨w.heap.size + 1, 0, none⟩ (.int .i64 0)).setCell ⟨w.heap.size + 1, 1, none⟩ (.slice Option.none 0 0)) = X at *
  obtain ⟨dd0, dd1⟩ := pair_cells e1 rfl
  exact bodyPost_ret (v := .tuple #[posZ, refV [109, 97, 114, 107] (.iface 74 (.int .i64 18))]) (by simp [results, Tryd.results28, go_sem, dd0, dd1, refV]) rfl ⟨rfl, e3⟩
set_option maxRecDepth 100000 in
set_option maxHeartbeats 2000000 in
theorem mark_f (av q n : Int) (v : Value) (L : List Mk) (w : World) (h : RM w v L) (ho : MOk L) (h1 : av ≤ top) (hq1 : q ≤ top) (hl : L.length ≤ 4611686018427387904) (hb : bg av L q = none) (hz0 : 1 ≤ n) (hz1 : n ≤ 65536) (hc : ¬ av < q) (hm : mq n L = 0) (h88 : L.length = 8) :
    Calls Tryd.prog 28 #[.agg #[.int .i64 av, v], .int .i64 q, .int .i64 n] w fun e w' => Ans w w' [109, 97, 114, 107] (markO av L q n) e ∧ Below w.heap.size w w' := by
  have HQ1 := hide hq1
  clear HQ1
  have HRM := hide h
  obtain ⟨a, cap, rfl, _, _⟩ := h
  have HBG := hide (fun (W : World) (hw : Below w.heap.size w W) => begin_none av q _ L W (HRM.out.later hw) ho h1 hl hb)
  obtain ⟨hR, hq⟩ := bg_none h1 hb
  have hav := hR.av0
  have hal := hR.all
  have htop : top = 9223372036854775807 := rfl
  have hmq := mq_ge (n := n) hR.ri
  rw [show markO av L q n = eno 5 by unfold markO; rw [hb]; rw [if_neg (by omega : ¬ (n < 1 ∨ 65536 < n)), if_neg hc]; exact if_pos ⟨hm, h88⟩]
  have HIN := hide (fun W => isName_any n W)
  rw [show (decide (0 < n) && decide (n ≤ 65536)) = true by rw [Bool.and_eq_true, decide_eq_true_eq, decide_eq_true_eq]; omega] at HIN
  have HUN := hide (fun (W : World) (hw : Below w.heap.size w W) => under_any _ L n W (HRM.out.later hw) hR.ri hR.few)
  have e := sub_ok (a := av) (b := q) (by omega) hc
  have HAR := hide (fun W => sub_any av q W h1 hq1)
  rw [e.2, e.1, show errV 0 = .nilIface from rfl] at HAR
  have hme : (mq n L == 0) = true := by rw [beq_iff_eq]; exact hm
  have hle : ((L.length : Int) == 8) = true := by rw [beq_iff_eq]; omega
  have HRF := hide (fun W => refuse_any [109, 97, 114, 107] 74 (.int .i64 5) W)
  have n0 := ifNeq0
  have n1 := ifNeq
  have X0 := hide (Bx2.new w av (.slice a L.length cap))
  obtain ⟨x0, x1, y0, y1, f0, f1⟩ := X0.out.facts
  obtain ⟨A2, hA2⟩ : ∃ A2, av - q = A2 := ⟨_, rfl⟩
  rw [hA2] at HAR
  generalize mq n L = m at *
  have hw1 : wrap64 (m + q) = m + q := by unfold wrap64; omega
  have hw2 : IntKind.i64.wrap (m + q) = m + q := by rw [IntKind.wrap_i64]; omega
  generalize av + sm L = T at *
  clear hb hR hq hav hal htop hmq hc e hz0 hz1 h88 hm hA2
  go_enter Tryd.func28, Tryd.ntmps28
  go_wp2_with fail
  refine (HBG.out _ X0.out.low).mono ?_
  rintro e w1 ⟨rfl, hb⟩
  have X1 := hide (X0.out.later hb)
  obtain ⟨x0, x1, y0, y1, f0, f1⟩ := X1.out.facts
  clear hb
  go_wp2_with fail
  refine (HIN.out _).mono ?_
  rintro e w' ⟨rfl, hw⟩
  have hw' := hw.symm
  clear hw
  subst hw'
  go_wp2_with fail
  refine (HAR.out _).mono ?_
  rintro e w' ⟨rfl, hw⟩
  have hw' := hw.symm
  clear hw
  subst hw'
  go_wp2_with fail
  refine (HUN.out _ X1.out.low).mono ?_
  rintro e w2 ⟨rfl, hb⟩
  have X2 := hide (X1.out.later hb)
  obtain ⟨x0, x1, y0, y1, f0, f1⟩ := X2.out.facts
  clear hb
  go_wp2_with fail
  refine (HRF.out _).mono ?_
  rintro e w3 ⟨rfl, hb⟩
  have X3 := hide (X2.out.later hb)
  obtain ⟨x0, x1, y0, y1, f0, f1⟩ := X3.out.facts
  clear hb
  unfold refV
  go_wp2_with fail
  obtain ⟨e1, e3⟩ := refuse_end X3.out
  generalize ((w3.setCell ⟨w.heap.size + 1, 0, none⟩ (.int .i64 0)).setCell ⟨w.heap.size + 1, 1, none⟩ (.slice Option.none 0 0)) = X at *
  obtain ⟨dd0, dd1⟩ := pair_cells e1 rfl
  exact bodyPost_ret (v := .tuple #[posZ, refV [109, 97, 114, 107] (.iface 74 (.int .i64 5))]) (by simp [results, Tryd.results28, go_sem, dd0, dd1, refV]) rfl ⟨rfl, e3⟩
set_option maxRecDepth 100000 in
set_option maxHeartbeats 2000000 in
theorem mark_k (av q n : Int) (v : Value) (L : List Mk) (w : World) (h : RM w v L) (ho : MOk L) (h1 : av ≤ top) (hq1 : q ≤ top) (hl : L.length ≤ 4611686018427387904) (hb : bg av L q = none) (hz0 : 1 ≤ n) (hz1 : n ≤ 65536) (hc : ¬ av < q) (hm : mq n L = 0) (h88 : ¬ L.length = 8) :
    Calls Tryd.prog 28 #[.agg #[.int .i64 av, v], .int .i64 q, .int .i64 n] w fun e w' => Ans w w' [109, 97, 114, 107] (markO av L q n) e ∧ Below w.heap.size w w' := by
  have HQ1 := hide hq1
  clear HQ1
  have HRM := hide h
  obtain ⟨a, cap, rfl, _, _⟩ := h
  have HBG := hide (fun (W : World) (hw : Below w.heap.size w W) => begin_none av q _ L W (HRM.out.later hw) ho h1 hl hb)
  obtain ⟨hR, hq⟩ := bg_none h1 hb
  have hav := hR.av0
  have hal := hR.all
  have htop : top = 9223372036854775807 := rfl
  have hmq := mq_ge (n := n) hR.ri
  rw [show markO av L q n = .ok (av - q) (setM n (mq n L + q) L) by unfold markO; rw [hb]; rw [if_neg (by omega : ¬ (n < 1 ∨ 65536 < n)), if_neg hc]; exact if_neg (fun e => h88 e.2)]
  have HIN := hide (fun W => isName_any n W)
  rw [show (decide (0 < n) && decide (n ≤ 65536)) = true by rw [Bool.and_eq_true, decide_eq_true_eq, decide_eq_true_eq]; omega] at HIN
  have HUN := hide (fun (W : World) (hw : Below w.heap.size w W) => under_any _ L n W (HRM.out.later hw) hR.ri hR.few)
  have e := sub_ok (a := av) (b := q) (by omega) hc
  have HAR := hide (fun W => sub_any av q W h1 hq1)
  rw [e.2, e.1, show errV 0 = .nilIface from rfl] at HAR
  have hme : (mq n L == 0) = true := by rw [beq_iff_eq]; exact hm
  have hle : ((L.length : Int) == 8) = false := by rw [beq_eq_false_iff_ne]; omega
  have HTU := hide (fun (W : World) (hw : Below w.heap.size w W) => turned_any av (av - q) _ L (n) (mq n L + q) W (HRM.out.later hw) hR.ri hR.few)
  generalize setM (n) (mq n L + q) L = R at *
  have n0 := ifNeq0
  have n1 := ifNeq
  have X0 := hide (Bx2.new w av (.slice a L.length cap))
  obtain ⟨x0, x1, y0, y1, f0, f1⟩ := X0.out.facts
  obtain ⟨A2, hA2⟩ : ∃ A2, av - q = A2 := ⟨_, rfl⟩
  rw [hA2] at HAR HTU ⊢
  generalize mq n L = m at *
  have hw1 : wrap64 (m + q) = m + q := by unfold wrap64; omega
  have hw2 : IntKind.i64.wrap (m + q) = m + q := by rw [IntKind.wrap_i64]; omega
  generalize av + sm L = T at *
  clear hb hR hq hav hal htop hmq hc e hz0 hz1 h88 hm hA2
  go_enter Tryd.func28, Tryd.ntmps28
  go_wp2_with fail
  refine (HBG.out _ X0.out.low).mono ?_
  rintro e w1 ⟨rfl, hb⟩
  have X1 := hide (X0.out.later hb)
  obtain ⟨x0, x1, y0, y1, f0, f1⟩ := X1.out.facts
  clear hb
  go_wp2_with fail
  refine (HIN.out _).mono ?_
  rintro e w' ⟨rfl, hw⟩
  have hw' := hw.symm
  clear hw
  subst hw'
  go_wp2_with fail
  refine (HAR.out _).mono ?_
  rintro e w' ⟨rfl, hw⟩
  have hw' := hw.symm
  clear hw
  subst hw'
  go_wp2_with fail
  refine (HUN.out _ X1.out.low).mono ?_
  rintro e w2 ⟨rfl, hb⟩
  have X2 := hide (X1.out.later hb)
  obtain ⟨x0, x1, y0, y1, f0, f1⟩ := X2.out.facts
  clear hb
  go_wp2_with fail
  refine (HTU.out _ X2.out.low).mono ?_
  rintro e w3 ⟨v', rfl, hO, hb⟩
  obtain ⟨a4, c4, hv4⟩ := rm_lt (OM.rm hO)
  subst hv4
  have HO := hide hO
  have X3 := hide (X2.out.later hb)
  obtain ⟨x0, x1, y0, y1, f0, f1⟩ := X3.out.facts
  clear hb
  go_wp2_with fail
  obtain ⟨e1, e2, e3⟩ := turn_end (a2 := A2) X3.out.res (World.ownsRow.mono HO.out X2.out.low.size) X3.out.low (Nat.le_succ _)
  generalize ((w3.setCell ⟨w.heap.size + 1, 0, none⟩ (.int .i64 A2)).setCell ⟨w.heap.size + 1, 1, none⟩ (.slice a4 R.length c4)) = X at *
  obtain ⟨dd0, dd1⟩ := pair_cells e1 rfl
  exact bodyPost_ret (v := .tuple #[.agg #[.int .i64 A2, .slice a4 R.length c4], .nilIface]) (by simp [results, Tryd.results28, go_sem, dd0, dd1]) rfl ⟨⟨_, rfl, e2⟩, e3⟩
set_option maxRecDepth 100000 in
set_option maxHeartbeats 2000000 in
theorem mark_l (av q n : Int) (v : Value) (L : List Mk) (w : World) (h : RM w v L) (ho : MOk L) (h1 : av ≤ top) (hq1 : q ≤ top) (hl : L.length ≤ 4611686018427387904) (hb : bg av L q = none) (hz0 : 1 ≤ n) (hz1 : n ≤ 65536) (hc : ¬ av < q) (hm : ¬ mq n L = 0) :
    Calls Tryd.prog 28 #[.agg #[.int .i64 av, v], .int .i64 q, .int .i64 n] w fun e w' => Ans w w' [109, 97, 114, 107] (markO av L q n) e ∧ Below w.heap.size w w' := by
  have HQ1 := hide hq1
  clear HQ1
  have HRM := hide h
  obtain ⟨a, cap, rfl, _, _⟩ := h
  have HBG := hide (fun (W : World) (hw : Below w.heap.size w W) => begin_none av q _ L W (HRM.out.later hw) ho h1 hl hb)
  obtain ⟨hR, hq⟩ := bg_none h1 hb
  have hav := hR.av0
  have hal := hR.all
  have htop : top = 9223372036854775807 := rfl
  have hmq := mq_ge (n := n) hR.ri
  rw [show markO av L q n = .ok (av - q) (setM n (mq n L + q) L) by unfold markO; rw [hb]; rw [if_neg (by omega : ¬ (n < 1 ∨ 65536 < n)), if_neg hc]; exact if_neg (fun e => hm e.1)]
  have HIN := hide (fun W => isName_any n W)
  rw [show (decide (0 < n) && decide (n ≤ 65536)) = true by rw [Bool.and_eq_true, decide_eq_true_eq, decide_eq_true_eq]; omega] at HIN
  have HUN := hide (fun (W : World) (hw : Below w.heap.size w W) => under_any _ L n W (HRM.out.later hw) hR.ri hR.few)
  have e := sub_ok (a := av) (b := q) (by omega) hc
  have HAR := hide (fun W => sub_any av q W h1 hq1)
  rw [e.2, e.1, show errV 0 = .nilIface from rfl] at HAR
  have hme : (mq n L == 0) = false := by rw [beq_eq_false_iff_ne]; exact hm
  have HTU := hide (fun (W : World) (hw : Below w.heap.size w W) => turned_any av (av - q) _ L (n) (mq n L + q) W (HRM.out.later hw) hR.ri hR.few)
  generalize setM (n) (mq n L + q) L = R at *
  have n0 := ifNeq0
  have n1 := ifNeq
  have X0 := hide (Bx2.new w av (.slice a L.length cap))
  obtain ⟨x0, x1, y0, y1, f0, f1⟩ := X0.out.facts
  obtain ⟨A2, hA2⟩ : ∃ A2, av - q = A2 := ⟨_, rfl⟩
  rw [hA2] at HAR HTU ⊢
  generalize mq n L = m at *
  have hw1 : wrap64 (m + q) = m + q := by unfold wrap64; omega
  have hw2 : IntKind.i64.wrap (m + q) = m + q := by rw [IntKind.wrap_i64]; omega
  generalize av + sm L = T at *
  clear hb hR hq hav hal htop hmq hc e hz0 hz1 hm hA2
  go_enter Tryd.func28, Tryd.ntmps28
  go_wp2_with fail
  refine (HBG.out _ X0.out.low).mono ?_
  rintro e w1 ⟨rfl, hb⟩
  have X1 := hide (X0.out.later hb)
  obtain ⟨x0, x1, y0, y1, f0, f1⟩ := X1.out.facts
  clear hb
  go_wp2_with fail
  refine (HIN.out _).mono ?_
  rintro e w' ⟨rfl, hw⟩
  have hw' := hw.symm
  clear hw
  subst hw'
  go_wp2_with fail
  refine (HAR.out _).mono ?_
  rintro e w' ⟨rfl, hw⟩
  have hw' := hw.symm
  clear hw
  subst hw'
  go_wp2_with fail
  refine (HUN.out _ X1.out.low).mono ?_
  rintro e w2 ⟨rfl, hb⟩
  have X2 := hide (X1.out.later hb)
  obtain ⟨x0, x1, y0, y1, f0, f1⟩ := X2.out.facts
  clear hb
  go_wp2_with fail
  refine (HTU.out _ X2.out.low).mono ?_
  rintro e w3 ⟨v', rfl, hO, hb⟩
  obtain ⟨a4, c4, hv4⟩ := rm_lt (OM.rm hO)
  subst hv4
  have HO := hide hO
  have X3 := hide (X2.out.later hb)
  obtain ⟨x0, x1, y0, y1, f0, f1⟩ := X3.out.facts
  clear hb
  go_wp2_with fail
  obtain ⟨e1, e2, e3⟩ := turn_end (a2 := A2) X3.out.res (World.ownsRow.mono HO.out X2.out.low.size) X3.out.low (Nat.le_succ _)
  generalize ((w3.setCell ⟨w.heap.size + 1, 0, none⟩ (.int .i64 A2)).setCell ⟨w.heap.size + 1, 1, none⟩ (.slice a4 R.length c4)) = X at *
  obtain ⟨dd0, dd1⟩ := pair_cells e1 rfl
  exact bodyPost_ret (v := .tuple #[.agg #[.int .i64 A2, .slice a4 R.length c4], .nilIface]) (by simp [results, Tryd.results28, go_sem, dd0, dd1]) rfl ⟨⟨_, rfl, e2⟩, e3⟩
set_option maxRecDepth 100000 in
set_option maxHeartbeats 2000000 in
theorem unmark_b (av q n : Int) (v : Value) (L : List Mk) (w : World) (t : TypeId) (x : Value) (h : RM w v L) (ho : MOk L) (h1 : av ≤ top) (hq1 : q ≤ top) (hl : L.length ≤ 4611686018427387904) (hb : bg av L q = some (t, x)) :
    Calls Tryd.prog 29 #[.agg #[.int .i64 av, v], .int .i64 q, .int .i64 n] w fun e w' => Ans w w' [117, 110, 109, 97, 114, 107] (unmarkO av L q n) e ∧ Below w.heap.size w w' := by
  have HQ1 := hide hq1
  clear HQ1
  have HRM := hide h
  obtain ⟨a, cap, rfl, _, _⟩ := h
  have HBG := hide (fun (W : World) (hw : Below w.heap.size w W) => begin_some av q _ L W t x (HRM.out.later hw) ho h1 hl hb)
  rw [show unmarkO av L q n = .no t x by unfold unmarkO; rw [hb]]
  have n0 := ifNeq0
  have n1 := ifNeq
  have X0 := hide (Bx2.new w av (.slice a L.length cap))
  obtain ⟨x0, x1, y0, y1, f0, f1⟩ := X0.out.facts
  have HRF := hide (fun W => refuse_any [117, 110, 109, 97, 114, 107] t x W)
  clear hb
  go_enter Tryd.func29, Tryd.ntmps29
  go_wp2_with fail
  refine (HBG.out _ X0.out.low).mono ?_
  rintro e w1 ⟨rfl, hb⟩
  have X1 := hide (X0.out.later hb)
  obtain ⟨x0, x1, y0, y1, f0, f1⟩ := X1.out.facts
  clear hb
  go_wp2_with fail
  refine (HRF.out _).mono ?_
  rintro e w2 ⟨rfl, hb⟩
  have X2 := hide (X1.out.later hb)
  obtain ⟨x0, x1, y0, y1, f0, f1⟩ := X2.out.facts
  clear hb
  unfold refV
  go_wp2_with fail
  obtain ⟨e1, e3⟩ := refuse_end X2.out
  generalize ((w2.setCell ⟨w.heap.size + 1, 0, none⟩ (.int .i64 0)).setCell ⟨w.heap.size + 1, 1, none⟩ (.slice Option.none 0 0)) = X at *
  obtain ⟨dd0, dd1⟩ := pair_cells e1 rfl
  exact bodyPost_ret (v := .tuple #[posZ, refV [117, 110, 109, 97, 114, 107] (.iface t x)]) (by simp [results, Tryd.results29, go_sem, dd0, dd1, refV]) rfl ⟨rfl, e3⟩
set_option maxRecDepth 100000 in
set_option maxHeartbeats 2000000 in
theorem unmark_n (av q n : Int) (v : Value) (L : List Mk) (w : World) (h : RM w v L) (ho : MOk L) (h1 : av ≤ top) (hq1 : q ≤ top) (hl : L.length ≤ 4611686018427387904) (hb : bg av L q = none) (hm : mq n L = 0) :
    Calls Tryd.prog 29 #[.agg #[.int .i64 av, v], .int .i64 q, .int .i64 n] w fun e w' => Ans w w' [117, 110, 109, 97, 114, 107] (unmarkO av L q n) e ∧ Below w.heap.size w w' := by
  have HQ1 := hide hq1
  clear HQ1
  have HRM := hide h
  obtain ⟨a, cap, rfl, _, _⟩ := h
  have HBG := hide (fun (W : World) (hw : Below w.heap.size w W) => begin_none av q _ L W (HRM.out.later hw) ho h1 hl hb)
  obtain ⟨hR, hq⟩ := bg_none h1 hb
  have hav := hR.av0
  have hal := hR.all
  have htop : top = 9223372036854775807 := rfl
  have hmq := mq_ge (n := n) hR.ri
  rw [show unmarkO av L q n = eno 19 by unfold unmarkO; rw [hb]; exact if_pos hm]
  have hme : (mq n L == 0) = true := by rw [beq_iff_eq]; exact hm
  have HUN := hide (fun (W : World) (hw : Below w.heap.size w W) => under_any _ L n W (HRM.out.later hw) hR.ri hR.few)
  have HRF := hide (fun W => refuse_any [117, 110, 109, 97, 114, 107] 74 (.int .i64 19) W)
  have n0 := ifNeq0
  have n1 := ifNeq
  have X0 := hide (Bx2.new w av (.slice a L.length cap))
  obtain ⟨x0, x1, y0, y1, f0, f1⟩ := X0.out.facts
  generalize mq n L = m at *
  generalize av + sm L = T at *
  clear hb hR hq hav hal htop hmq hm
  go_enter Tryd.func29, Tryd.ntmps29
  go_wp2_with fail
  refine (HBG.out _ X0.out.low).mono ?_
  rintro e w1 ⟨rfl, hb⟩
  have X1 := hide (X0.out.later hb)
  obtain ⟨x0, x1, y0, y1, f0, f1⟩ := X1.out.facts
  clear hb
  go_wp2_with fail
  refine (HUN.out _ X1.out.low).mono ?_
  rintro e w2 ⟨rfl, hb⟩
  have X2 := hide (X1.out.later hb)
  obtain ⟨x0, x1, y0, y1, f0, f1⟩ := X2.out.facts
  clear hb
  go_wp2_with fail
  refine (HRF.out _).mono ?_
  rintro e w3 ⟨rfl, hb⟩
  have X3 := hide (X2.out.later hb)
  obtain ⟨x0, x1, y0, y1, f0, f1⟩ := X3.out.facts
  clear hb
  unfold refV
  go_wp2_with fail
  obtain ⟨e1, e3⟩ := refuse_end X3.out
  generalize ((w3.setCell ⟨w.heap.size + 1, 0, none⟩ (.int .i64 0)).setCell ⟨w.heap.size + 1, 1, none⟩ (.slice Option.none 0 0)) = X at *
  obtain ⟨dd0, dd1⟩ := pair_cells e1 rfl
  exact bodyPost_ret (v := .tuple #[posZ, refV [117, 110, 109, 97, 114, 107] (.iface 74 (.int .i64 19))]) (by simp [results, Tryd.results29, go_sem, dd0, dd1, refV]) rfl ⟨rfl, e3⟩
set_option maxRecDepth 100000 in
set_option maxHeartbeats 2000000 in
theorem unmark_s (av q n : Int) (v : Value) (L : List Mk) (w : World) (h : RM w v L) (ho : MOk L) (h1 : av ≤ top) (hq1 : q ≤ top) (hl : L.length ≤ 4611686018427387904) (hb : bg av L q = none) (hm : ¬ mq n L = 0) (hc : mq n L < q) :
    Calls Tryd.prog 29 #[.agg #[.int .i64 av, v], .int .i64 q, .int .i64 n] w fun e w' => Ans w w' [117, 110, 109, 97, 114, 107] (unmarkO av L q n) e ∧ Below w.heap.size w w' := by
  have HQ1 := hide hq1
  clear HQ1
  have HRM := hide h
  obtain ⟨a, cap, rfl, _, _⟩ := h
  have HBG := hide (fun (W : World) (hw : Below w.heap.size w W) => begin_none av q _ L W (HRM.out.later hw) ho h1 hl hb)
  obtain ⟨hR, hq⟩ := bg_none h1 hb
  have hav := hR.av0
  have hal := hR.all
  have htop : top = 9223372036854775807 := rfl
  have hmq := mq_ge (n := n) hR.ri
  rw [show unmarkO av L q n = eno 18 by unfold unmarkO; rw [hb]; rw [if_neg hm]; exact if_pos hc]
  have hme : (mq n L == 0) = false := by rw [beq_eq_false_iff_ne]; exact hm
  have HUN := hide (fun (W : World) (hw : Below w.heap.size w W) => under_any _ L n W (HRM.out.later hw) hR.ri hR.few)
  have e := sub_short (a := mq n L) (b := q) (by omega) hc
  have HAR := hide (fun W => sub_any (mq n L) q W (by omega) hq1)
  rw [e.2, e.1, show errV 2 = .iface 74 (.int .i64 2) from rfl] at HAR
  have HRF := hide (fun W => refuse_any [117, 110, 109, 97, 114, 107] 74 (.int .i64 18) W)
  have n0 := ifNeq0
  have n1 := ifNeq
  have X0 := hide (Bx2.new w av (.slice a L.length cap))
  obtain ⟨x0, x1, y0, y1, f0, f1⟩ := X0.out.facts
  generalize mq n L = m at *
  generalize av + sm L = T at *
  clear hb hR hq hav hal htop hmq hm hc e
  go_enter Tryd.func29, Tryd.ntmps29
  go_wp2_with fail
  refine (HBG.out _ X0.out.low).mono ?_
  rintro e w1 ⟨rfl, hb⟩
  have X1 := hide (X0.out.later hb)
  obtain ⟨x0, x1, y0, y1, f0, f1⟩ := X1.out.facts
  clear hb
  go_wp2_with fail
  refine (HUN.out _ X1.out.low).mono ?_
  rintro e w2 ⟨rfl, hb⟩
  have X2 := hide (X1.out.later hb)
  obtain ⟨x0, x1, y0, y1, f0, f1⟩ := X2.out.facts
  clear hb
  go_wp2_with fail
  refine (HAR.out _).mono ?_
  rintro e w' ⟨rfl, hw⟩
  have hw' := hw.symm
  clear hw
  subst hw'
  go_wp2_with fail
  refine (HRF.out _).mono ?_
  rintro e w3 ⟨rfl, hb⟩
  have X3 := hide (X2.out.later hb)
  obtain ⟨x0, x1, y0, y1, f0, f1⟩ := X3.out.facts
  clear hb
  unfold refV
  go_wp2_with fail
  obtain ⟨e1, e3⟩ := refuse_end X3.out
  generalize ((w3.setCell ⟨w.heap.size + 1, 0, none⟩ (.int .i64 0)).setCell ⟨w.heap.size + 1, 1, none⟩ (.slice Option.none 0 0)) = X at *
  obtain ⟨dd0, dd1⟩ := pair_cells e1 rfl
  exact bodyPost_ret (v := .tuple #[posZ, refV [117, 110, 109, 97, 114, 107] (.iface 74 (.int .i64 18))]) (by simp [results, Tryd.results29, go_sem, dd0, dd1, refV]) rfl ⟨rfl, e3⟩
set_option maxRecDepth 100000 in
set_option maxHeartbeats 2000000 in
theorem unmark_k (av q n : Int) (v : Value) (L : List Mk) (w : World) (h : RM w v L) (ho : MOk L) (h1 : av ≤ top) (hq1 : q ≤ top) (hl : L.length ≤ 4611686018427387904) (hb : bg av L q = none) (hm : ¬ mq n L = 0) (hc : ¬ mq n L < q) :
    Calls Tryd.prog 29 #[.agg #[.int .i64 av, v], .int .i64 q, .int .i64 n] w fun e w' => Ans w w' [117, 110, 109, 97, 114, 107] (unmarkO av L q n) e ∧ Below w.heap.size w w' := by
  have HQ1 := hide hq1
  clear HQ1
  have HRM := hide h
  obtain ⟨a, cap, rfl, _, _⟩ := h
  have HBG := hide (fun (W : World) (hw : Below w.heap.size w W) => begin_none av q _ L W (HRM.out.later hw) ho h1 hl hb)
  obtain ⟨hR, hq⟩ := bg_none h1 hb
  have hav := hR.av0
  have hal := hR.all
  have htop : top = 9223372036854775807 := rfl
  have hmq := mq_ge (n := n) hR.ri
  rw [show unmarkO av L q n = .ok (av + q) (setM n (mq n L - q) L) by unfold unmarkO; rw [hb]; rw [if_neg hm]; exact if_neg hc]
  have hme : (mq n L == 0) = false := by rw [beq_eq_false_iff_ne]; exact hm
  have HUN := hide (fun (W : World) (hw : Below w.heap.size w W) => under_any _ L n W (HRM.out.later hw) hR.ri hR.few)
  have e := sub_ok (a := mq n L) (b := q) (by omega) hc
  have HAR := hide (fun W => sub_any (mq n L) q W (by omega) hq1)
  rw [e.2, e.1, show errV 0 = .nilIface from rfl] at HAR
  have HTU := hide (fun (W : World) (hw : Below w.heap.size w W) => turned_any av (av + q) _ L (n) (mq n L - q) W (HRM.out.later hw) hR.ri hR.few)
  generalize setM (n) (mq n L - q) L = R at *
  have n0 := ifNeq0
  have n1 := ifNeq
  have X0 := hide (Bx2.new w av (.slice a L.length cap))
  obtain ⟨x0, x1, y0, y1, f0, f1⟩ := X0.out.facts
  obtain ⟨A2, hA2⟩ : ∃ A2, av + q = A2 := ⟨_, rfl⟩
  rw [hA2] at HTU ⊢
  have hw1 : wrap64 (av + q) = A2 := by rw [← hA2]; unfold wrap64; omega
  have hw2 : IntKind.i64.wrap (av + q) = A2 := by rw [IntKind.wrap_i64, ← hA2]; omega
  generalize mq n L - q = m2 at *
  generalize mq n L = m at *
  generalize av + sm L = T at *
  clear hb hR hq hav hal htop hmq hm hc e hA2
  go_enter Tryd.func29, Tryd.ntmps29
  go_wp2_with fail
  refine (HBG.out _ X0.out.low).mono ?_
  rintro e w1 ⟨rfl, hb⟩
  have X1 := hide (X0.out.later hb)
  obtain ⟨x0, x1, y0, y1, f0, f1⟩ := X1.out.facts
  clear hb
  go_wp2_with fail
  refine (HUN.out _ X1.out.low).mono ?_
  rintro e w2 ⟨rfl, hb⟩
  have X2 := hide (X1.out.later hb)
  obtain ⟨x0, x1, y0, y1, f0, f1⟩ := X2.out.facts
  clear hb
  go_wp2_with fail
  refine (HAR.out _).mono ?_
  rintro e w' ⟨rfl, hw⟩
  have hw' := hw.symm
  clear hw
  subst hw'
  go_wp2_with fail
  refine (HTU.out _ X2.out.low).mono ?_
  rintro e w3 ⟨v', rfl, hO, hb⟩
  obtain ⟨a4, c4, hv4⟩ := rm_lt (OM.rm hO)
  subst hv4
  have HO := hide hO
  have X3 := hide (X2.out.later hb)
  obtain ⟨x0, x1, y0, y1, f0, f1⟩ := X3.out.facts
  clear hb
  go_wp2_with fail
  obtain ⟨e1, e2, e3⟩ := turn_end (a2 := A2) X3.out.res (World.ownsRow.mono HO.out X2.out.low.size) X3.out.low (Nat.le_succ _)
  generalize ((w3.setCell ⟨w.heap.size + 1, 0, none⟩ (.int .i64 A2)).setCell ⟨w.heap.size + 1, 1, none⟩ (.slice a4 R.length c4)) = X at *
  obtain ⟨dd0, dd1⟩ := pair_cells e1 rfl
  exact bodyPost_ret (v := .tuple #[.agg #[.int .i64 A2, .slice a4 R.length c4], .nilIface]) (by simp [results, Tryd.results29, go_sem, dd0, dd1]) rfl ⟨⟨_, rfl, e2⟩, e3⟩
theorem credit_any (av q : Int) (v : Value) (L : List Mk) (w : World) (h : RM w v L) (ho : MOk L) (h1 : av ≤ top) (hq1 : q ≤ top) (hl : L.length ≤ 4611686018427387904) :
    Calls Tryd.prog 30 #[.agg #[.int .i64 av, v], .int .i64 q] w fun e w' => Ans w w' [99, 114, 101, 100, 105, 116] (creditO av L q) e ∧ Below w.heap.size w w' := by
  cases hb : bg av L q with
  | some p => exact credit_b av q v L w p.1 p.2 h ho h1 hq1 hl hb
  | none =>
    by_cases hc : top < av + sm L + q
    · exact credit_o av q v L w h ho h1 hq1 hl hb hc
    · exact credit_k av q v L w h ho h1 hq1 hl hb hc
theorem debit_any (av q n : Int) (v : Value) (L : List Mk) (w : World) (h : RM w v L) (ho : MOk L) (h1 : av ≤ top) (hq1 : q ≤ top) (hl : L.length ≤ 4611686018427387904) :
    Calls Tryd.prog 31 #[.agg #[.int .i64 av, v], .int .i64 q, .int .i64 n] w fun e w' => Ans w w' [100, 101, 98, 105, 116] (debitO av L q n) e ∧ Below w.heap.size w w' := by
  cases hb : bg av L q with
  | some p => exact debit_b av q n v L w p.1 p.2 h ho h1 hq1 hl hb
  | none =>
    by_cases hn : n < 0 ∨ 65536 < n
    · exact debit_n av q n v L w h ho h1 hq1 hl hb hn
    · by_cases hz : n = 0
      · by_cases hc : av + mq n L < q
        · exact debit_s0 av q n v L w h ho h1 hq1 hl hb hz hc
        · by_cases hm : q ≤ mq n L
          · by_cases he : mq n L = q
            · exact debit_e0 av q n v L w h ho h1 hq1 hl hb hz he
            · exact debit_m0 av q n v L w h ho h1 hq1 hl hb hz hc (by omega)
          · exact debit_a0 av q n v L w h ho h1 hq1 hl hb hz hc hm
      · by_cases hc : av + mq n L < q
        · exact debit_s1 av q n v L w h ho h1 hq1 hl hb (by omega) (by omega) hc
        · by_cases hm : q ≤ mq n L
          · by_cases he : mq n L = q
            · exact debit_e1 av q n v L w h ho h1 hq1 hl hb (by omega) (by omega) he
            · exact debit_m1 av q n v L w h ho h1 hq1 hl hb (by omega) (by omega) hc (by omega)
          · exact debit_a1 av q n v L w h ho h1 hq1 hl hb (by omega) (by omega) hc hm
theorem mark_any (av q n : Int) (v : Value) (L : List Mk) (w : World) (h : RM w v L) (ho : MOk L) (h1 : av ≤ top) (hq1 : q ≤ top) (hl : L.length ≤ 4611686018427387904) :
    Calls Tryd.prog 28 #[.agg #[.int .i64 av, v], .int .i64 q, .int .i64 n] w fun e w' => Ans w w' [109, 97, 114, 107] (markO av L q n) e ∧ Below w.heap.size w w' := by
  cases hb : bg av L q with
  | some p => exact mark_b av q n v L w p.1 p.2 h ho h1 hq1 hl hb
  | none =>
    by_cases hn : n < 1 ∨ 65536 < n
    · exact mark_n av q n v L w h ho h1 hq1 hl hb hn
    · by_cases hc : av < q
      · exact mark_s av q n v L w h ho h1 hq1 hl hb (by omega) (by omega) hc
      · by_cases hm : mq n L = 0
        · by_cases h88 : L.length = 8
          · exact mark_f av q n v L w h ho h1 hq1 hl hb (by omega) (by omega) hc hm h88
          · exact mark_k av q n v L w h ho h1 hq1 hl hb (by omega) (by omega) hc hm h88
        · exact mark_l av q n v L w h ho h1 hq1 hl hb (by omega) (by omega) hc hm
theorem unmark_any (av q n : Int) (v : Value) (L : List Mk) (w : World) (h : RM w v L) (ho : MOk L) (h1 : av ≤ top) (hq1 : q ≤ top) (hl : L.length ≤ 4611686018427387904) :
    Calls Tryd.prog 29 #[.agg #[.int .i64 av, v], .int .i64 q, .int .i64 n] w fun e w' => Ans w w' [117, 110, 109, 97, 114, 107] (unmarkO av L q n) e ∧ Below w.heap.size w w' := by
  cases hb : bg av L q with
  | some p => exact unmark_b av q n v L w p.1 p.2 h ho h1 hq1 hl hb
  | none =>
    by_cases hm : mq n L = 0
    · exact unmark_n av q n v L w h ho h1 hq1 hl hb hm
    · by_cases hc : mq n L < q
      · exact unmark_s av q n v L w h ho h1 hq1 hl hb hm hc
      · exact unmark_k av q n v L w h ho h1 hq1 hl hb hm hc

end Go.Proofs.YtmebomifakmkbaaDoor
