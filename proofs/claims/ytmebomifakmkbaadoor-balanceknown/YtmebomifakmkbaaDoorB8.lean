/-
  My own text: one of the four calls, as the laws ask it; that anything works (printed by mkb8.py).
-/
import Derived.Test.YtmebomifakmkbaaDoorBM2
import Derived.Test.YtmebomifakmkbaaDoorBE3
namespace Go.Proofs.YtmebomifakmkbaaDoor
open Go.RowKit

theorem Ans.no {w w' : World} {s : List UInt8} {t : TypeId} {x : Value} {e : Ending} (h : Ans w w' s (.no t x) e) : e = .returned (.tuple #[posZ, refV s (.iface t x)]) := h
theorem Ans.ok {w w' : World} {s : List UInt8} {a : Int} {M : List Mk} {e : Ending} (h : Ans w w' s (.ok a M) e) : ∃ v, e = .returned (.tuple #[.agg #[.int .i64 a, v], .nilIface]) ∧ OM w' w.heap.size v M := h
theorem ifEql (t : TypeId) (x : Value) (W : World) : (binOp .eql 29 (.iface t x) .nilIface).run Tryd.prog W = .ok (.bool false) W := by kernel_rfl
theorem ifEql0 (W : World) : (binOp .eql 29 .nilIface .nilIface).run Tryd.prog W = .ok (.bool true) W := by kernel_rfl
/-- Two parameters' boxes and the result's. -/
structure Bx3 (w : World) (av : Int) (v : Value) (k q n : Int) (W : World) : Prop where
  low : Below w.heap.size w W
  par : W.heap[w.heap.size]? = some (.cells #[.int .i64 av, v] 24 (0, 0))
  cal : W.heap[w.heap.size + 1]? = some (.cells #[.int .i64 k, .int .i64 q, .int .i64 n] 40 (0, 0))
  res : W.heap[w.heap.size + 1 + 1]? = some (.cells #[.int .i64 0, .slice Option.none 0 0] 24 (0, 0))
theorem Bx3.later {w W W' : World} {av k q n : Int} {v : Value} (h : Bx3 w av v k q n W) (hb : Below W.heap.size W W') : Bx3 w av v k q n W' := ⟨h.low.trans (hb.mono h.low.size), blk_later h.par hb, blk_later h.cal hb, blk_later h.res hb⟩
theorem Bx3.new (w : World) (av : Int) (v : Value) (k q n : Int) : Bx3 w av v k q n (((w.alloc (.cells #[.int .i64 av, v] 24)).alloc (.cells #[.int .i64 k, .int .i64 q, .int .i64 n] 40)).alloc (.cells #[.int .i64 0, .slice Option.none 0 0] 24)) := by
  have z1 : (w.alloc (.cells #[.int .i64 av, v] 24)).heap.size = w.heap.size + 1 := by simp
  have a1 := alloc_new w (.cells #[.int .i64 av, v] 24)
  have b1 : Below w.heap.size w (w.alloc (.cells #[.int .i64 av, v] 24)) := (Below.refl w.heap.size w).alloc (Nat.le_refl _) _
  generalize w.alloc (.cells #[.int .i64 av, v] 24) = W1 at *
  have a2 := alloc_new W1 (.cells #[.int .i64 k, .int .i64 q, .int .i64 n] 40)
  have c2 := alloc_block (o := .cells #[.int .i64 k, .int .i64 q, .int .i64 n] 40) a1
  have z2 : (W1.alloc (.cells #[.int .i64 k, .int .i64 q, .int .i64 n] 40)).heap.size = w.heap.size + 1 + 1 := by simp [z1]
  have b2 := b1.alloc (by omega) (.cells #[.int .i64 k, .int .i64 q, .int .i64 n] 40)
  rw [z1] at a2
  generalize W1.alloc (.cells #[.int .i64 k, .int .i64 q, .int .i64 n] 40) = W2 at *
  have a3 := alloc_new W2 (.cells #[.int .i64 0, .slice Option.none 0 0] 24)
  rw [z2] at a3
  exact ⟨b2.alloc (by omega) _, alloc_block c2, alloc_block a2, a3⟩
theorem trip_cells {w : World} {a b c : Value} {t : TypeId} {g : Nat} (h : w.heap[g]? = some (.cells #[a, b, c] t (0, 0))) : w.cell? ⟨g, 0, none⟩ = some a ∧ w.cell? ⟨g, 1, none⟩ = some b ∧ w.cell? ⟨g, 2, none⟩ = some c :=
  ⟨by rw [cell_of_row _ _ 0 _ _ _ h]; rfl, by rw [cell_of_row _ _ 1 _ _ _ h]; rfl, by rw [cell_of_row _ _ 2 _ _ _ h]; rfl⟩
theorem Bx3.facts {w W : World} {av k q n : Int} {v : Value} (h : Bx3 w av v k q n W) : (W.cell? ⟨w.heap.size, 0, none⟩ = some (.int .i64 av) ∧ W.cell? ⟨w.heap.size, 1, none⟩ = some v) ∧ (W.cell? ⟨w.heap.size + 1, 0, none⟩ = some (.int .i64 k) ∧ W.cell? ⟨w.heap.size + 1, 1, none⟩ = some (.int .i64 q) ∧ W.cell? ⟨w.heap.size + 1, 2, none⟩ = some (.int .i64 n)) ∧ W.cell? ⟨w.heap.size + 1 + 1, 0, none⟩ = some (.int .i64 0) ∧ W.cell? ⟨w.heap.size + 1 + 1, 1, none⟩ = some (.slice Option.none 0 0) ∧ W.frozen? ⟨w.heap.size + 1 + 1, 0, none⟩ = false ∧ W.frozen? ⟨w.heap.size + 1 + 1, 1, none⟩ = false := by
  have hr := h.res
  exact ⟨pair_cells h.par rfl, trip_cells h.cal, (pair_cells h.res rfl).1, (pair_cells h.res rfl).2, by unfold World.frozen?; simp [hr], by unfold World.frozen?; simp [hr]⟩
set_option maxRecDepth 100000 in
set_option maxHeartbeats 2000000 in
theorem ask0_no (k q n av : Int) (v : Value) (L : List Mk) (w : World) (t : TypeId) (x : Value) (h : RM w v L) (ho : MOk L) (h1 : av ≤ top) (hq1 : q ≤ top) (hl : L.length ≤ 4611686018427387904) (hk : k = 0) (ho2 : creditO av L q = .no t x) :
    Calls Tryd.prog 22 #[.agg #[.int .i64 av, v], .agg #[.int .i64 k, .int .i64 q, .int .i64 n]] w fun e w' => Ans w w' [99, 114, 101, 100, 105, 116] (.no t x) e ∧ Below w.heap.size w w' := by
  have HC := hide (fun (W : World) (hb : Below w.heap.size w W) => credit_any av q v L W (h.later hb) ho h1 hq1 hl)
  rw [ho2] at HC
  obtain ⟨a, cap, rfl, _, _⟩ := h
  have X0 := hide (Bx3.new w av (.slice a L.length cap) k q n)
  obtain ⟨⟨x0, x1⟩, ⟨c0, c1, c2⟩, y0, y1, f0, f1⟩ := X0.out.facts
  have d0 : (k == 0) = true := by rw [beq_iff_eq]; exact hk
  clear ho ho2 hk h1 hq1 hl
  go_enter Tryd.func22, Tryd.ntmps22
  go_wp2_with fail
  refine (HC.out _ X0.out.low).mono ?_
  rintro e w1 ⟨hA, hb⟩
  replace hA := hA.no
  subst hA
  unfold refV
  have X1 := hide (X0.out.later hb)
  clear x0 x1 c0 c1 c2 y0 y1 f0 f1 hb
  obtain ⟨⟨x0, x1⟩, ⟨c0, c1, c2⟩, y0, y1, f0, f1⟩ := X1.out.facts
  go_wp2_with fail
  have e1 := set2 (a := .int .i64 0) (b := .slice Option.none 0 0) X1.out.res
  have e3 := (X1.out.low.setCell (p := ⟨w.heap.size + 1 + 1, 0, none⟩) (by simp; omega) (.int .i64 0)).setCell (p := ⟨w.heap.size + 1 + 1, 1, none⟩) (by simp; omega) (.slice Option.none 0 0)
  generalize ((w1.setCell ⟨w.heap.size + 1 + 1, 0, none⟩ (.int .i64 0)).setCell ⟨w.heap.size + 1 + 1, 1, none⟩ (.slice Option.none 0 0)) = X at *
  obtain ⟨dd0, dd1⟩ := pair_cells e1 rfl
  exact bodyPost_ret (v := .tuple #[posZ, refV [99, 114, 101, 100, 105, 116] (.iface t x)]) (by simp [results, Tryd.results22, go_sem, dd0, dd1, refV]) rfl ⟨rfl, e3⟩
set_option maxRecDepth 100000 in
set_option maxHeartbeats 2000000 in
theorem ask0_ok (k q n av : Int) (v : Value) (L : List Mk) (w : World) (a0 : Int) (M : List Mk) (h : RM w v L) (ho : MOk L) (h1 : av ≤ top) (hq1 : q ≤ top) (hl : L.length ≤ 4611686018427387904) (hk : k = 0) (ho2 : creditO av L q = .ok a0 M) :
    Calls Tryd.prog 22 #[.agg #[.int .i64 av, v], .agg #[.int .i64 k, .int .i64 q, .int .i64 n]] w fun e w' => Ans w w' [99, 114, 101, 100, 105, 116] (.ok a0 M) e ∧ Below w.heap.size w w' := by
  have HC := hide (fun (W : World) (hb : Below w.heap.size w W) => credit_any av q v L W (h.later hb) ho h1 hq1 hl)
  rw [ho2] at HC
  obtain ⟨a, cap, rfl, _, _⟩ := h
  have X0 := hide (Bx3.new w av (.slice a L.length cap) k q n)
  obtain ⟨⟨x0, x1⟩, ⟨c0, c1, c2⟩, y0, y1, f0, f1⟩ := X0.out.facts
  have d0 : (k == 0) = true := by rw [beq_iff_eq]; exact hk
  clear ho ho2 hk h1 hq1 hl
  go_enter Tryd.func22, Tryd.ntmps22
  go_wp2_with fail
  refine (HC.out _ X0.out.low).mono ?_
  rintro e w1 ⟨hA, hb⟩
  obtain ⟨v', hv', hO⟩ := hA.ok
  subst hv'
  obtain ⟨a4, c4, hv4⟩ := rm_lt (OM.rm hO)
  subst hv4
  have HO := hide (World.ownsRow.mono hO X0.out.low.size)
  clear hA hO
  have X1 := hide (X0.out.later hb)
  clear x0 x1 c0 c1 c2 y0 y1 f0 f1 hb
  obtain ⟨⟨x0, x1⟩, ⟨c0, c1, c2⟩, y0, y1, f0, f1⟩ := X1.out.facts
  go_wp2_with fail
  obtain ⟨e1, e2, e3⟩ := turn_end (a2 := a0) X1.out.res HO.out X1.out.low (by omega)
  generalize ((w1.setCell ⟨w.heap.size + 1 + 1, 0, none⟩ (.int .i64 a0)).setCell ⟨w.heap.size + 1 + 1, 1, none⟩ (.slice a4 M.length c4)) = X at *
  obtain ⟨dd0, dd1⟩ := pair_cells e1 rfl
  exact bodyPost_ret (v := .tuple #[.agg #[.int .i64 a0, .slice a4 M.length c4], .nilIface]) (by simp [results, Tryd.results22, go_sem, dd0, dd1]) rfl ⟨⟨_, rfl, e2⟩, e3⟩
set_option maxRecDepth 100000 in
set_option maxHeartbeats 2000000 in
theorem ask1_no (k q n av : Int) (v : Value) (L : List Mk) (w : World) (t : TypeId) (x : Value) (h : RM w v L) (ho : MOk L) (h1 : av ≤ top) (hq1 : q ≤ top) (hl : L.length ≤ 4611686018427387904) (hk : k = 1) (ho2 : debitO av L q n = .no t x) :
    Calls Tryd.prog 22 #[.agg #[.int .i64 av, v], .agg #[.int .i64 k, .int .i64 q, .int .i64 n]] w fun e w' => Ans w w' [100, 101, 98, 105, 116] (.no t x) e ∧ Below w.heap.size w w' := by
  have HC := hide (fun (W : World) (hb : Below w.heap.size w W) => debit_any av q n v L W (h.later hb) ho h1 hq1 hl)
  rw [ho2] at HC
  obtain ⟨a, cap, rfl, _, _⟩ := h
  have X0 := hide (Bx3.new w av (.slice a L.length cap) k q n)
  obtain ⟨⟨x0, x1⟩, ⟨c0, c1, c2⟩, y0, y1, f0, f1⟩ := X0.out.facts
  have d0 : (k == 0) = false := by rw [beq_eq_false_iff_ne]; omega
  have d1 : (k == 1) = true := by rw [beq_iff_eq]; exact hk
  clear ho ho2 hk h1 hq1 hl
  go_enter Tryd.func22, Tryd.ntmps22
  go_wp2_with fail
  refine (HC.out _ X0.out.low).mono ?_
  rintro e w1 ⟨hA, hb⟩
  replace hA := hA.no
  subst hA
  unfold refV
  have X1 := hide (X0.out.later hb)
  clear x0 x1 c0 c1 c2 y0 y1 f0 f1 hb
  obtain ⟨⟨x0, x1⟩, ⟨c0, c1, c2⟩, y0, y1, f0, f1⟩ := X1.out.facts
  go_wp2_with fail
  have e1 := set2 (a := .int .i64 0) (b := .slice Option.none 0 0) X1.out.res
  have e3 := (X1.out.low.setCell (p := ⟨w.heap.size + 1 + 1, 0, none⟩) (by simp; omega) (.int .i64 0)).setCell (p := ⟨w.heap.size + 1 + 1, 1, none⟩) (by simp; omega) (.slice Option.none 0 0)
  generalize ((w1.setCell ⟨w.heap.size + 1 + 1, 0, none⟩ (.int .i64 0)).setCell ⟨w.heap.size + 1 + 1, 1, none⟩ (.slice Option.none 0 0)) = X at *
  obtain ⟨dd0, dd1⟩ := pair_cells e1 rfl
  exact bodyPost_ret (v := .tuple #[posZ, refV [100, 101, 98, 105, 116] (.iface t x)]) (by simp [results, Tryd.results22, go_sem, dd0, dd1, refV]) rfl ⟨rfl, e3⟩
set_option maxRecDepth 100000 in
set_option maxHeartbeats 2000000 in
theorem ask1_ok (k q n av : Int) (v : Value) (L : List Mk) (w : World) (a0 : Int) (M : List Mk) (h : RM w v L) (ho : MOk L) (h1 : av ≤ top) (hq1 : q ≤ top) (hl : L.length ≤ 4611686018427387904) (hk : k = 1) (ho2 : debitO av L q n = .ok a0 M) :
    Calls Tryd.prog 22 #[.agg #[.int .i64 av, v], .agg #[.int .i64 k, .int .i64 q, .int .i64 n]] w fun e w' => Ans w w' [100, 101, 98, 105, 116] (.ok a0 M) e ∧ Below w.heap.size w w' := by
  have HC := hide (fun (W : World) (hb : Below w.heap.size w W) => debit_any av q n v L W (h.later hb) ho h1 hq1 hl)
  rw [ho2] at HC
  obtain ⟨a, cap, rfl, _, _⟩ := h
  have X0 := hide (Bx3.new w av (.slice a L.length cap) k q n)
  obtain ⟨⟨x0, x1⟩, ⟨c0, c1, c2⟩, y0, y1, f0, f1⟩ := X0.out.facts
  have d0 : (k == 0) = false := by rw [beq_eq_false_iff_ne]; omega
  have d1 : (k == 1) = true := by rw [beq_iff_eq]; exact hk
  clear ho ho2 hk h1 hq1 hl
  go_enter Tryd.func22, Tryd.ntmps22
  go_wp2_with fail
  refine (HC.out _ X0.out.low).mono ?_
  rintro e w1 ⟨hA, hb⟩
  obtain ⟨v', hv', hO⟩ := hA.ok
  subst hv'
  obtain ⟨a4, c4, hv4⟩ := rm_lt (OM.rm hO)
  subst hv4
  have HO := hide (World.ownsRow.mono hO X0.out.low.size)
  clear hA hO
  have X1 := hide (X0.out.later hb)
  clear x0 x1 c0 c1 c2 y0 y1 f0 f1 hb
  obtain ⟨⟨x0, x1⟩, ⟨c0, c1, c2⟩, y0, y1, f0, f1⟩ := X1.out.facts
  go_wp2_with fail
  obtain ⟨e1, e2, e3⟩ := turn_end (a2 := a0) X1.out.res HO.out X1.out.low (by omega)
  generalize ((w1.setCell ⟨w.heap.size + 1 + 1, 0, none⟩ (.int .i64 a0)).setCell ⟨w.heap.size + 1 + 1, 1, none⟩ (.slice a4 M.length c4)) = X at *
  obtain ⟨dd0, dd1⟩ := pair_cells e1 rfl
  exact bodyPost_ret (v := .tuple #[.agg #[.int .i64 a0, .slice a4 M.length c4], .nilIface]) (by simp [results, Tryd.results22, go_sem, dd0, dd1]) rfl ⟨⟨_, rfl, e2⟩, e3⟩
set_option maxRecDepth 100000 in
set_option maxHeartbeats 2000000 in
theorem ask2_no (k q n av : Int) (v : Value) (L : List Mk) (w : World) (t : TypeId) (x : Value) (h : RM w v L) (ho : MOk L) (h1 : av ≤ top) (hq1 : q ≤ top) (hl : L.length ≤ 4611686018427387904) (hk : k = 2) (ho2 : markO av L q n = .no t x) :
    Calls Tryd.prog 22 #[.agg #[.int .i64 av, v], .agg #[.int .i64 k, .int .i64 q, .int .i64 n]] w fun e w' => Ans w w' [109, 97, 114, 107] (.no t x) e ∧ Below w.heap.size w w' := by
  have HC := hide (fun (W : World) (hb : Below w.heap.size w W) => mark_any av q n v L W (h.later hb) ho h1 hq1 hl)
  rw [ho2] at HC
  obtain ⟨a, cap, rfl, _, _⟩ := h
  have X0 := hide (Bx3.new w av (.slice a L.length cap) k q n)
  obtain ⟨⟨x0, x1⟩, ⟨c0, c1, c2⟩, y0, y1, f0, f1⟩ := X0.out.facts
  have d0 : (k == 0) = false := by rw [beq_eq_false_iff_ne]; omega
  have d1 : (k == 1) = false := by rw [beq_eq_false_iff_ne]; omega
  have d2 : (k == 2) = true := by rw [beq_iff_eq]; exact hk
  clear ho ho2 hk h1 hq1 hl
  go_enter Tryd.func22, Tryd.ntmps22
  go_wp2_with fail
  refine (HC.out _ X0.out.low).mono ?_
  rintro e w1 ⟨hA, hb⟩
  replace hA := hA.no
  subst hA
  unfold refV
  have X1 := hide (X0.out.later hb)
  clear x0 x1 c0 c1 c2 y0 y1 f0 f1 hb
  obtain ⟨⟨x0, x1⟩, ⟨c0, c1, c2⟩, y0, y1, f0, f1⟩ := X1.out.facts
  go_wp2_with fail
  have e1 := set2 (a := .int .i64 0) (b := .slice Option.none 0 0) X1.out.res
  have e3 := (X1.out.low.setCell (p := ⟨w.heap.size + 1 + 1, 0, none⟩) (by simp; omega) (.int .i64 0)).setCell (p := ⟨w.heap.size + 1 + 1, 1, none⟩) (by simp; omega) (.slice Option.none 0 0)
  generalize ((w1.setCell ⟨w.heap.size + 1 + 1, 0, none⟩ (.int .i64 0)).setCell ⟨w.heap.size + 1 + 1, 1, none⟩ (.slice Option.none 0 0)) = X at *
  obtain ⟨dd0, dd1⟩ := pair_cells e1 rfl
  exact bodyPost_ret (v := .tuple #[posZ, refV [109, 97, 114, 107] (.iface t x)]) (by simp [results, Tryd.results22, go_sem, dd0, dd1, refV]) rfl ⟨rfl, e3⟩
set_option maxRecDepth 100000 in
set_option maxHeartbeats 2000000 in
theorem ask2_ok (k q n av : Int) (v : Value) (L : List Mk) (w : World) (a0 : Int) (M : List Mk) (h : RM w v L) (ho : MOk L) (h1 : av ≤ top) (hq1 : q ≤ top) (hl : L.length ≤ 4611686018427387904) (hk : k = 2) (ho2 : markO av L q n = .ok a0 M) :
    Calls Tryd.prog 22 #[.agg #[.int .i64 av, v], .agg #[.int .i64 k, .int .i64 q, .int .i64 n]] w fun e w' => Ans w w' [109, 97, 114, 107] (.ok a0 M) e ∧ Below w.heap.size w w' := by
  have HC := hide (fun (W : World) (hb : Below w.heap.size w W) => mark_any av q n v L W (h.later hb) ho h1 hq1 hl)
  rw [ho2] at HC
  obtain ⟨a, cap, rfl, _, _⟩ := h
  have X0 := hide (Bx3.new w av (.slice a L.length cap) k q n)
  obtain ⟨⟨x0, x1⟩, ⟨c0, c1, c2⟩, y0, y1, f0, f1⟩ := X0.out.facts
  have d0 : (k == 0) = false := by rw [beq_eq_false_iff_ne]; omega
  have d1 : (k == 1) = false := by rw [beq_eq_false_iff_ne]; omega
  have d2 : (k == 2) = true := by rw [beq_iff_eq]; exact hk
  clear ho ho2 hk h1 hq1 hl
  go_enter Tryd.func22, Tryd.ntmps22
  go_wp2_with fail
  refine (HC.out _ X0.out.low).mono ?_
  rintro e w1 ⟨hA, hb⟩
  obtain ⟨v', hv', hO⟩ := hA.ok
  subst hv'
  obtain ⟨a4, c4, hv4⟩ := rm_lt (OM.rm hO)
  subst hv4
  have HO := hide (World.ownsRow.mono hO X0.out.low.size)
  clear hA hO
  have X1 := hide (X0.out.later hb)
  clear x0 x1 c0 c1 c2 y0 y1 f0 f1 hb
  obtain ⟨⟨x0, x1⟩, ⟨c0, c1, c2⟩, y0, y1, f0, f1⟩ := X1.out.facts
  go_wp2_with fail
  obtain ⟨e1, e2, e3⟩ := turn_end (a2 := a0) X1.out.res HO.out X1.out.low (by omega)
  generalize ((w1.setCell ⟨w.heap.size + 1 + 1, 0, none⟩ (.int .i64 a0)).setCell ⟨w.heap.size + 1 + 1, 1, none⟩ (.slice a4 M.length c4)) = X at *
  obtain ⟨dd0, dd1⟩ := pair_cells e1 rfl
  exact bodyPost_ret (v := .tuple #[.agg #[.int .i64 a0, .slice a4 M.length c4], .nilIface]) (by simp [results, Tryd.results22, go_sem, dd0, dd1]) rfl ⟨⟨_, rfl, e2⟩, e3⟩
set_option maxRecDepth 100000 in
set_option maxHeartbeats 2000000 in
theorem ask3_no (k q n av : Int) (v : Value) (L : List Mk) (w : World) (t : TypeId) (x : Value) (h : RM w v L) (ho : MOk L) (h1 : av ≤ top) (hq1 : q ≤ top) (hl : L.length ≤ 4611686018427387904) (hk : ¬ k = 0 ∧ ¬ k = 1 ∧ ¬ k = 2) (ho2 : unmarkO av L q n = .no t x) :
    Calls Tryd.prog 22 #[.agg #[.int .i64 av, v], .agg #[.int .i64 k, .int .i64 q, .int .i64 n]] w fun e w' => Ans w w' [117, 110, 109, 97, 114, 107] (.no t x) e ∧ Below w.heap.size w w' := by
  have HC := hide (fun (W : World) (hb : Below w.heap.size w W) => unmark_any av q n v L W (h.later hb) ho h1 hq1 hl)
  rw [ho2] at HC
  obtain ⟨a, cap, rfl, _, _⟩ := h
  have X0 := hide (Bx3.new w av (.slice a L.length cap) k q n)
  obtain ⟨⟨x0, x1⟩, ⟨c0, c1, c2⟩, y0, y1, f0, f1⟩ := X0.out.facts
  have d0 : (k == 0) = false := by rw [beq_eq_false_iff_ne]; omega
  have d1 : (k == 1) = false := by rw [beq_eq_false_iff_ne]; omega
  have d2 : (k == 2) = false := by rw [beq_eq_false_iff_ne]; omega
  clear ho ho2 hk h1 hq1 hl
  go_enter Tryd.func22, Tryd.ntmps22
  go_wp2_with fail
  refine (HC.out _ X0.out.low).mono ?_
  rintro e w1 ⟨hA, hb⟩
  replace hA := hA.no
  subst hA
  unfold refV
  have X1 := hide (X0.out.later hb)
  clear x0 x1 c0 c1 c2 y0 y1 f0 f1 hb
  obtain ⟨⟨x0, x1⟩, ⟨c0, c1, c2⟩, y0, y1, f0, f1⟩ := X1.out.facts
  go_wp2_with fail
  have e1 := set2 (a := .int .i64 0) (b := .slice Option.none 0 0) X1.out.res
  have e3 := (X1.out.low.setCell (p := ⟨w.heap.size + 1 + 1, 0, none⟩) (by simp; omega) (.int .i64 0)).setCell (p := ⟨w.heap.size + 1 + 1, 1, none⟩) (by simp; omega) (.slice Option.none 0 0)
  generalize ((w1.setCell ⟨w.heap.size + 1 + 1, 0, none⟩ (.int .i64 0)).setCell ⟨w.heap.size + 1 + 1, 1, none⟩ (.slice Option.none 0 0)) = X at *
  obtain ⟨dd0, dd1⟩ := pair_cells e1 rfl
  exact bodyPost_ret (v := .tuple #[posZ, refV [117, 110, 109, 97, 114, 107] (.iface t x)]) (by simp [results, Tryd.results22, go_sem, dd0, dd1, refV]) rfl ⟨rfl, e3⟩
set_option maxRecDepth 100000 in
set_option maxHeartbeats 2000000 in
theorem ask3_ok (k q n av : Int) (v : Value) (L : List Mk) (w : World) (a0 : Int) (M : List Mk) (h : RM w v L) (ho : MOk L) (h1 : av ≤ top) (hq1 : q ≤ top) (hl : L.length ≤ 4611686018427387904) (hk : ¬ k = 0 ∧ ¬ k = 1 ∧ ¬ k = 2) (ho2 : unmarkO av L q n = .ok a0 M) :
    Calls Tryd.prog 22 #[.agg #[.int .i64 av, v], .agg #[.int .i64 k, .int .i64 q, .int .i64 n]] w fun e w' => Ans w w' [117, 110, 109, 97, 114, 107] (.ok a0 M) e ∧ Below w.heap.size w w' := by
  have HC := hide (fun (W : World) (hb : Below w.heap.size w W) => unmark_any av q n v L W (h.later hb) ho h1 hq1 hl)
  rw [ho2] at HC
  obtain ⟨a, cap, rfl, _, _⟩ := h
  have X0 := hide (Bx3.new w av (.slice a L.length cap) k q n)
  obtain ⟨⟨x0, x1⟩, ⟨c0, c1, c2⟩, y0, y1, f0, f1⟩ := X0.out.facts
  have d0 : (k == 0) = false := by rw [beq_eq_false_iff_ne]; omega
  have d1 : (k == 1) = false := by rw [beq_eq_false_iff_ne]; omega
  have d2 : (k == 2) = false := by rw [beq_eq_false_iff_ne]; omega
  clear ho ho2 hk h1 hq1 hl
  go_enter Tryd.func22, Tryd.ntmps22
  go_wp2_with fail
  refine (HC.out _ X0.out.low).mono ?_
  rintro e w1 ⟨hA, hb⟩
  obtain ⟨v', hv', hO⟩ := hA.ok
  subst hv'
  obtain ⟨a4, c4, hv4⟩ := rm_lt (OM.rm hO)
  subst hv4
  have HO := hide (World.ownsRow.mono hO X0.out.low.size)
  clear hA hO
  have X1 := hide (X0.out.later hb)
  clear x0 x1 c0 c1 c2 y0 y1 f0 f1 hb
  obtain ⟨⟨x0, x1⟩, ⟨c0, c1, c2⟩, y0, y1, f0, f1⟩ := X1.out.facts
  go_wp2_with fail
  obtain ⟨e1, e2, e3⟩ := turn_end (a2 := a0) X1.out.res HO.out X1.out.low (by omega)
  generalize ((w1.setCell ⟨w.heap.size + 1 + 1, 0, none⟩ (.int .i64 a0)).setCell ⟨w.heap.size + 1 + 1, 1, none⟩ (.slice a4 M.length c4)) = X at *
  obtain ⟨dd0, dd1⟩ := pair_cells e1 rfl
  exact bodyPost_ret (v := .tuple #[.agg #[.int .i64 a0, .slice a4 M.length c4], .nilIface]) (by simp [results, Tryd.results22, go_sem, dd0, dd1]) rfl ⟨⟨_, rfl, e2⟩, e3⟩
theorem ask_any (k q n av : Int) (v : Value) (L : List Mk) (w : World) (h : RM w v L) (ho : MOk L) (h1 : av ≤ top) (hq1 : q ≤ top) (hl : L.length ≤ 4611686018427387904) :
    Calls Tryd.prog 22 #[.agg #[.int .i64 av, v], .agg #[.int .i64 k, .int .i64 q, .int .i64 n]] w fun e w' => Ans w w' (askS k) (askO k q n av L) e ∧ Below w.heap.size w w' := by
  unfold askS askO
  by_cases k0 : k = 0
  · rw [if_pos k0, if_pos k0]
    cases hO : creditO av L q with
    | no t x => exact ask0_no k q n av v L w t x h ho h1 hq1 hl k0 hO
    | ok a M => exact ask0_ok k q n av v L w a M h ho h1 hq1 hl k0 hO
  rw [if_neg k0, if_neg k0]
  by_cases k1 : k = 1
  · rw [if_pos k1, if_pos k1]
    cases hO : debitO av L q n with
    | no t x => exact ask1_no k q n av v L w t x h ho h1 hq1 hl k1 hO
    | ok a M => exact ask1_ok k q n av v L w a M h ho h1 hq1 hl k1 hO
  rw [if_neg k1, if_neg k1]
  by_cases k2 : k = 2
  · rw [if_pos k2, if_pos k2]
    cases hO : markO av L q n with
    | no t x => exact ask2_no k q n av v L w t x h ho h1 hq1 hl k2 hO
    | ok a M => exact ask2_ok k q n av v L w a M h ho h1 hq1 hl k2 hO
  rw [if_neg k2, if_neg k2]
  cases hO : unmarkO av L q n with
  | no t x => exact ask3_no k q n av v L w t x h ho h1 hq1 hl ⟨k0, k1, k2⟩ hO
  | ok a M => exact ask3_ok k q n av v L w a M h ho h1 hq1 hl ⟨k0, k1, k2⟩ hO
set_option maxRecDepth 100000 in
set_option maxHeartbeats 2000000 in
theorem works_any (w : World) (hE : ErrType w) :
    Calls Tryd.prog 13 #[] w fun e w' => e = .returned (.bool true) ∧ Below w.heap.size w w' := by
  have htop : top = 9223372036854775807 := rfl
  have m0 : MOk [] := fun p hp => by cases hp
  have HC1 := hide (credit_any 0 5 (.slice Option.none 0 0) [] w RM.none m0 (by omega) (by omega) (by simp))
  rw [show creditO 0 [] 5 = .ok 5 [] from rfl] at HC1
  have HC2 := hide (fun (W : World) (v : Value) (hv : RM W v []) => credit_any 5 0 v [] W hv m0 (by omega) (by omega) (by simp))
  rw [show creditO 5 [] 0 = .no 74 (.int .i64 16) from rfl] at HC2
  have HT := hide (fun (W : World) (v : Value) (hv : RM W v []) => total_any 5 v [] W hv m0 (by omega) (by simp))
  rw [show totV 5 [] = 5 from rfl] at HT
  have HP := hide (fun (W : World) (h : ErrType W) => plain_rn [99, 114, 101, 100, 105, 116] 16 16 W (by omega) (by omega) h)
  have HE := hide hE
  have q0 := ifEql0
  clear m0 htop hE
  go_enter Tryd.func13, Tryd.ntmps13
  go_wp2_with fail
  refine HC1.out.mono ?_
  rintro e w1 ⟨hA, hb⟩
  obtain ⟨v', hv', hO⟩ := hA.ok
  subst hv'
  obtain ⟨a4, c4, hv4⟩ := rm_lt (OM.rm hO)
  subst hv4
  have HO := hide hO
  have HB1 := hide hb
  have BA := hide (hb.alloc hb.size (.cells #[.int .i64 5, .slice a4 ([] : List Mk).length c4] 24))
  have XA := hide (alloc_new w1 (.cells #[.int .i64 5, .slice a4 ([] : List Mk).length c4] 24))
  obtain ⟨x0, x1⟩ := pair_cells XA.out rfl
  have HB0 := hide ((Below.refl w1.heap.size w1).alloc (Nat.le_refl _) (.cells #[.int .i64 5, .slice a4 ([] : List Mk).length c4] 24))
  clear hA hO hb HC1
  generalize hln : ([] : List Mk).length = ln at *
  go_wp2_with fail
  refine (HC2.out _ _ (HO.out.rm.later HB0.out)).mono ?_
  rintro e w2 ⟨hA, hb⟩
  replace hA := hA.no
  subst hA
  unfold refV at HP ⊢
  have B2 := hide (BA.out.trans (hb.mono BA.out.size))
  have X2 := hide (blk_later XA.out hb)
  have HO2 := hide ((HO.out.rm.later HB0.out).later hb)
  have X3 := hide (alloc_block (o := .cells #[.int .i64 0, .slice Option.none 0 0] 24) X2.out)
  have B3 := hide (B2.out.alloc B2.out.size (.cells #[.int .i64 0, .slice Option.none 0 0] 24))
  have HO3 := hide (HO2.out.later ((Below.refl w2.heap.size w2).alloc (Nat.le_refl _) (.cells #[.int .i64 0, .slice Option.none 0 0] 24)))
  clear x0 x1
  obtain ⟨x0, x1⟩ := pair_cells X3.out rfl
  clear hb
  go_wp2_with fail
  refine (HT.out _ _ HO3.out).mono ?_
  rintro e w3 ⟨rfl, hb⟩
  have B4 := hide (B3.out.trans (hb.mono B3.out.size))
  clear hb
  go_wp2_with fail
  refine (HP.out _ (HE.out.below B4.out)).mono ?_
  rintro e w4 ⟨rfl, hb⟩
  have B5 := hide (B4.out.trans (hb.mono B4.out.size))
  clear hb
  go_wp2_with fail
  go_ret
  exact ⟨rfl, B5.out⟩

end Go.Proofs.YtmebomifakmkbaaDoor
