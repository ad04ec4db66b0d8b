/-
  My own text: Credit, Debit, Mark, Unmark, by the document (printed by mkbr3.py).
-/
import Derived.Test.YtmebomifakmkbaaDoorBR2
import Derived.Test.YtmebomifakmkbaaDoorBM2
namespace Go.Proofs.YtmebomifakmkbaaDoor
open Go.RowKit

/-- The number of what a call comes to. -/
def valN : Value → Int
  | .int _ k => k
  | _ => 0
def noN : Out → Int
  | .ok _ _ => 0
  | .no _ (.agg a) => valN (a.getD 0 .nilIface)
  | .no _ x => valN x
/-- What the document answers. -/
def RAns (w w' : World) (o : Out) (e : Ending) : Prop := match o with
  | .no t x => e = .returned (.tuple #[posZ, .int .i64 (noN (.no t x))])
  | .ok a M => ∃ v, e = .returned (.tuple #[.agg #[.int .i64 a, v], .int .i64 0]) ∧ OM w' w.heap.size v M
theorem bg_c {av q : Int} {L : List Mk} (h : ¬ (ck av L).1 = 0) : bg av L q = some (78, .agg #[.int .i64 (ck av L).1, .int .i64 0, .int .i64 (ck av L).2]) := if_pos h
theorem bg_q {av q : Int} {L : List Mk} (h : (ck av L).1 = 0) (hq : q < 1) : bg av L q = some (74, .int .i64 16) := by unfold bg; rw [if_neg (by simpa using h), if_pos hq]
theorem bg_n {av q : Int} {L : List Mk} (h : (ck av L).1 = 0) (hq : ¬ q < 1) : bg av L q = none := by unfold bg; rw [if_neg (by simpa using h), if_neg hq]
set_option maxRecDepth 100000 in
set_option maxHeartbeats 2000000 in
theorem rcredit_c (av q : Int) (v : Value) (L : List Mk) (w : World) (h : RM w v L) (ho : MOk L) (h1 : av ≤ top) (hq1 : q ≤ top) (hl : L.length ≤ 4611686018427387904) (hck : ¬ (ck av L).1 = 0) :
    Calls Tryd.prog 40 #[.agg #[.int .i64 av, v], .int .i64 q] w fun e w' => RAns w w' (creditO av L q) e ∧ Below w.heap.size w w' := by
  have HQ1 := hide hq1
  clear HQ1
  have HRM := hide h
  have HCK := hide (fun (W : World) (hw : Below w.heap.size w W) => rCheck_any av v L W (h.later hw) ho h1 hl)
  unfold ckP at HCK
  obtain ⟨a, cap, rfl, _, _⟩ := h
  rw [show creditO av L q = .no _ _ by unfold creditO; rw [bg_c hck]]
  have hcb : ((ck av L).1 != 0) = true := by rw [bne_iff_ne]; exact hck
  show Calls _ _ _ _ fun e w' => e = .returned (.tuple #[posZ, .int .i64 (ck av L).1]) ∧ _
  generalize (ck av L).1 = c1 at *
  generalize (ck av L).2 = c2 at *
  clear hck
  have X0 := hide (Bx2.new w av (.slice a L.length cap))
  obtain ⟨x0, x1, y0, y1, f0, f1⟩ := X0.out.facts
  go_enter Tryd.func40, Tryd.ntmps40
  go_wp2_with fail
  refine (HCK.out _ X0.out.low).mono ?_
  rintro e w1 ⟨rfl, hb⟩
  have X1 := hide (X0.out.later hb)
  obtain ⟨x0, x1, y0, y1, f0, f1⟩ := X1.out.facts
  clear hb
  go_wp2_with fail
  obtain ⟨e1, e3⟩ := refuse_end X1.out
  generalize ((w1.setCell ⟨w.heap.size + 1, 0, none⟩ (.int .i64 0)).setCell ⟨w.heap.size + 1, 1, none⟩ (.slice Option.none 0 0)) = X at *
  obtain ⟨dd0, dd1⟩ := pair_cells e1 rfl
  exact bodyPost_ret (v := .tuple #[posZ, .int .i64 c1]) (by simp [results, Tryd.results40, go_sem, dd0, dd1]) rfl ⟨rfl, e3⟩
set_option maxRecDepth 100000 in
set_option maxHeartbeats 2000000 in
theorem rcredit_q (av q : Int) (v : Value) (L : List Mk) (w : World) (h : RM w v L) (ho : MOk L) (h1 : av ≤ top) (hq1 : q ≤ top) (hl : L.length ≤ 4611686018427387904) (hck : (ck av L).1 = 0) (hq : q < 1) :
    Calls Tryd.prog 40 #[.agg #[.int .i64 av, v], .int .i64 q] w fun e w' => RAns w w' (creditO av L q) e ∧ Below w.heap.size w w' := by
  have HQ1 := hide hq1
  clear HQ1
  have HRM := hide h
  have HCK := hide (fun (W : World) (hw : Below w.heap.size w W) => rCheck_any av v L W (h.later hw) ho h1 hl)
  unfold ckP at HCK
  obtain ⟨a, cap, rfl, _, _⟩ := h
  rw [show creditO av L q = .no _ _ by unfold creditO; rw [bg_q hck hq]]
  show Calls _ _ _ _ fun e w' => e = .returned (.tuple #[posZ, .int .i64 16]) ∧ _
  rw [hck] at HCK
  generalize (ck av L).2 = c2 at *
  have dq : decide (q < 1) = true := decide_eq_true hq
  clear hck hq
  have X0 := hide (Bx2.new w av (.slice a L.length cap))
  obtain ⟨x0, x1, y0, y1, f0, f1⟩ := X0.out.facts
  go_enter Tryd.func40, Tryd.ntmps40
  go_wp2_with fail
  refine (HCK.out _ X0.out.low).mono ?_
  rintro e w1 ⟨rfl, hb⟩
  have X1 := hide (X0.out.later hb)
  obtain ⟨x0, x1, y0, y1, f0, f1⟩ := X1.out.facts
  clear hb
  go_wp2_with fail
  obtain ⟨e1, e3⟩ := refuse_end X1.out
  generalize ((w1.setCell ⟨w.heap.size + 1, 0, none⟩ (.int .i64 0)).setCell ⟨w.heap.size + 1, 1, none⟩ (.slice Option.none 0 0)) = X at *
  obtain ⟨dd0, dd1⟩ := pair_cells e1 rfl
  exact bodyPost_ret (v := .tuple #[posZ, .int .i64 16]) (by simp [results, Tryd.results40, go_sem, dd0, dd1]) rfl ⟨rfl, e3⟩
set_option maxRecDepth 100000 in
set_option maxHeartbeats 2000000 in
theorem rdebit_c (av q n : Int) (v : Value) (L : List Mk) (w : World) (h : RM w v L) (ho : MOk L) (h1 : av ≤ top) (hq1 : q ≤ top) (hl : L.length ≤ 4611686018427387904) (hck : ¬ (ck av L).1 = 0) :
    Calls Tryd.prog 41 #[.agg #[.int .i64 av, v], .int .i64 q, .int .i64 n] w fun e w' => RAns w w' (debitO av L q n) e ∧ Below w.heap.size w w' := by
  have HQ1 := hide hq1
  clear HQ1
  have HRM := hide h
  have HCK := hide (fun (W : World) (hw : Below w.heap.size w W) => rCheck_any av v L W (h.later hw) ho h1 hl)
  unfold ckP at HCK
  obtain ⟨a, cap, rfl, _, _⟩ := h
  rw [show debitO av L q n = .no _ _ by unfold debitO; rw [bg_c hck]]
  have hcb : ((ck av L).1 != 0) = true := by rw [bne_iff_ne]; exact hck
  show Calls _ _ _ _ fun e w' => e = .returned (.tuple #[posZ, .int .i64 (ck av L).1]) ∧ _
  generalize (ck av L).1 = c1 at *
  generalize (ck av L).2 = c2 at *
  clear hck
  have X0 := hide (Bx2.new w av (.slice a L.length cap))
  obtain ⟨x0, x1, y0, y1, f0, f1⟩ := X0.out.facts
  go_enter Tryd.func41, Tryd.ntmps41
  go_wp2_with fail
  refine (HCK.out _ X0.out.low).mono ?_
  rintro e w1 ⟨rfl, hb⟩
  have X1 := hide (X0.out.later hb)
  obtain ⟨x0, x1, y0, y1, f0, f1⟩ := X1.out.facts
  clear hb
  go_wp2_with fail
  obtain ⟨e1, e3⟩ := refuse_end X1.out
  generalize ((w1.setCell ⟨w.heap.size + 1, 0, none⟩ (.int .i64 0)).setCell ⟨w.heap.size + 1, 1, none⟩ (.slice Option.none 0 0)) = X at *
  obtain ⟨dd0, dd1⟩ := pair_cells e1 rfl
  exact bodyPost_ret (v := .tuple #[posZ, .int .i64 c1]) (by simp [results, Tryd.results41, go_sem, dd0, dd1]) rfl ⟨rfl, e3⟩
set_option maxRecDepth 100000 in
set_option maxHeartbeats 2000000 in
theorem rdebit_q (av q n : Int) (v : Value) (L : List Mk) (w : World) (h : RM w v L) (ho : MOk L) (h1 : av ≤ top) (hq1 : q ≤ top) (hl : L.length ≤ 4611686018427387904) (hck : (ck av L).1 = 0) (hq : q < 1) :
    Calls Tryd.prog 41 #[.agg #[.int .i64 av, v], .int .i64 q, .int .i64 n] w fun e w' => RAns w w' (debitO av L q n) e ∧ Below w.heap.size w w' := by
  have HQ1 := hide hq1
  clear HQ1
  have HRM := hide h
  have HCK := hide (fun (W : World) (hw : Below w.heap.size w W) => rCheck_any av v L W (h.later hw) ho h1 hl)
  unfold ckP at HCK
  obtain ⟨a, cap, rfl, _, _⟩ := h
  rw [show debitO av L q n = .no _ _ by unfold debitO; rw [bg_q hck hq]]
  show Calls _ _ _ _ fun e w' => e = .returned (.tuple #[posZ, .int .i64 16]) ∧ _
  rw [hck] at HCK
  generalize (ck av L).2 = c2 at *
  have dq : decide (q < 1) = true := decide_eq_true hq
  clear hck hq
  have X0 := hide (Bx2.new w av (.slice a L.length cap))
  obtain ⟨x0, x1, y0, y1, f0, f1⟩ := X0.out.facts
  go_enter Tryd.func41, Tryd.ntmps41
  go_wp2_with fail
  refine (HCK.out _ X0.out.low).mono ?_
  rintro e w1 ⟨rfl, hb⟩
  have X1 := hide (X0.out.later hb)
  obtain ⟨x0, x1, y0, y1, f0, f1⟩ := X1.out.facts
  clear hb
  go_wp2_with fail
  obtain ⟨e1, e3⟩ := refuse_end X1.out
  generalize ((w1.setCell ⟨w.heap.size + 1, 0, none⟩ (.int .i64 0)).setCell ⟨w.heap.size + 1, 1, none⟩ (.slice Option.none 0 0)) = X at *
  obtain ⟨dd0, dd1⟩ := pair_cells e1 rfl
  exact bodyPost_ret (v := .tuple #[posZ, .int .i64 16]) (by simp [results, Tryd.results41, go_sem, dd0, dd1]) rfl ⟨rfl, e3⟩
set_option maxRecDepth 100000 in
set_option maxHeartbeats 2000000 in
theorem rmark_c (av q n : Int) (v : Value) (L : List Mk) (w : World) (h : RM w v L) (ho : MOk L) (h1 : av ≤ top) (hq1 : q ≤ top) (hl : L.length ≤ 4611686018427387904) (hck : ¬ (ck av L).1 = 0) :
    Calls Tryd.prog 42 #[.agg #[.int .i64 av, v], .int .i64 q, .int .i64 n] w fun e w' => RAns w w' (markO av L q n) e ∧ Below w.heap.size w w' := by
  have HQ1 := hide hq1
  clear HQ1
  have HRM := hide h
  have HCK := hide (fun (W : World) (hw : Below w.heap.size w W) => rCheck_any av v L W (h.later hw) ho h1 hl)
  unfold ckP at HCK
  obtain ⟨a, cap, rfl, _, _⟩ := h
  rw [show markO av L q n = .no _ _ by unfold markO; rw [bg_c hck]]
  have hcb : ((ck av L).1 != 0) = true := by rw [bne_iff_ne]; exact hck
  show Calls _ _ _ _ fun e w' => e = .returned (.tuple #[posZ, .int .i64 (ck av L).1]) ∧ _
  generalize (ck av L).1 = c1 at *
  generalize (ck av L).2 = c2 at *
  clear hck
  have X0 := hide (Bx2.new w av (.slice a L.length cap))
  obtain ⟨x0, x1, y0, y1, f0, f1⟩ := X0.out.facts
  go_enter Tryd.func42, Tryd.ntmps42
  go_wp2_with fail
  refine (HCK.out _ X0.out.low).mono ?_
  rintro e w1 ⟨rfl, hb⟩
  have X1 := hide (X0.out.later hb)
  obtain ⟨x0, x1, y0, y1, f0, f1⟩ := X1.out.facts
  clear hb
  go_wp2_with fail
  obtain ⟨e1, e3⟩ := refuse_end X1.out
  generalize ((w1.setCell ⟨w.heap.size + 1, 0, none⟩ (.int .i64 0)).setCell ⟨w.heap.size + 1, 1, none⟩ (.slice Option.none 0 0)) = X at *
  obtain ⟨dd0, dd1⟩ := pair_cells e1 rfl
  exact bodyPost_ret (v := .tuple #[posZ, .int .i64 c1]) (by simp [results, Tryd.results42, go_sem, dd0, dd1]) rfl ⟨rfl, e3⟩
set_option maxRecDepth 100000 in
set_option maxHeartbeats 2000000 in
theorem rmark_q (av q n : Int) (v : Value) (L : List Mk) (w : World) (h : RM w v L) (ho : MOk L) (h1 : av ≤ top) (hq1 : q ≤ top) (hl : L.length ≤ 4611686018427387904) (hck : (ck av L).1 = 0) (hq : q < 1) :
    Calls Tryd.prog 42 #[.agg #[.int .i64 av, v], .int .i64 q, .int .i64 n] w fun e w' => RAns w w' (markO av L q n) e ∧ Below w.heap.size w w' := by
  have HQ1 := hide hq1
  clear HQ1
  have HRM := hide h
  have HCK := hide (fun (W : World) (hw : Below w.heap.size w W) => rCheck_any av v L W (h.later hw) ho h1 hl)
  unfold ckP at HCK
  obtain ⟨a, cap, rfl, _, _⟩ := h
  rw [show markO av L q n = .no _ _ by unfold markO; rw [bg_q hck hq]]
  show Calls _ _ _ _ fun e w' => e = .returned (.tuple #[posZ, .int .i64 16]) ∧ _
  rw [hck] at HCK
  generalize (ck av L).2 = c2 at *
  have dq : decide (q < 1) = true := decide_eq_true hq
  clear hck hq
  have X0 := hide (Bx2.new w av (.slice a L.length cap))
  obtain ⟨x0, x1, y0, y1, f0, f1⟩ := X0.out.facts
  go_enter Tryd.func42, Tryd.ntmps42
  go_wp2_with fail
  refine (HCK.out _ X0.out.low).mono ?_
  rintro e w1 ⟨rfl, hb⟩
  have X1 := hide (X0.out.later hb)
  obtain ⟨x0, x1, y0, y1, f0, f1⟩ := X1.out.facts
  clear hb
  go_wp2_with fail
  obtain ⟨e1, e3⟩ := refuse_end X1.out
  generalize ((w1.setCell ⟨w.heap.size + 1, 0, none⟩ (.int .i64 0)).setCell ⟨w.heap.size + 1, 1, none⟩ (.slice Option.none 0 0)) = X at *
  obtain ⟨dd0, dd1⟩ := pair_cells e1 rfl
  exact bodyPost_ret (v := .tuple #[posZ, .int .i64 16]) (by simp [results, Tryd.results42, go_sem, dd0, dd1]) rfl ⟨rfl, e3⟩
set_option maxRecDepth 100000 in
set_option maxHeartbeats 2000000 in
theorem runmark_c (av q n : Int) (v : Value) (L : List Mk) (w : World) (h : RM w v L) (ho : MOk L) (h1 : av ≤ top) (hq1 : q ≤ top) (hl : L.length ≤ 4611686018427387904) (hck : ¬ (ck av L).1 = 0) :
    Calls Tryd.prog 43 #[.agg #[.int .i64 av, v], .int .i64 q, .int .i64 n] w fun e w' => RAns w w' (unmarkO av L q n) e ∧ Below w.heap.size w w' := by
  have HQ1 := hide hq1
  clear HQ1
  have HRM := hide h
  have HCK := hide (fun (W : World) (hw : Below w.heap.size w W) => rCheck_any av v L W (h.later hw) ho h1 hl)
  unfold ckP at HCK
  obtain ⟨a, cap, rfl, _, _⟩ := h
  rw [show unmarkO av L q n = .no _ _ by unfold unmarkO; rw [bg_c hck]]
  have hcb : ((ck av L).1 != 0) = true := by rw [bne_iff_ne]; exact hck
  show Calls _ _ _ _ fun e w' => e = .returned (.tuple #[posZ, .int .i64 (ck av L).1]) ∧ _
  generalize (ck av L).1 = c1 at *
  generalize (ck av L).2 = c2 at *
  clear hck
  have X0 := hide (Bx2.new w av (.slice a L.length cap))
  obtain ⟨x0, x1, y0, y1, f0, f1⟩ := X0.out.facts
  go_enter Tryd.func43, Tryd.ntmps43
  go_wp2_with fail
  refine (HCK.out _ X0.out.low).mono ?_
  rintro e w1 ⟨rfl, hb⟩
  have X1 := hide (X0.out.later hb)
  obtain ⟨x0, x1, y0, y1, f0, f1⟩ := X1.out.facts
  clear hb
  go_wp2_with fail
  obtain ⟨e1, e3⟩ := refuse_end X1.out
  generalize ((w1.setCell ⟨w.heap.size + 1, 0, none⟩ (.int .i64 0)).setCell ⟨w.heap.size + 1, 1, none⟩ (.slice Option.none 0 0)) = X at *
  obtain ⟨dd0, dd1⟩ := pair_cells e1 rfl
  exact bodyPost_ret (v := .tuple #[posZ, .int .i64 c1]) (by simp [results, Tryd.results43, go_sem, dd0, dd1]) rfl ⟨rfl, e3⟩
set_option maxRecDepth 100000 in
set_option maxHeartbeats 2000000 in
theorem runmark_q (av q n : Int) (v : Value) (L : List Mk) (w : World) (h : RM w v L) (ho : MOk L) (h1 : av ≤ top) (hq1 : q ≤ top) (hl : L.length ≤ 4611686018427387904) (hck : (ck av L).1 = 0) (hq : q < 1) :
    Calls Tryd.prog 43 #[.agg #[.int .i64 av, v], .int .i64 q, .int .i64 n] w fun e w' => RAns w w' (unmarkO av L q n) e ∧ Below w.heap.size w w' := by
  have HQ1 := hide hq1
  clear HQ1
  have HRM := hide h
  have HCK := hide (fun (W : World) (hw : Below w.heap.size w W) => rCheck_any av v L W (h.later hw) ho h1 hl)
  unfold ckP at HCK
  obtain ⟨a, cap, rfl, _, _⟩ := h
  rw [show unmarkO av L q n = .no _ _ by unfold unmarkO; rw [bg_q hck hq]]
  show Calls _ _ _ _ fun e w' => e = .returned (.tuple #[posZ, .int .i64 16]) ∧ _
  rw [hck] at HCK
  generalize (ck av L).2 = c2 at *
  have dq : decide (q < 1) = true := decide_eq_true hq
  clear hck hq
  have X0 := hide (Bx2.new w av (.slice a L.length cap))
  obtain ⟨x0, x1, y0, y1, f0, f1⟩ := X0.out.facts
  go_enter Tryd.func43, Tryd.ntmps43
  go_wp2_with fail
  refine (HCK.out _ X0.out.low).mono ?_
  rintro e w1 ⟨rfl, hb⟩
  have X1 := hide (X0.out.later hb)
  obtain ⟨x0, x1, y0, y1, f0, f1⟩ := X1.out.facts
  clear hb
  go_wp2_with fail
  obtain ⟨e1, e3⟩ := refuse_end X1.out
  generalize ((w1.setCell ⟨w.heap.size + 1, 0, none⟩ (.int .i64 0)).setCell ⟨w.heap.size + 1, 1, none⟩ (.slice Option.none 0 0)) = X at *
  obtain ⟨dd0, dd1⟩ := pair_cells e1 rfl
  exact bodyPost_ret (v := .tuple #[posZ, .int .i64 16]) (by simp [results, Tryd.results43, go_sem, dd0, dd1]) rfl ⟨rfl, e3⟩
set_option maxRecDepth 100000 in
set_option maxHeartbeats 2000000 in
theorem rcredit_o (av q : Int) (v : Value) (L : List Mk) (w : World) (h : RM w v L) (ho : MOk L) (h1 : av ≤ top) (hq1 : q ≤ top) (hl : L.length ≤ 4611686018427387904) (hck : (ck av L).1 = 0) (hq : ¬ q < 1) (hc : top < av + sm L + q) :
    Calls Tryd.prog 40 #[.agg #[.int .i64 av, v], .int .i64 q] w fun e w' => RAns w w' (creditO av L q) e ∧ Below w.heap.size w w' := by
  have HQ1 := hide hq1
  clear HQ1
  have HRM := hide h
  have HCK := hide (fun (W : World) (hw : Below w.heap.size w W) => rCheck_any av v L W (h.later hw) ho h1 hl)
  unfold ckP at HCK
  have HTO := hide (fun (W : World) (hw : Below w.heap.size w W) => rTotal_any av v L W (h.later hw) ho h1 hl)
  obtain ⟨a, cap, rfl, _, _⟩ := h
  have hb := bg_n hck hq
  have hR := (ck_right h1).1 hck
  have dq : decide (q < 1) = false := decide_eq_false hq
  have hav := hR.av0
  have hal := hR.all
  have htop : top = 9223372036854775807 := rfl
  have hsm := sm_pos hR.ri
  rw [show totV av L = av + sm L from if_pos hck] at HTO
  rw [show creditO av L q = eno 9 by unfold creditO; rw [hb]; exact if_pos hc]
  show Calls _ _ _ _ fun e w' => e = .returned (.tuple #[posZ, .int .i64 9]) ∧ _
  have HFI := hide (fun W => fits_any (av + sm L) q W (by omega) hal)
  rw [decide_eq_true hc] at HFI
  rw [hck] at HCK
  generalize (ck av L).2 = c2 at *
  have X0 := hide (Bx2.new w av (.slice a L.length cap))
  obtain ⟨x0, x1, y0, y1, f0, f1⟩ := X0.out.facts
  generalize av + sm L = T at *
  clear hb hR hq hck hav hal htop hsm hc
  go_enter Tryd.func40, Tryd.ntmps40
  go_wp2_with fail
  refine (HCK.out _ X0.out.low).mono ?_
  rintro e w1 ⟨rfl, hb⟩
  have X1 := hide (X0.out.later hb)
  obtain ⟨x0, x1, y0, y1, f0, f1⟩ := X1.out.facts
  clear hb
  go_wp2_with fail
  refine (HTO.out _ X1.out.low).mono ?_
  rintro e w2 ⟨rfl, hb⟩
  have X2 := hide (X1.out.later hb)
  obtain ⟨x0, x1, y0, y1, f0, f1⟩ := X2.out.facts
  clear hb
  go_wp2_with fail
  refine (HFI.out _).mono ?_
  rintro e w' ⟨rfl, hw⟩
  have hw' := hw.symm
  clear hw
  subst hw'
  go_wp2_with fail
  obtain ⟨e1, e3⟩ := refuse_end X2.out
  generalize ((w2.setCell ⟨w.heap.size + 1, 0, none⟩ (.int .i64 0)).setCell ⟨w.heap.size + 1, 1, none⟩ (.slice Option.none 0 0)) = X at *
  obtain ⟨dd0, dd1⟩ := pair_cells e1 rfl
  exact bodyPost_ret (v := .tuple #[posZ, .int .i64 9]) (by simp [results, Tryd.results40, go_sem, dd0, dd1]) rfl ⟨rfl, e3⟩
set_option maxRecDepth 100000 in
set_option maxHeartbeats 2000000 in
theorem rcredit_k (av q : Int) (v : Value) (L : List Mk) (w : World) (h : RM w v L) (ho : MOk L) (h1 : av ≤ top) (hq1 : q ≤ top) (hl : L.length ≤ 4611686018427387904) (hck : (ck av L).1 = 0) (hq : ¬ q < 1) (hc : ¬ top < av + sm L + q) :
    Calls Tryd.prog 40 #[.agg #[.int .i64 av, v], .int .i64 q] w fun e w' => RAns w w' (creditO av L q) e ∧ Below w.heap.size w w' := by
  have HQ1 := hide hq1
  clear HQ1
  have HRM := hide h
  have HCK := hide (fun (W : World) (hw : Below w.heap.size w W) => rCheck_any av v L W (h.later hw) ho h1 hl)
  unfold ckP at HCK
  have HTO := hide (fun (W : World) (hw : Below w.heap.size w W) => rTotal_any av v L W (h.later hw) ho h1 hl)
  obtain ⟨a, cap, rfl, _, _⟩ := h
  have hb := bg_n hck hq
  have hR := (ck_right h1).1 hck
  have dq : decide (q < 1) = false := decide_eq_false hq
  have hav := hR.av0
  have hal := hR.all
  have htop : top = 9223372036854775807 := rfl
  have hsm := sm_pos hR.ri
  rw [show totV av L = av + sm L from if_pos hck] at HTO
  rw [show creditO av L q = .ok (av + q) (setM 0 0 L) by unfold creditO; rw [hb]; exact if_neg hc]
  have HFI := hide (fun W => fits_any (av + sm L) q W (by omega) hal)
  rw [decide_eq_false hc] at HFI
  have hw1 : wrap64 (av + q) = av + q := by unfold wrap64; omega
  have HTU := hide (fun (W : World) (hw : Below w.heap.size w W) => with_any av (av + q) _ L (0) (0) W (HRM.out.later hw) hR.ri hR.few (by omega))
  generalize setM (0) (0) L = R at *
  rw [hck] at HCK
  generalize (ck av L).2 = c2 at *
  have X0 := hide (Bx2.new w av (.slice a L.length cap))
  obtain ⟨x0, x1, y0, y1, f0, f1⟩ := X0.out.facts
  generalize av + sm L = T at *
  obtain ⟨A2, hA2⟩ : ∃ A2, av + q = A2 := ⟨_, rfl⟩
  rw [hA2] at HTU ⊢
  have hw1' : wrap64 (av + q) = A2 := by rw [hw1]; exact hA2
  have hw2 : IntKind.i64.wrap (av + q) = A2 := by rw [IntKind.wrap_i64]; unfold wrap64 at hw1'; exact hw1'
  clear hb hR hq hck hav hal htop hsm hc hA2 hw1
  go_enter Tryd.func40, Tryd.ntmps40
  go_wp2_with fail
  refine (HCK.out _ X0.out.low).mono ?_
  rintro e w1 ⟨rfl, hb⟩
  have X1 := hide (X0.out.later hb)
  obtain ⟨x0, x1, y0, y1, f0, f1⟩ := X1.out.facts
  clear hb
  go_wp2_with fail
  refine (HTO.out _ X1.out.low).mono ?_
  rintro e w2 ⟨rfl, hb⟩
  have X2 := hide (X1.out.later hb)
  obtain ⟨x0, x1, y0, y1, f0, f1⟩ := X2.out.facts
  clear hb
  go_wp2_with fail
  refine (HFI.out _).mono ?_
  rintro e w' ⟨rfl, hw⟩
  have hw' := hw.symm
  clear hw
  subst hw'
  go_wp2_with fail
  refine (HTU.out _ X2.out.low).mono ?_
  rintro e w3 ⟨v', rfl, hO, hb⟩
  obtain ⟨a4, c4, hv4⟩ := rm_lt (OM.rm hO)
  subst hv4
  have HO := hide hO
  have X3 := hide (X2.out.later hb)
  obtain ⟨x0, x1, y0, y1, f0, f1⟩ := X3.out.facts
  clear hb
  go_wp2_with fail
  obtain ⟨e1, e2, e3⟩ := turn_end (a2 := A2) X3.out.res (World.ownsRow.mono HO.out X2.out.low.size) X3.out.low (Nat.le_succ _)
  generalize ((w3.setCell ⟨w.heap.size + 1, 0, none⟩ (.int .i64 A2)).setCell ⟨w.heap.size + 1, 1, none⟩ (.slice a4 R.length c4)) = X at *
  obtain ⟨dd0, dd1⟩ := pair_cells e1 rfl
  exact bodyPost_ret (v := .tuple #[.agg #[.int .i64 A2, .slice a4 R.length c4], .int .i64 0]) (by simp [results, Tryd.results40, go_sem, dd0, dd1]) rfl ⟨⟨_, rfl, e2⟩, e3⟩
set_option maxRecDepth 100000 in
set_option maxHeartbeats 2000000 in
theorem rdebit_n1 (av q n : Int) (v : Value) (L : List Mk) (w : World) (h : RM w v L) (ho : MOk L) (h1 : av ≤ top) (hq1 : q ≤ top) (hl : L.length ≤ 4611686018427387904) (hck : (ck av L).1 = 0) (hq : ¬ q < 1) (hn : n < 0) :
    Calls Tryd.prog 41 #[.agg #[.int .i64 av, v], .int .i64 q, .int .i64 n] w fun e w' => RAns w w' (debitO av L q n) e ∧ Below w.heap.size w w' := by
  have HQ1 := hide hq1
  clear HQ1
  have HRM := hide h
  have HCK := hide (fun (W : World) (hw : Below w.heap.size w W) => rCheck_any av v L W (h.later hw) ho h1 hl)
  unfold ckP at HCK
  obtain ⟨a, cap, rfl, _, _⟩ := h
  have hb := bg_n hck hq
  have hR := (ck_right h1).1 hck
  have dq : decide (q < 1) = false := decide_eq_false hq
  have hav := hR.av0
  have hal := hR.all
  have htop : top = 9223372036854775807 := rfl
  have hmq := mq_ge (n := n) hR.ri
  rw [show debitO av L q n = eno 19 by unfold debitO; rw [hb]; exact if_pos (.inl hn)]
  show Calls _ _ _ _ fun e w' => e = .returned (.tuple #[posZ, .int .i64 19]) ∧ _
  have dn : decide (n < 0) = true := decide_eq_true hn
  rw [hck] at HCK
  generalize (ck av L).2 = c2 at *
  have X0 := hide (Bx2.new w av (.slice a L.length cap))
  obtain ⟨x0, x1, y0, y1, f0, f1⟩ := X0.out.facts
  clear hb hR hq hck hav hal htop hmq hn
  go_enter Tryd.func41, Tryd.ntmps41
  go_wp2_with fail
  refine (HCK.out _ X0.out.low).mono ?_
  rintro e w1 ⟨rfl, hb⟩
  have X1 := hide (X0.out.later hb)
  obtain ⟨x0, x1, y0, y1, f0, f1⟩ := X1.out.facts
  clear hb
  go_wp2_with fail
  obtain ⟨e1, e3⟩ := refuse_end X1.out
  generalize ((w1.setCell ⟨w.heap.size + 1, 0, none⟩ (.int .i64 0)).setCell ⟨w.heap.size + 1, 1, none⟩ (.slice Option.none 0 0)) = X at *
  obtain ⟨dd0, dd1⟩ := pair_cells e1 rfl
  exact bodyPost_ret (v := .tuple #[posZ, .int .i64 19]) (by simp [results, Tryd.results41, go_sem, dd0, dd1]) rfl ⟨rfl, e3⟩
set_option maxRecDepth 100000 in
set_option maxHeartbeats 2000000 in
theorem rdebit_n2 (av q n : Int) (v : Value) (L : List Mk) (w : World) (h : RM w v L) (ho : MOk L) (h1 : av ≤ top) (hq1 : q ≤ top) (hl : L.length ≤ 4611686018427387904) (hck : (ck av L).1 = 0) (hq : ¬ q < 1) (hn : 65536 < n) :
    Calls Tryd.prog 41 #[.agg #[.int .i64 av, v], .int .i64 q, .int .i64 n] w fun e w' => RAns w w' (debitO av L q n) e ∧ Below w.heap.size w w' := by
  have HQ1 := hide hq1
  clear HQ1
  have HRM := hide h
  have HCK := hide (fun (W : World) (hw : Below w.heap.size w W) => rCheck_any av v L W (h.later hw) ho h1 hl)
  unfold ckP at HCK
  obtain ⟨a, cap, rfl, _, _⟩ := h
  have hb := bg_n hck hq
  have hR := (ck_right h1).1 hck
  have dq : decide (q < 1) = false := decide_eq_false hq
  have hav := hR.av0
  have hal := hR.all
  have htop : top = 9223372036854775807 := rfl
  have hmq := mq_ge (n := n) hR.ri
  rw [show debitO av L q n = eno 19 by unfold debitO; rw [hb]; exact if_pos (.inr hn)]
  show Calls _ _ _ _ fun e w' => e = .returned (.tuple #[posZ, .int .i64 19]) ∧ _
  have dn : decide (n < 0) = false := decide_eq_false (by omega)
  have dn2 : decide (65536 < n) = true := decide_eq_true hn
  rw [hck] at HCK
  generalize (ck av L).2 = c2 at *
  have X0 := hide (Bx2.new w av (.slice a L.length cap))
  obtain ⟨x0, x1, y0, y1, f0, f1⟩ := X0.out.facts
  clear hb hR hq hck hav hal htop hmq hn
  go_enter Tryd.func41, Tryd.ntmps41
  go_wp2_with fail
  refine (HCK.out _ X0.out.low).mono ?_
  rintro e w1 ⟨rfl, hb⟩
  have X1 := hide (X0.out.later hb)
  obtain ⟨x0, x1, y0, y1, f0, f1⟩ := X1.out.facts
  clear hb
  go_wp2_with fail
  obtain ⟨e1, e3⟩ := refuse_end X1.out
  generalize ((w1.setCell ⟨w.heap.size + 1, 0, none⟩ (.int .i64 0)).setCell ⟨w.heap.size + 1, 1, none⟩ (.slice Option.none 0 0)) = X at *
  obtain ⟨dd0, dd1⟩ := pair_cells e1 rfl
  exact bodyPost_ret (v := .tuple #[posZ, .int .i64 19]) (by simp [results, Tryd.results41, go_sem, dd0, dd1]) rfl ⟨rfl, e3⟩
set_option maxRecDepth 100000 in
set_option maxHeartbeats 2000000 in
theorem rdebit_s (av q n : Int) (v : Value) (L : List Mk) (w : World) (h : RM w v L) (ho : MOk L) (h1 : av ≤ top) (hq1 : q ≤ top) (hl : L.length ≤ 4611686018427387904) (hck : (ck av L).1 = 0) (hq : ¬ q < 1) (hz0 : 0 ≤ n) (hz1 : n ≤ 65536) (hc : av + mq n L < q) :
    Calls Tryd.prog 41 #[.agg #[.int .i64 av, v], .int .i64 q, .int .i64 n] w fun e w' => RAns w w' (debitO av L q n) e ∧ Below w.heap.size w w' := by
  have HQ1 := hide hq1
  clear HQ1
  have HRM := hide h
  have HCK := hide (fun (W : World) (hw : Below w.heap.size w W) => rCheck_any av v L W (h.later hw) ho h1 hl)
  unfold ckP at HCK
  have HCO := hide (fun (W : World) (hw : Below w.heap.size w W) => rCover_any av n v L W (h.later hw) ho h1 hl)
  obtain ⟨a, cap, rfl, _, _⟩ := h
  have hb := bg_n hck hq
  have hR := (ck_right h1).1 hck
  have dq : decide (q < 1) = false := decide_eq_false hq
  have hav := hR.av0
  have hal := hR.all
  have htop : top = 9223372036854775807 := rfl
  have hmq := mq_ge (n := n) hR.ri
  rw [show covV av L n = av + mq n L from if_pos hck] at HCO
  rw [show debitO av L q n = eno 18 by unfold debitO; rw [hb]; rw [if_neg (by omega : ¬ (n < 0 ∨ 65536 < n))]; exact if_pos hc]
  show Calls _ _ _ _ fun e w' => e = .returned (.tuple #[posZ, .int .i64 18]) ∧ _
  have dc : decide (av + mq n L < q) = true := decide_eq_true hc
  have dn : decide (n < 0) = false := decide_eq_false (by omega)
  have dn2 : decide (65536 < n) = false := decide_eq_false (by omega)
  rw [hck] at HCK
  generalize (ck av L).2 = c2 at *
  have X0 := hide (Bx2.new w av (.slice a L.length cap))
  obtain ⟨x0, x1, y0, y1, f0, f1⟩ := X0.out.facts
  generalize mq n L = m at *
  generalize av + m = cv at *
  clear hb hR hq hck hav hal htop hmq hc hz0 hz1
  go_enter Tryd.func41, Tryd.ntmps41
  go_wp2_with fail
  refine (HCK.out _ X0.out.low).mono ?_
  rintro e w1 ⟨rfl, hb⟩
  have X1 := hide (X0.out.later hb)
  obtain ⟨x0, x1, y0, y1, f0, f1⟩ := X1.out.facts
  clear hb
  go_wp2_with fail
  refine (HCO.out _ X1.out.low).mono ?_
  rintro e w2 ⟨rfl, hb⟩
  have X2 := hide (X1.out.later hb)
  obtain ⟨x0, x1, y0, y1, f0, f1⟩ := X2.out.facts
  clear hb
  go_wp2_with fail
  obtain ⟨e1, e3⟩ := refuse_end X2.out
  generalize ((w2.setCell ⟨w.heap.size + 1, 0, none⟩ (.int .i64 0)).setCell ⟨w.heap.size + 1, 1, none⟩ (.slice Option.none 0 0)) = X at *
  obtain ⟨dd0, dd1⟩ := pair_cells e1 rfl
  exact bodyPost_ret (v := .tuple #[posZ, .int .i64 18]) (by simp [results, Tryd.results41, go_sem, dd0, dd1]) rfl ⟨rfl, e3⟩
set_option maxRecDepth 100000 in
set_option maxHeartbeats 2000000 in
theorem rdebit_m (av q n : Int) (v : Value) (L : List Mk) (w : World) (h : RM w v L) (ho : MOk L) (h1 : av ≤ top) (hq1 : q ≤ top) (hl : L.length ≤ 4611686018427387904) (hck : (ck av L).1 = 0) (hq : ¬ q < 1) (hz0 : 0 ≤ n) (hz1 : n ≤ 65536) (hc : ¬ av + mq n L < q) (hm : q ≤ mq n L) :
    Calls Tryd.prog 41 #[.agg #[.int .i64 av, v], .int .i64 q, .int .i64 n] w fun e w' => RAns w w' (debitO av L q n) e ∧ Below w.heap.size w w' := by
  have HQ1 := hide hq1
  clear HQ1
  have HRM := hide h
  have HCK := hide (fun (W : World) (hw : Below w.heap.size w W) => rCheck_any av v L W (h.later hw) ho h1 hl)
  unfold ckP at HCK
  have HCO := hide (fun (W : World) (hw : Below w.heap.size w W) => rCover_any av n v L W (h.later hw) ho h1 hl)
  have HMA := hide (fun (W : World) (hw : Below w.heap.size w W) => rMarked_any av n v L W (h.later hw) ho h1 hl)
  obtain ⟨a, cap, rfl, _, _⟩ := h
  have hb := bg_n hck hq
  have hR := (ck_right h1).1 hck
  have dq : decide (q < 1) = false := decide_eq_false hq
  have hav := hR.av0
  have hal := hR.all
  have htop : top = 9223372036854775807 := rfl
  have hmq := mq_ge (n := n) hR.ri
  rw [show covV av L n = av + mq n L from if_pos hck] at HCO
  rw [show mkdV av L n = mq n L from if_pos hck] at HMA
  rw [show debitO av L q n = .ok av (setM n (mq n L - q) L) by unfold debitO; rw [hb]; rw [if_neg (by omega : ¬ (n < 0 ∨ 65536 < n)), if_neg hc]; exact if_pos hm]
  have dc : decide (av + mq n L < q) = false := decide_eq_false hc
  have dm : decide (q ≤ mq n L) = true := decide_eq_true hm
  have hw1 : wrap64 (mq n L - q) = mq n L - q := by unfold wrap64; omega
  have hw2 : IntKind.i64.wrap (mq n L - q) = mq n L - q := by rw [IntKind.wrap_i64]; omega
  have dn : decide (n < 0) = false := decide_eq_false (by omega)
  have dn2 : decide (65536 < n) = false := decide_eq_false (by omega)
  have HTU := hide (fun (W : World) (hw : Below w.heap.size w W) => with_any av (av) _ L (n) (mq n L - q) W (HRM.out.later hw) hR.ri hR.few (by omega))
  generalize setM (n) (mq n L - q) L = R at *
  rw [hck] at HCK
  generalize (ck av L).2 = c2 at *
  have X0 := hide (Bx2.new w av (.slice a L.length cap))
  obtain ⟨x0, x1, y0, y1, f0, f1⟩ := X0.out.facts
  generalize mq n L = m at *
  generalize av + m = cv at *
  obtain ⟨A2, hA2⟩ : ∃ A2, A2 = av := ⟨_, rfl⟩
  clear hb hR hq hck hav hal htop hmq hc hm hz0 hz1
  subst hA2
  go_enter Tryd.func41, Tryd.ntmps41
  go_wp2_with fail
  refine (HCK.out _ X0.out.low).mono ?_
  rintro e w1 ⟨rfl, hb⟩
  have X1 := hide (X0.out.later hb)
  obtain ⟨x0, x1, y0, y1, f0, f1⟩ := X1.out.facts
  clear hb
  go_wp2_with fail
  refine (HCO.out _ X1.out.low).mono ?_
  rintro e w2 ⟨rfl, hb⟩
  have X2 := hide (X1.out.later hb)
  obtain ⟨x0, x1, y0, y1, f0, f1⟩ := X2.out.facts
  clear hb
  go_wp2_with fail
  refine (HMA.out _ X2.out.low).mono ?_
  rintro e w3 ⟨rfl, hb⟩
  have X3 := hide (X2.out.later hb)
  obtain ⟨x0, x1, y0, y1, f0, f1⟩ := X3.out.facts
  clear hb
  go_wp2_with fail
  refine (HTU.out _ X3.out.low).mono ?_
  rintro e w4 ⟨v', rfl, hO, hb⟩
  obtain ⟨a4, c4, hv4⟩ := rm_lt (OM.rm hO)
  subst hv4
  have HO := hide hO
  have X4 := hide (X3.out.later hb)
  obtain ⟨x0, x1, y0, y1, f0, f1⟩ := X4.out.facts
  clear hb
  go_wp2_with fail
  obtain ⟨e1, e2, e3⟩ := turn_end (a2 := A2) X4.out.res (World.ownsRow.mono HO.out X3.out.low.size) X4.out.low (Nat.le_succ _)
  generalize ((w4.setCell ⟨w.heap.size + 1, 0, none⟩ (.int .i64 A2)).setCell ⟨w.heap.size + 1, 1, none⟩ (.slice a4 R.length c4)) = X at *
  obtain ⟨dd0, dd1⟩ := pair_cells e1 rfl
  exact bodyPost_ret (v := .tuple #[.agg #[.int .i64 A2, .slice a4 R.length c4], .int .i64 0]) (by simp [results, Tryd.results41, go_sem, dd0, dd1]) rfl ⟨⟨_, rfl, e2⟩, e3⟩
set_option maxRecDepth 100000 in
set_option maxHeartbeats 2000000 in
theorem rdebit_a (av q n : Int) (v : Value) (L : List Mk) (w : World) (h : RM w v L) (ho : MOk L) (h1 : av ≤ top) (hq1 : q ≤ top) (hl : L.length ≤ 4611686018427387904) (hck : (ck av L).1 = 0) (hq : ¬ q < 1) (hz0 : 0 ≤ n) (hz1 : n ≤ 65536) (hc : ¬ av + mq n L < q) (hm : ¬ q ≤ mq n L) :
    Calls Tryd.prog 41 #[.agg #[.int .i64 av, v], .int .i64 q, .int .i64 n] w fun e w' => RAns w w' (debitO av L q n) e ∧ Below w.heap.size w w' := by
  have HQ1 := hide hq1
  clear HQ1
  have HRM := hide h
  have HCK := hide (fun (W : World) (hw : Below w.heap.size w W) => rCheck_any av v L W (h.later hw) ho h1 hl)
  unfold ckP at HCK
  have HCO := hide (fun (W : World) (hw : Below w.heap.size w W) => rCover_any av n v L W (h.later hw) ho h1 hl)
  have HMA := hide (fun (W : World) (hw : Below w.heap.size w W) => rMarked_any av n v L W (h.later hw) ho h1 hl)
  obtain ⟨a, cap, rfl, _, _⟩ := h
  have hb := bg_n hck hq
  have hR := (ck_right h1).1 hck
  have dq : decide (q < 1) = false := decide_eq_false hq
  have hav := hR.av0
  have hal := hR.all
  have htop : top = 9223372036854775807 := rfl
  have hmq := mq_ge (n := n) hR.ri
  rw [show covV av L n = av + mq n L from if_pos hck] at HCO
  rw [show mkdV av L n = mq n L from if_pos hck] at HMA
  rw [show debitO av L q n = .ok (av - (q - mq n L)) (setM n 0 L) by unfold debitO; rw [hb]; rw [if_neg (by omega : ¬ (n < 0 ∨ 65536 < n)), if_neg hc]; exact if_neg hm]
  have dc : decide (av + mq n L < q) = false := decide_eq_false hc
  have dm : decide (q ≤ mq n L) = false := decide_eq_false hm
  have hw1 : wrap64 (q - mq n L) = q - mq n L := by unfold wrap64; omega
  have hw2 : IntKind.i64.wrap (q - mq n L) = q - mq n L := by rw [IntKind.wrap_i64]; omega
  have hw3 : wrap64 (av - (q - mq n L)) = av - (q - mq n L) := by unfold wrap64; omega
  have hw4 : IntKind.i64.wrap (av - (q - mq n L)) = av - (q - mq n L) := by rw [IntKind.wrap_i64]; omega
  have dn : decide (n < 0) = false := decide_eq_false (by omega)
  have dn2 : decide (65536 < n) = false := decide_eq_false (by omega)
  have HTU := hide (fun (W : World) (hw : Below w.heap.size w W) => with_any av (av - (q - mq n L)) _ L (n) (0) W (HRM.out.later hw) hR.ri hR.few (by omega))
  generalize setM (n) (0) L = R at *
  rw [hck] at HCK
  generalize (ck av L).2 = c2 at *
  have X0 := hide (Bx2.new w av (.slice a L.length cap))
  obtain ⟨x0, x1, y0, y1, f0, f1⟩ := X0.out.facts
  generalize mq n L = m at *
  generalize av + m = cv at *
  obtain ⟨A2, hA2⟩ : ∃ A2, av - (q - m) = A2 := ⟨_, rfl⟩
  rw [hA2] at HTU hw3 hw4 ⊢
  have hw3' : wrap64 (av - (q - m)) = A2 := by rw [hA2]; exact hw3
  have hw4' : IntKind.i64.wrap (av - (q - m)) = A2 := by rw [hA2]; exact hw4
  clear hb hR hq hck hav hal htop hmq hc hm hz0 hz1 hw3 hw4 hA2
  go_enter Tryd.func41, Tryd.ntmps41
  go_wp2_with fail
  refine (HCK.out _ X0.out.low).mono ?_
  rintro e w1 ⟨rfl, hb⟩
  have X1 := hide (X0.out.later hb)
  obtain ⟨x0, x1, y0, y1, f0, f1⟩ := X1.out.facts
  clear hb
  go_wp2_with fail
  refine (HCO.out _ X1.out.low).mono ?_
  rintro e w2 ⟨rfl, hb⟩
  have X2 := hide (X1.out.later hb)
  obtain ⟨x0, x1, y0, y1, f0, f1⟩ := X2.out.facts
  clear hb
  go_wp2_with fail
  refine (HMA.out _ X2.out.low).mono ?_
  rintro e w3 ⟨rfl, hb⟩
  have X3 := hide (X2.out.later hb)
  obtain ⟨x0, x1, y0, y1, f0, f1⟩ := X3.out.facts
  clear hb
  go_wp2_with fail
  refine (HTU.out _ X3.out.low).mono ?_
  rintro e w4 ⟨v', rfl, hO, hb⟩
  obtain ⟨a4, c4, hv4⟩ := rm_lt (OM.rm hO)
  subst hv4
  have HO := hide hO
  have X4 := hide (X3.out.later hb)
  obtain ⟨x0, x1, y0, y1, f0, f1⟩ := X4.out.facts
  clear hb
  go_wp2_with fail
  obtain ⟨e1, e2, e3⟩ := turn_end (a2 := A2) X4.out.res (World.ownsRow.mono HO.out X3.out.low.size) X4.out.low (Nat.le_succ _)
  generalize ((w4.setCell ⟨w.heap.size + 1, 0, none⟩ (.int .i64 A2)).setCell ⟨w.heap.size + 1, 1, none⟩ (.slice a4 R.length c4)) = X at *
  obtain ⟨dd0, dd1⟩ := pair_cells e1 rfl
  exact bodyPost_ret (v := .tuple #[.agg #[.int .i64 A2, .slice a4 R.length c4], .int .i64 0]) (by simp [results, Tryd.results41, go_sem, dd0, dd1]) rfl ⟨⟨_, rfl, e2⟩, e3⟩
set_option maxRecDepth 100000 in
set_option maxHeartbeats 2000000 in
theorem rmark_n1 (av q n : Int) (v : Value) (L : List Mk) (w : World) (h : RM w v L) (ho : MOk L) (h1 : av ≤ top) (hq1 : q ≤ top) (hl : L.length ≤ 4611686018427387904) (hck : (ck av L).1 = 0) (hq : ¬ q < 1) (hn : n < 1) :
    Calls Tryd.prog 42 #[.agg #[.int .i64 av, v], .int .i64 q, .int .i64 n] w fun e w' => RAns w w' (markO av L q n) e ∧ Below w.heap.size w w' := by
  have HQ1 := hide hq1
  clear HQ1
  have HRM := hide h
  have HCK := hide (fun (W : World) (hw : Below w.heap.size w W) => rCheck_any av v L W (h.later hw) ho h1 hl)
  unfold ckP at HCK
  obtain ⟨a, cap, rfl, _, _⟩ := h
  have hb := bg_n hck hq
  have hR := (ck_right h1).1 hck
  have dq : decide (q < 1) = false := decide_eq_false hq
  have hav := hR.av0
  have hal := hR.all
  have htop : top = 9223372036854775807 := rfl
  have hmq := mq_ge (n := n) hR.ri
  rw [show markO av L q n = eno 19 by unfold markO; rw [hb]; exact if_pos (.inl hn)]
  show Calls _ _ _ _ fun e w' => e = .returned (.tuple #[posZ, .int .i64 19]) ∧ _
  have dn : decide (n < 1) = true := decide_eq_true hn
  rw [hck] at HCK
  generalize (ck av L).2 = c2 at *
  have X0 := hide (Bx2.new w av (.slice a L.length cap))
  obtain ⟨x0, x1, y0, y1, f0, f1⟩ := X0.out.facts
  clear hb hR hq hck hav hal htop hmq hn
  go_enter Tryd.func42, Tryd.ntmps42
  go_wp2_with fail
  refine (HCK.out _ X0.out.low).mono ?_
  rintro e w1 ⟨rfl, hb⟩
  have X1 := hide (X0.out.later hb)
  obtain ⟨x0, x1, y0, y1, f0, f1⟩ := X1.out.facts
  clear hb
  go_wp2_with fail
  obtain ⟨e1, e3⟩ := refuse_end X1.out
  generalize ((w1.setCell ⟨w.heap.size + 1, 0, none⟩ (.int .i64 0)).setCell ⟨w.heap.size + 1, 1, none⟩ (.slice Option.none 0 0)) = X at *
  obtain ⟨dd0, dd1⟩ := pair_cells e1 rfl
  exact bodyPost_ret (v := .tuple #[posZ, .int .i64 19]) (by simp [results, Tryd.results42, go_sem, dd0, dd1]) rfl ⟨rfl, e3⟩
set_option maxRecDepth 100000 in
set_option maxHeartbeats 2000000 in
theorem rmark_n2 (av q n : Int) (v : Value) (L : List Mk) (w : World) (h : RM w v L) (ho : MOk L) (h1 : av ≤ top) (hq1 : q ≤ top) (hl : L.length ≤ 4611686018427387904) (hck : (ck av L).1 = 0) (hq : ¬ q < 1) (hn : 65536 < n) :
    Calls Tryd.prog 42 #[.agg #[.int .i64 av, v], .int .i64 q, .int .i64 n] w fun e w' => RAns w w' (markO av L q n) e ∧ Below w.heap.size w w' := by
  have HQ1 := hide hq1
  clear HQ1
  have HRM := hide h
  have HCK := hide (fun (W : World) (hw : Below w.heap.size w W) => rCheck_any av v L W (h.later hw) ho h1 hl)
  unfold ckP at HCK
  obtain ⟨a, cap, rfl, _, _⟩ := h
  have hb := bg_n hck hq
  have hR := (ck_right h1).1 hck
  have dq : decide (q < 1) = false := decide_eq_false hq
  have hav := hR.av0
  have hal := hR.all
  have htop : top = 9223372036854775807 := rfl
  have hmq := mq_ge (n := n) hR.ri
  rw [show markO av L q n = eno 19 by unfold markO; rw [hb]; exact if_pos (.inr hn)]
  show Calls _ _ _ _ fun e w' => e = .returned (.tuple #[posZ, .int .i64 19]) ∧ _
  have dn : decide (n < 1) = false := decide_eq_false (by omega)
  have dn2 : decide (65536 < n) = true := decide_eq_true hn
  rw [hck] at HCK
  generalize (ck av L).2 = c2 at *
  have X0 := hide (Bx2.new w av (.slice a L.length cap))
  obtain ⟨x0, x1, y0, y1, f0, f1⟩ := X0.out.facts
  clear hb hR hq hck hav hal htop hmq hn
  go_enter Tryd.func42, Tryd.ntmps42
  go_wp2_with fail
  refine (HCK.out _ X0.out.low).mono ?_
  rintro e w1 ⟨rfl, hb⟩
  have X1 := hide (X0.out.later hb)
  obtain ⟨x0, x1, y0, y1, f0, f1⟩ := X1.out.facts
  clear hb
  go_wp2_with fail
  obtain ⟨e1, e3⟩ := refuse_end X1.out
  generalize ((w1.setCell ⟨w.heap.size + 1, 0, none⟩ (.int .i64 0)).setCell ⟨w.heap.size + 1, 1, none⟩ (.slice Option.none 0 0)) = X at *
  obtain ⟨dd0, dd1⟩ := pair_cells e1 rfl
  exact bodyPost_ret (v := .tuple #[posZ, .int .i64 19]) (by simp [results, Tryd.results42, go_sem, dd0, dd1]) rfl ⟨rfl, e3⟩
set_option maxRecDepth 100000 in
set_option maxHeartbeats 2000000 in
theorem rmark_s (av q n : Int) (v : Value) (L : List Mk) (w : World) (h : RM w v L) (ho : MOk L) (h1 : av ≤ top) (hq1 : q ≤ top) (hl : L.length ≤ 4611686018427387904) (hck : (ck av L).1 = 0) (hq : ¬ q < 1) (hz0 : 1 ≤ n) (hz1 : n ≤ 65536) (hc : av < q) :
    Calls Tryd.prog 42 #[.agg #[.int .i64 av, v], .int .i64 q, .int .i64 n] w fun e w' => RAns w w' (markO av L q n) e ∧ Below w.heap.size w w' := by
  have HQ1 := hide hq1
  clear HQ1
  have HRM := hide h
  have HCK := hide (fun (W : World) (hw : Below w.heap.size w W) => rCheck_any av v L W (h.later hw) ho h1 hl)
  unfold ckP at HCK
  obtain ⟨a, cap, rfl, _, _⟩ := h
  have hb := bg_n hck hq
  have hR := (ck_right h1).1 hck
  have dq : decide (q < 1) = false := decide_eq_false hq
  have hav := hR.av0
  have hal := hR.all
  have htop : top = 9223372036854775807 := rfl
  have hmq := mq_ge (n := n) hR.ri
  rw [show markO av L q n = eno 18 by unfold markO; rw [hb]; rw [if_neg (by omega : ¬ (n < 1 ∨ 65536 < n))]; exact if_pos hc]
  show Calls _ _ _ _ fun e w' => e = .returned (.tuple #[posZ, .int .i64 18]) ∧ _
  have dc : decide (av < q) = true := decide_eq_true hc
  have dn : decide (n < 1) = false := decide_eq_false (by omega)
  have dn2 : decide (65536 < n) = false := decide_eq_false (by omega)
  rw [hck] at HCK
  generalize (ck av L).2 = c2 at *
  have X0 := hide (Bx2.new w av (.slice a L.length cap))
  obtain ⟨x0, x1, y0, y1, f0, f1⟩ := X0.out.facts
  clear hb hR hq hck hav hal htop hmq hc hz0 hz1
  go_enter Tryd.func42, Tryd.ntmps42
  go_wp2_with fail
  refine (HCK.out _ X0.out.low).mono ?_
  rintro e w1 ⟨rfl, hb⟩
  have X1 := hide (X0.out.later hb)
  obtain ⟨x0, x1, y0, y1, f0, f1⟩ := X1.out.facts
  clear hb
  go_wp2_with fail
  obtain ⟨e1, e3⟩ := refuse_end X1.out
  generalize ((w1.setCell ⟨w.heap.size + 1, 0, none⟩ (.int .i64 0)).setCell ⟨w.heap.size + 1, 1, none⟩ (.slice Option.none 0 0)) = X at *
  obtain ⟨dd0, dd1⟩ := pair_cells e1 rfl
  exact bodyPost_ret (v := .tuple #[posZ, .int .i64 18]) (by simp [results, Tryd.results42, go_sem, dd0, dd1]) rfl ⟨rfl, e3⟩
set_option maxRecDepth 100000 in
set_option maxHeartbeats 2000000 in
theorem rmark_f (av q n : Int) (v : Value) (L : List Mk) (w : World) (h : RM w v L) (ho : MOk L) (h1 : av ≤ top) (hq1 : q ≤ top) (hl : L.length ≤ 4611686018427387904) (hck : (ck av L).1 = 0) (hq : ¬ q < 1) (hz0 : 1 ≤ n) (hz1 : n ≤ 65536) (hc : ¬ av < q) (hm : mq n L = 0) (h88 : L.length = 8) :
    Calls Tryd.prog 42 #[.agg #[.int .i64 av, v], .int .i64 q, .int .i64 n] w fun e w' => RAns w w' (markO av L q n) e ∧ Below w.heap.size w w' := by
  have HQ1 := hide hq1
  clear HQ1
  have HRM := hide h
  have HCK := hide (fun (W : World) (hw : Below w.heap.size w W) => rCheck_any av v L W (h.later hw) ho h1 hl)
  unfold ckP at HCK
  have HMA := hide (fun (W : World) (hw : Below w.heap.size w W) => rMarked_any av n v L W (h.later hw) ho h1 hl)
  obtain ⟨a, cap, rfl, _, _⟩ := h
  have hb := bg_n hck hq
  have hR := (ck_right h1).1 hck
  have dq : decide (q < 1) = false := decide_eq_false hq
  have hav := hR.av0
  have hal := hR.all
  have htop : top = 9223372036854775807 := rfl
  have hmq := mq_ge (n := n) hR.ri
  rw [show mkdV av L n = mq n L from if_pos hck] at HMA
  rw [show markO av L q n = eno 5 by unfold markO; rw [hb]; rw [if_neg (by omega : ¬ (n < 1 ∨ 65536 < n)), if_neg hc]; exact if_pos ⟨hm, h88⟩]
  show Calls _ _ _ _ fun e w' => e = .returned (.tuple #[posZ, .int .i64 5]) ∧ _
  have dc : decide (av < q) = false := decide_eq_false hc
  have dn : decide (n < 1) = false := decide_eq_false (by omega)
  have dn2 : decide (65536 < n) = false := decide_eq_false (by omega)
  have hme : (mq n L == 0) = true := by rw [beq_iff_eq]; exact hm
  have hle : decide ((8 : Int) ≤ (L.length : Int)) = true := decide_eq_true (by omega)
  rw [hck] at HCK
  generalize (ck av L).2 = c2 at *
  have X0 := hide (Bx2.new w av (.slice a L.length cap))
  obtain ⟨x0, x1, y0, y1, f0, f1⟩ := X0.out.facts
  generalize mq n L = m at *
  clear hb hR hq hck hav hal htop hmq hc hz0 hz1 h88 hm
  go_enter Tryd.func42, Tryd.ntmps42
  go_wp2_with fail
  refine (HCK.out _ X0.out.low).mono ?_
  rintro e w1 ⟨rfl, hb⟩
  have X1 := hide (X0.out.later hb)
  obtain ⟨x0, x1, y0, y1, f0, f1⟩ := X1.out.facts
  clear hb
  go_wp2_with fail
  refine (HMA.out _ X1.out.low).mono ?_
  rintro e w2 ⟨rfl, hb⟩
  have X2 := hide (X1.out.later hb)
  obtain ⟨x0, x1, y0, y1, f0, f1⟩ := X2.out.facts
  clear hb
  go_wp2_with fail
  obtain ⟨e1, e3⟩ := refuse_end X2.out
  generalize ((w2.setCell ⟨w.heap.size + 1, 0, none⟩ (.int .i64 0)).setCell ⟨w.heap.size + 1, 1, none⟩ (.slice Option.none 0 0)) = X at *
  obtain ⟨dd0, dd1⟩ := pair_cells e1 rfl
  exact bodyPost_ret (v := .tuple #[posZ, .int .i64 5]) (by simp [results, Tryd.results42, go_sem, dd0, dd1]) rfl ⟨rfl, e3⟩
set_option maxRecDepth 100000 in
set_option maxHeartbeats 2000000 in
theorem rmark_k (av q n : Int) (v : Value) (L : List Mk) (w : World) (h : RM w v L) (ho : MOk L) (h1 : av ≤ top) (hq1 : q ≤ top) (hl : L.length ≤ 4611686018427387904) (hck : (ck av L).1 = 0) (hq : ¬ q < 1) (hz0 : 1 ≤ n) (hz1 : n ≤ 65536) (hc : ¬ av < q) (hm : mq n L = 0) (h88 : ¬ L.length = 8) :
    Calls Tryd.prog 42 #[.agg #[.int .i64 av, v], .int .i64 q, .int .i64 n] w fun e w' => RAns w w' (markO av L q n) e ∧ Below w.heap.size w w' := by
  have HQ1 := hide hq1
  clear HQ1
  have HRM := hide h
  have HCK := hide (fun (W : World) (hw : Below w.heap.size w W) => rCheck_any av v L W (h.later hw) ho h1 hl)
  unfold ckP at HCK
  have HMA := hide (fun (W : World) (hw : Below w.heap.size w W) => rMarked_any av n v L W (h.later hw) ho h1 hl)
  obtain ⟨a, cap, rfl, _, _⟩ := h
  have hb := bg_n hck hq
  have hR := (ck_right h1).1 hck
  have dq : decide (q < 1) = false := decide_eq_false hq
  have hav := hR.av0
  have hal := hR.all
  have htop : top = 9223372036854775807 := rfl
  have hmq := mq_ge (n := n) hR.ri
  rw [show mkdV av L n = mq n L from if_pos hck] at HMA
  rw [show markO av L q n = .ok (av - q) (setM n (mq n L + q) L) by unfold markO; rw [hb]; rw [if_neg (by omega : ¬ (n < 1 ∨ 65536 < n)), if_neg hc]; exact if_neg (fun e => h88 e.2)]
  have dc : decide (av < q) = false := decide_eq_false hc
  have dn : decide (n < 1) = false := decide_eq_false (by omega)
  have dn2 : decide (65536 < n) = false := decide_eq_false (by omega)
  have hme : (mq n L == 0) = true := by rw [beq_iff_eq]; exact hm
  have hle : decide ((8 : Int) ≤ (L.length : Int)) = false := decide_eq_false (by have := hR.few; omega)
  have hw1 : wrap64 (mq n L + q) = mq n L + q := by unfold wrap64; omega
  have hw2 : IntKind.i64.wrap (mq n L + q) = mq n L + q := by rw [IntKind.wrap_i64]; omega
  have hw3 : wrap64 (av - q) = av - q := by unfold wrap64; omega
  have hw4 : IntKind.i64.wrap (av - q) = av - q := by rw [IntKind.wrap_i64]; omega
  have HTU := hide (fun (W : World) (hw : Below w.heap.size w W) => with_any av (av - q) _ L (n) (mq n L + q) W (HRM.out.later hw) hR.ri hR.few (by omega))
  generalize setM (n) (mq n L + q) L = R at *
  rw [hck] at HCK
  generalize (ck av L).2 = c2 at *
  have X0 := hide (Bx2.new w av (.slice a L.length cap))
  obtain ⟨x0, x1, y0, y1, f0, f1⟩ := X0.out.facts
  generalize mq n L = m at *
  obtain ⟨A2, hA2⟩ : ∃ A2, av - q = A2 := ⟨_, rfl⟩
  rw [hA2] at HTU hw3 hw4 ⊢
  have hw3' : wrap64 (av - q) = A2 := by rw [hA2]; exact hw3
  have hw4' : IntKind.i64.wrap (av - q) = A2 := by rw [hA2]; exact hw4
  clear hb hR hq hck hav hal htop hmq hc hz0 hz1 h88 hm hw3 hw4 hA2
  go_enter Tryd.func42, Tryd.ntmps42
  go_wp2_with fail
  refine (HCK.out _ X0.out.low).mono ?_
  rintro e w1 ⟨rfl, hb⟩
  have X1 := hide (X0.out.later hb)
  obtain ⟨x0, x1, y0, y1, f0, f1⟩ := X1.out.facts
  clear hb
  go_wp2_with fail
  refine (HMA.out _ X1.out.low).mono ?_
  rintro e w2 ⟨rfl, hb⟩
  have X2 := hide (X1.out.later hb)
  obtain ⟨x0, x1, y0, y1, f0, f1⟩ := X2.out.facts
  clear hb
  go_wp2_with fail
  refine (HTU.out _ X2.out.low).mono ?_
  rintro e w3 ⟨v', rfl, hO, hb⟩
  obtain ⟨a4, c4, hv4⟩ := rm_lt (OM.rm hO)
  subst hv4
  have HO := hide hO
  have X3 := hide (X2.out.later hb)
  obtain ⟨x0, x1, y0, y1, f0, f1⟩ := X3.out.facts
  clear hb
  go_wp2_with fail
  obtain ⟨e1, e2, e3⟩ := turn_end (a2 := A2) X3.out.res (World.ownsRow.mono HO.out X2.out.low.size) X3.out.low (Nat.le_succ _)
  generalize ((w3.setCell ⟨w.heap.size + 1, 0, none⟩ (.int .i64 A2)).setCell ⟨w.heap.size + 1, 1, none⟩ (.slice a4 R.length c4)) = X at *
  obtain ⟨dd0, dd1⟩ := pair_cells e1 rfl
  exact bodyPost_ret (v := .tuple #[.agg #[.int .i64 A2, .slice a4 R.length c4], .int .i64 0]) (by simp [results, Tryd.results42, go_sem, dd0, dd1]) rfl ⟨⟨_, rfl, e2⟩, e3⟩
set_option maxRecDepth 100000 in
set_option maxHeartbeats 2000000 in
theorem rmark_l (av q n : Int) (v : Value) (L : List Mk) (w : World) (h : RM w v L) (ho : MOk L) (h1 : av ≤ top) (hq1 : q ≤ top) (hl : L.length ≤ 4611686018427387904) (hck : (ck av L).1 = 0) (hq : ¬ q < 1) (hz0 : 1 ≤ n) (hz1 : n ≤ 65536) (hc : ¬ av < q) (hm : ¬ mq n L = 0) :
    Calls Tryd.prog 42 #[.agg #[.int .i64 av, v], .int .i64 q, .int .i64 n] w fun e w' => RAns w w' (markO av L q n) e ∧ Below w.heap.size w w' := by
  have HQ1 := hide hq1
  clear HQ1
  have HRM := hide h
  have HCK := hide (fun (W : World) (hw : Below w.heap.size w W) => rCheck_any av v L W (h.later hw) ho h1 hl)
  unfold ckP at HCK
  have HMA := hide (fun (W : World) (hw : Below w.heap.size w W) => rMarked_any av n v L W (h.later hw) ho h1 hl)
  obtain ⟨a, cap, rfl, _, _⟩ := h
  have hb := bg_n hck hq
  have hR := (ck_right h1).1 hck
  have dq : decide (q < 1) = false := decide_eq_false hq
  have hav := hR.av0
  have hal := hR.all
  have htop : top = 9223372036854775807 := rfl
  have hmq := mq_ge (n := n) hR.ri
  rw [show mkdV av L n = mq n L from if_pos hck] at HMA
  rw [show markO av L q n = .ok (av - q) (setM n (mq n L + q) L) by unfold markO; rw [hb]; rw [if_neg (by omega : ¬ (n < 1 ∨ 65536 < n)), if_neg hc]; exact if_neg (fun e => hm e.1)]
  have dc : decide (av < q) = false := decide_eq_false hc
  have dn : decide (n < 1) = false := decide_eq_false (by omega)
  have dn2 : decide (65536 < n) = false := decide_eq_false (by omega)
  have hme : (mq n L == 0) = false := by rw [beq_eq_false_iff_ne]; exact hm
  have hw1 : wrap64 (mq n L + q) = mq n L + q := by unfold wrap64; omega
  have hw2 : IntKind.i64.wrap (mq n L + q) = mq n L + q := by rw [IntKind.wrap_i64]; omega
  have hw3 : wrap64 (av - q) = av - q := by unfold wrap64; omega
  have hw4 : IntKind.i64.wrap (av - q) = av - q := by rw [IntKind.wrap_i64]; omega
  have HTU := hide (fun (W : World) (hw : Below w.heap.size w W) => with_any av (av - q) _ L (n) (mq n L + q) W (HRM.out.later hw) hR.ri hR.few (by omega))
  generalize setM (n) (mq n L + q) L = R at *
  rw [hck] at HCK
  generalize (ck av L).2 = c2 at *
  have X0 := hide (Bx2.new w av (.slice a L.length cap))
  obtain ⟨x0, x1, y0, y1, f0, f1⟩ := X0.out.facts
  generalize mq n L = m at *
  obtain ⟨A2, hA2⟩ : ∃ A2, av - q = A2 := ⟨_, rfl⟩
  rw [hA2] at HTU hw3 hw4 ⊢
  have hw3' : wrap64 (av - q) = A2 := by rw [hA2]; exact hw3
  have hw4' : IntKind.i64.wrap (av - q) = A2 := by rw [hA2]; exact hw4
  clear hb hR hq hck hav hal htop hmq hc hz0 hz1 hm hw3 hw4 hA2
  go_enter Tryd.func42, Tryd.ntmps42
  go_wp2_with fail
  refine (HCK.out _ X0.out.low).mono ?_
  rintro e w1 ⟨rfl, hb⟩
  have X1 := hide (X0.out.later hb)
  obtain ⟨x0, x1, y0, y1, f0, f1⟩ := X1.out.facts
  clear hb
  go_wp2_with fail
  refine (HMA.out _ X1.out.low).mono ?_
  rintro e w2 ⟨rfl, hb⟩
  have X2 := hide (X1.out.later hb)
  obtain ⟨x0, x1, y0, y1, f0, f1⟩ := X2.out.facts
  clear hb
  go_wp2_with fail
  refine (HTU.out _ X2.out.low).mono ?_
  rintro e w3 ⟨v', rfl, hO, hb⟩
  obtain ⟨a4, c4, hv4⟩ := rm_lt (OM.rm hO)
  subst hv4
  have HO := hide hO
  have X3 := hide (X2.out.later hb)
  obtain ⟨x0, x1, y0, y1, f0, f1⟩ := X3.out.facts
  clear hb
  go_wp2_with fail
  obtain ⟨e1, e2, e3⟩ := turn_end (a2 := A2) X3.out.res (World.ownsRow.mono HO.out X2.out.low.size) X3.out.low (Nat.le_succ _)
  generalize ((w3.setCell ⟨w.heap.size + 1, 0, none⟩ (.int .i64 A2)).setCell ⟨w.heap.size + 1, 1, none⟩ (.slice a4 R.length c4)) = X at *
  obtain ⟨dd0, dd1⟩ := pair_cells e1 rfl
  exact bodyPost_ret (v := .tuple #[.agg #[.int .i64 A2, .slice a4 R.length c4], .int .i64 0]) (by simp [results, Tryd.results42, go_sem, dd0, dd1]) rfl ⟨⟨_, rfl, e2⟩, e3⟩
set_option maxRecDepth 100000 in
set_option maxHeartbeats 2000000 in
theorem runmark_n1 (av q n : Int) (v : Value) (L : List Mk) (w : World) (h : RM w v L) (ho : MOk L) (h1 : av ≤ top) (hq1 : q ≤ top) (hl : L.length ≤ 4611686018427387904) (hck : (ck av L).1 = 0) (hq : ¬ q < 1) (hn : n < 1) :
    Calls Tryd.prog 43 #[.agg #[.int .i64 av, v], .int .i64 q, .int .i64 n] w fun e w' => RAns w w' (unmarkO av L q n) e ∧ Below w.heap.size w w' := by
  have HQ1 := hide hq1
  clear HQ1
  have HRM := hide h
  have HCK := hide (fun (W : World) (hw : Below w.heap.size w W) => rCheck_any av v L W (h.later hw) ho h1 hl)
  unfold ckP at HCK
  have HMA := hide (fun (W : World) (hw : Below w.heap.size w W) => rMarked_any av n v L W (h.later hw) ho h1 hl)
  obtain ⟨a, cap, rfl, _, _⟩ := h
  have hb := bg_n hck hq
  have hR := (ck_right h1).1 hck
  have dq : decide (q < 1) = false := decide_eq_false hq
  have hav := hR.av0
  have hal := hR.all
  have htop : top = 9223372036854775807 := rfl
  have hmq := mq_ge (n := n) hR.ri
  rw [show mkdV av L n = mq n L from if_pos hck] at HMA
  have hm : mq n L = 0 := (mq_gt hR.ri (by omega)).1
  rw [show unmarkO av L q n = eno 19 by unfold unmarkO; rw [hb]; exact if_pos hm]
  show Calls _ _ _ _ fun e w' => e = .returned (.tuple #[posZ, .int .i64 19]) ∧ _
  have dn : decide (n < 1) = true := decide_eq_true hn
  rw [hck] at HCK
  generalize (ck av L).2 = c2 at *
  have X0 := hide (Bx2.new w av (.slice a L.length cap))
  obtain ⟨x0, x1, y0, y1, f0, f1⟩ := X0.out.facts
  generalize mq n L = m at *
  clear hb hR hq hck hav hal htop hmq hm hn
  go_enter Tryd.func43, Tryd.ntmps43
  go_wp2_with fail
  refine (HCK.out _ X0.out.low).mono ?_
  rintro e w1 ⟨rfl, hb⟩
  have X1 := hide (X0.out.later hb)
  obtain ⟨x0, x1, y0, y1, f0, f1⟩ := X1.out.facts
  clear hb
  go_wp2_with fail
  refine (HMA.out _ X1.out.low).mono ?_
  rintro e w2 ⟨rfl, hb⟩
  have X2 := hide (X1.out.later hb)
  obtain ⟨x0, x1, y0, y1, f0, f1⟩ := X2.out.facts
  clear hb
  go_wp2_with fail
  obtain ⟨e1, e3⟩ := refuse_end X2.out
  generalize ((w2.setCell ⟨w.heap.size + 1, 0, none⟩ (.int .i64 0)).setCell ⟨w.heap.size + 1, 1, none⟩ (.slice Option.none 0 0)) = X at *
  obtain ⟨dd0, dd1⟩ := pair_cells e1 rfl
  exact bodyPost_ret (v := .tuple #[posZ, .int .i64 19]) (by simp [results, Tryd.results43, go_sem, dd0, dd1]) rfl ⟨rfl, e3⟩
set_option maxRecDepth 100000 in
set_option maxHeartbeats 2000000 in
theorem runmark_n2 (av q n : Int) (v : Value) (L : List Mk) (w : World) (h : RM w v L) (ho : MOk L) (h1 : av ≤ top) (hq1 : q ≤ top) (hl : L.length ≤ 4611686018427387904) (hck : (ck av L).1 = 0) (hq : ¬ q < 1) (hn : 65536 < n) :
    Calls Tryd.prog 43 #[.agg #[.int .i64 av, v], .int .i64 q, .int .i64 n] w fun e w' => RAns w w' (unmarkO av L q n) e ∧ Below w.heap.size w w' := by
  have HQ1 := hide hq1
  clear HQ1
  have HRM := hide h
  have HCK := hide (fun (W : World) (hw : Below w.heap.size w W) => rCheck_any av v L W (h.later hw) ho h1 hl)
  unfold ckP at HCK
  have HMA := hide (fun (W : World) (hw : Below w.heap.size w W) => rMarked_any av n v L W (h.later hw) ho h1 hl)
  obtain ⟨a, cap, rfl, _, _⟩ := h
  have hb := bg_n hck hq
  have hR := (ck_right h1).1 hck
  have dq : decide (q < 1) = false := decide_eq_false hq
  have hav := hR.av0
  have hal := hR.all
  have htop : top = 9223372036854775807 := rfl
  have hmq := mq_ge (n := n) hR.ri
  rw [show mkdV av L n = mq n L from if_pos hck] at HMA
  have hm : mq n L = 0 := Classical.byContradiction fun e => by have := setM_name hR (show 1 ≤ mq n L by omega); omega
  rw [show unmarkO av L q n = eno 19 by unfold unmarkO; rw [hb]; exact if_pos hm]
  show Calls _ _ _ _ fun e w' => e = .returned (.tuple #[posZ, .int .i64 19]) ∧ _
  have dn : decide (n < 1) = false := decide_eq_false (by omega)
  have dn2 : decide (65536 < n) = true := decide_eq_true hn
  rw [hck] at HCK
  generalize (ck av L).2 = c2 at *
  have X0 := hide (Bx2.new w av (.slice a L.length cap))
  obtain ⟨x0, x1, y0, y1, f0, f1⟩ := X0.out.facts
  generalize mq n L = m at *
  clear hb hR hq hck hav hal htop hmq hm hn
  go_enter Tryd.func43, Tryd.ntmps43
  go_wp2_with fail
  refine (HCK.out _ X0.out.low).mono ?_
  rintro e w1 ⟨rfl, hb⟩
  have X1 := hide (X0.out.later hb)
  obtain ⟨x0, x1, y0, y1, f0, f1⟩ := X1.out.facts
  clear hb
  go_wp2_with fail
  refine (HMA.out _ X1.out.low).mono ?_
  rintro e w2 ⟨rfl, hb⟩
  have X2 := hide (X1.out.later hb)
  obtain ⟨x0, x1, y0, y1, f0, f1⟩ := X2.out.facts
  clear hb
  go_wp2_with fail
  obtain ⟨e1, e3⟩ := refuse_end X2.out
  generalize ((w2.setCell ⟨w.heap.size + 1, 0, none⟩ (.int .i64 0)).setCell ⟨w.heap.size + 1, 1, none⟩ (.slice Option.none 0 0)) = X at *
  obtain ⟨dd0, dd1⟩ := pair_cells e1 rfl
  exact bodyPost_ret (v := .tuple #[posZ, .int .i64 19]) (by simp [results, Tryd.results43, go_sem, dd0, dd1]) rfl ⟨rfl, e3⟩
set_option maxRecDepth 100000 in
set_option maxHeartbeats 2000000 in
theorem runmark_n3 (av q n : Int) (v : Value) (L : List Mk) (w : World) (h : RM w v L) (ho : MOk L) (h1 : av ≤ top) (hq1 : q ≤ top) (hl : L.length ≤ 4611686018427387904) (hck : (ck av L).1 = 0) (hq : ¬ q < 1) (hz0 : 1 ≤ n) (hz1 : n ≤ 65536) (hm : mq n L = 0) :
    Calls Tryd.prog 43 #[.agg #[.int .i64 av, v], .int .i64 q, .int .i64 n] w fun e w' => RAns w w' (unmarkO av L q n) e ∧ Below w.heap.size w w' := by
  have HQ1 := hide hq1
  clear HQ1
  have HRM := hide h
  have HCK := hide (fun (W : World) (hw : Below w.heap.size w W) => rCheck_any av v L W (h.later hw) ho h1 hl)
  unfold ckP at HCK
  have HMA := hide (fun (W : World) (hw : Below w.heap.size w W) => rMarked_any av n v L W (h.later hw) ho h1 hl)
  obtain ⟨a, cap, rfl, _, _⟩ := h
  have hb := bg_n hck hq
  have hR := (ck_right h1).1 hck
  have dq : decide (q < 1) = false := decide_eq_false hq
  have hav := hR.av0
  have hal := hR.all
  have htop : top = 9223372036854775807 := rfl
  have hmq := mq_ge (n := n) hR.ri
  rw [show mkdV av L n = mq n L from if_pos hck] at HMA
  rw [show unmarkO av L q n = eno 19 by unfold unmarkO; rw [hb]; exact if_pos hm]
  show Calls _ _ _ _ fun e w' => e = .returned (.tuple #[posZ, .int .i64 19]) ∧ _
  have hme : (mq n L == 0) = true := by rw [beq_iff_eq]; exact hm
  have dn : decide (n < 1) = false := decide_eq_false (by omega)
  have dn2 : decide (65536 < n) = false := decide_eq_false (by omega)
  rw [hck] at HCK
  generalize (ck av L).2 = c2 at *
  have X0 := hide (Bx2.new w av (.slice a L.length cap))
  obtain ⟨x0, x1, y0, y1, f0, f1⟩ := X0.out.facts
  generalize mq n L = m at *
  clear hb hR hq hck hav hal htop hmq hm hz0 hz1
  go_enter Tryd.func43, Tryd.ntmps43
  go_wp2_with fail
  refine (HCK.out _ X0.out.low).mono ?_
  rintro e w1 ⟨rfl, hb⟩
  have X1 := hide (X0.out.later hb)
  obtain ⟨x0, x1, y0, y1, f0, f1⟩ := X1.out.facts
  clear hb
  go_wp2_with fail
  refine (HMA.out _ X1.out.low).mono ?_
  rintro e w2 ⟨rfl, hb⟩
  have X2 := hide (X1.out.later hb)
  obtain ⟨x0, x1, y0, y1, f0, f1⟩ := X2.out.facts
  clear hb
  go_wp2_with fail
  obtain ⟨e1, e3⟩ := refuse_end X2.out
  generalize ((w2.setCell ⟨w.heap.size + 1, 0, none⟩ (.int .i64 0)).setCell ⟨w.heap.size + 1, 1, none⟩ (.slice Option.none 0 0)) = X at *
  obtain ⟨dd0, dd1⟩ := pair_cells e1 rfl
  exact bodyPost_ret (v := .tuple #[posZ, .int .i64 19]) (by simp [results, Tryd.results43, go_sem, dd0, dd1]) rfl ⟨rfl, e3⟩
set_option maxRecDepth 100000 in
set_option maxHeartbeats 2000000 in
theorem runmark_s (av q n : Int) (v : Value) (L : List Mk) (w : World) (h : RM w v L) (ho : MOk L) (h1 : av ≤ top) (hq1 : q ≤ top) (hl : L.length ≤ 4611686018427387904) (hck : (ck av L).1 = 0) (hq : ¬ q < 1) (hz0 : 1 ≤ n) (hz1 : n ≤ 65536) (hm : ¬ mq n L = 0) (hc : mq n L < q) :
    Calls Tryd.prog 43 #[.agg #[.int .i64 av, v], .int .i64 q, .int .i64 n] w fun e w' => RAns w w' (unmarkO av L q n) e ∧ Below w.heap.size w w' := by
  have HQ1 := hide hq1
  clear HQ1
  have HRM := hide h
  have HCK := hide (fun (W : World) (hw : Below w.heap.size w W) => rCheck_any av v L W (h.later hw) ho h1 hl)
  unfold ckP at HCK
  have HMA := hide (fun (W : World) (hw : Below w.heap.size w W) => rMarked_any av n v L W (h.later hw) ho h1 hl)
  obtain ⟨a, cap, rfl, _, _⟩ := h
  have hb := bg_n hck hq
  have hR := (ck_right h1).1 hck
  have dq : decide (q < 1) = false := decide_eq_false hq
  have hav := hR.av0
  have hal := hR.all
  have htop : top = 9223372036854775807 := rfl
  have hmq := mq_ge (n := n) hR.ri
  rw [show mkdV av L n = mq n L from if_pos hck] at HMA
  rw [show unmarkO av L q n = eno 18 by unfold unmarkO; rw [hb]; rw [if_neg hm]; exact if_pos hc]
  show Calls _ _ _ _ fun e w' => e = .returned (.tuple #[posZ, .int .i64 18]) ∧ _
  have hme : (mq n L == 0) = false := by rw [beq_eq_false_iff_ne]; exact hm
  have dc : decide (mq n L < q) = true := decide_eq_true hc
  have dn : decide (n < 1) = false := decide_eq_false (by omega)
  have dn2 : decide (65536 < n) = false := decide_eq_false (by omega)
  rw [hck] at HCK
  generalize (ck av L).2 = c2 at *
  have X0 := hide (Bx2.new w av (.slice a L.length cap))
  obtain ⟨x0, x1, y0, y1, f0, f1⟩ := X0.out.facts
  generalize mq n L = m at *
  clear hb hR hq hck hav hal htop hmq hm hc hz0 hz1
  go_enter Tryd.func43, Tryd.ntmps43
  go_wp2_with fail
  refine (HCK.out _ X0.out.low).mono ?_
  rintro e w1 ⟨rfl, hb⟩
  have X1 := hide (X0.out.later hb)
  obtain ⟨x0, x1, y0, y1, f0, f1⟩ := X1.out.facts
  clear hb
  go_wp2_with fail
  refine (HMA.out _ X1.out.low).mono ?_
  rintro e w2 ⟨rfl, hb⟩
  have X2 := hide (X1.out.later hb)
  obtain ⟨x0, x1, y0, y1, f0, f1⟩ := X2.out.facts
  clear hb
  go_wp2_with fail
  obtain ⟨e1, e3⟩ := refuse_end X2.out
  generalize ((w2.setCell ⟨w.heap.size + 1, 0, none⟩ (.int .i64 0)).setCell ⟨w.heap.size + 1, 1, none⟩ (.slice Option.none 0 0)) = X at *
  obtain ⟨dd0, dd1⟩ := pair_cells e1 rfl
  exact bodyPost_ret (v := .tuple #[posZ, .int .i64 18]) (by simp [results, Tryd.results43, go_sem, dd0, dd1]) rfl ⟨rfl, e3⟩
set_option maxRecDepth 100000 in
set_option maxHeartbeats 2000000 in
theorem runmark_k (av q n : Int) (v : Value) (L : List Mk) (w : World) (h : RM w v L) (ho : MOk L) (h1 : av ≤ top) (hq1 : q ≤ top) (hl : L.length ≤ 4611686018427387904) (hck : (ck av L).1 = 0) (hq : ¬ q < 1) (hz0 : 1 ≤ n) (hz1 : n ≤ 65536) (hm : ¬ mq n L = 0) (hc : ¬ mq n L < q) :
    Calls Tryd.prog 43 #[.agg #[.int .i64 av, v], .int .i64 q, .int .i64 n] w fun e w' => RAns w w' (unmarkO av L q n) e ∧ Below w.heap.size w w' := by
  have HQ1 := hide hq1
  clear HQ1
  have HRM := hide h
  have HCK := hide (fun (W : World) (hw : Below w.heap.size w W) => rCheck_any av v L W (h.later hw) ho h1 hl)
  unfold ckP at HCK
  have HMA := hide (fun (W : World) (hw : Below w.heap.size w W) => rMarked_any av n v L W (h.later hw) ho h1 hl)
  obtain ⟨a, cap, rfl, _, _⟩ := h
  have hb := bg_n hck hq
  have hR := (ck_right h1).1 hck
  have dq : decide (q < 1) = false := decide_eq_false hq
  have hav := hR.av0
  have hal := hR.all
  have htop : top = 9223372036854775807 := rfl
  have hmq := mq_ge (n := n) hR.ri
  rw [show mkdV av L n = mq n L from if_pos hck] at HMA
  rw [show unmarkO av L q n = .ok (av + q) (setM n (mq n L - q) L) by unfold unmarkO; rw [hb]; rw [if_neg hm]; exact if_neg hc]
  have hme : (mq n L == 0) = false := by rw [beq_eq_false_iff_ne]; exact hm
  have dc : decide (mq n L < q) = false := decide_eq_false hc
  have hw1 : wrap64 (mq n L - q) = mq n L - q := by unfold wrap64; omega
  have hw2 : IntKind.i64.wrap (mq n L - q) = mq n L - q := by rw [IntKind.wrap_i64]; omega
  have hw3 : wrap64 (av + q) = av + q := by unfold wrap64; omega
  have hw4 : IntKind.i64.wrap (av + q) = av + q := by rw [IntKind.wrap_i64]; omega
  have dn : decide (n < 1) = false := decide_eq_false (by omega)
  have dn2 : decide (65536 < n) = false := decide_eq_false (by omega)
  have HTU := hide (fun (W : World) (hw : Below w.heap.size w W) => with_any av (av + q) _ L (n) (mq n L - q) W (HRM.out.later hw) hR.ri hR.few (by omega))
  generalize setM (n) (mq n L - q) L = R at *
  rw [hck] at HCK
  generalize (ck av L).2 = c2 at *
  have X0 := hide (Bx2.new w av (.slice a L.length cap))
  obtain ⟨x0, x1, y0, y1, f0, f1⟩ := X0.out.facts
  generalize mq n L = m at *
  obtain ⟨A2, hA2⟩ : ∃ A2, av + q = A2 := ⟨_, rfl⟩
  rw [hA2] at HTU hw3 hw4 ⊢
  have hw3' : wrap64 (av + q) = A2 := by rw [hA2]; exact hw3
  have hw4' : IntKind.i64.wrap (av + q) = A2 := by rw [hA2]; exact hw4
  clear hb hR hq hck hav hal htop hmq hm hc hz0 hz1 hw3 hw4 hA2
  go_enter Tryd.func43, Tryd.ntmps43
  go_wp2_with fail
  refine (HCK.out _ X0.out.low).mono ?_
  rintro e w1 ⟨rfl, hb⟩
  have X1 := hide (X0.out.later hb)
  obtain ⟨x0, x1, y0, y1, f0, f1⟩ := X1.out.facts
  clear hb
  go_wp2_with fail
  refine (HMA.out _ X1.out.low).mono ?_
  rintro e w2 ⟨rfl, hb⟩
  have X2 := hide (X1.out.later hb)
  obtain ⟨x0, x1, y0, y1, f0, f1⟩ := X2.out.facts
  clear hb
  go_wp2_with fail
  refine (HTU.out _ X2.out.low).mono ?_
  rintro e w3 ⟨v', rfl, hO, hb⟩
  obtain ⟨a4, c4, hv4⟩ := rm_lt (OM.rm hO)
  subst hv4
  have HO := hide hO
  have X3 := hide (X2.out.later hb)
  obtain ⟨x0, x1, y0, y1, f0, f1⟩ := X3.out.facts
  clear hb
  go_wp2_with fail
  obtain ⟨e1, e2, e3⟩ := turn_end (a2 := A2) X3.out.res (World.ownsRow.mono HO.out X2.out.low.size) X3.out.low (Nat.le_succ _)
  generalize ((w3.setCell ⟨w.heap.size + 1, 0, none⟩ (.int .i64 A2)).setCell ⟨w.heap.size + 1, 1, none⟩ (.slice a4 R.length c4)) = X at *
  obtain ⟨dd0, dd1⟩ := pair_cells e1 rfl
  exact bodyPost_ret (v := .tuple #[.agg #[.int .i64 A2, .slice a4 R.length c4], .int .i64 0]) (by simp [results, Tryd.results43, go_sem, dd0, dd1]) rfl ⟨⟨_, rfl, e2⟩, e3⟩
theorem rcredit_any (av q : Int) (v : Value) (L : List Mk) (w : World) (h : RM w v L) (ho : MOk L) (h1 : av ≤ top) (hq1 : q ≤ top) (hl : L.length ≤ 4611686018427387904) :
    Calls Tryd.prog 40 #[.agg #[.int .i64 av, v], .int .i64 q] w fun e w' => RAns w w' (creditO av L q) e ∧ Below w.heap.size w w' := by
  by_cases hck : (ck av L).1 = 0
  · by_cases hq : q < 1
    · exact rcredit_q av q v L w h ho h1 hq1 hl hck hq
    · by_cases hc : top < av + sm L + q
      · exact rcredit_o av q v L w h ho h1 hq1 hl hck hq hc
      · exact rcredit_k av q v L w h ho h1 hq1 hl hck hq hc
  · exact rcredit_c av q v L w h ho h1 hq1 hl hck
theorem rdebit_any (av q n : Int) (v : Value) (L : List Mk) (w : World) (h : RM w v L) (ho : MOk L) (h1 : av ≤ top) (hq1 : q ≤ top) (hl : L.length ≤ 4611686018427387904) :
    Calls Tryd.prog 41 #[.agg #[.int .i64 av, v], .int .i64 q, .int .i64 n] w fun e w' => RAns w w' (debitO av L q n) e ∧ Below w.heap.size w w' := by
  by_cases hck : (ck av L).1 = 0
  · by_cases hq : q < 1
    · exact rdebit_q av q n v L w h ho h1 hq1 hl hck hq
    · by_cases n1 : n < 0
      · exact rdebit_n1 av q n v L w h ho h1 hq1 hl hck hq n1
      · by_cases n2 : 65536 < n
        · exact rdebit_n2 av q n v L w h ho h1 hq1 hl hck hq n2
        · by_cases hc : av + mq n L < q
          · exact rdebit_s av q n v L w h ho h1 hq1 hl hck hq (by omega) (by omega) hc
          · by_cases hm : q ≤ mq n L
            · exact rdebit_m av q n v L w h ho h1 hq1 hl hck hq (by omega) (by omega) hc hm
            · exact rdebit_a av q n v L w h ho h1 hq1 hl hck hq (by omega) (by omega) hc hm
  · exact rdebit_c av q n v L w h ho h1 hq1 hl hck
theorem rmark_any (av q n : Int) (v : Value) (L : List Mk) (w : World) (h : RM w v L) (ho : MOk L) (h1 : av ≤ top) (hq1 : q ≤ top) (hl : L.length ≤ 4611686018427387904) :
    Calls Tryd.prog 42 #[.agg #[.int .i64 av, v], .int .i64 q, .int .i64 n] w fun e w' => RAns w w' (markO av L q n) e ∧ Below w.heap.size w w' := by
  by_cases hck : (ck av L).1 = 0
  · by_cases hq : q < 1
    · exact rmark_q av q n v L w h ho h1 hq1 hl hck hq
    · by_cases n1 : n < 1
      · exact rmark_n1 av q n v L w h ho h1 hq1 hl hck hq n1
      · by_cases n2 : 65536 < n
        · exact rmark_n2 av q n v L w h ho h1 hq1 hl hck hq n2
        · by_cases hc : av < q
          · exact rmark_s av q n v L w h ho h1 hq1 hl hck hq (by omega) (by omega) hc
          · by_cases hm : mq n L = 0
            · by_cases h88 : L.length = 8
              · exact rmark_f av q n v L w h ho h1 hq1 hl hck hq (by omega) (by omega) hc hm h88
              · exact rmark_k av q n v L w h ho h1 hq1 hl hck hq (by omega) (by omega) hc hm h88
            · exact rmark_l av q n v L w h ho h1 hq1 hl hck hq (by omega) (by omega) hc hm
  · exact rmark_c av q n v L w h ho h1 hq1 hl hck
theorem runmark_any (av q n : Int) (v : Value) (L : List Mk) (w : World) (h : RM w v L) (ho : MOk L) (h1 : av ≤ top) (hq1 : q ≤ top) (hl : L.length ≤ 4611686018427387904) :
    Calls Tryd.prog 43 #[.agg #[.int .i64 av, v], .int .i64 q, .int .i64 n] w fun e w' => RAns w w' (unmarkO av L q n) e ∧ Below w.heap.size w w' := by
  by_cases hck : (ck av L).1 = 0
  · by_cases hq : q < 1
    · exact runmark_q av q n v L w h ho h1 hq1 hl hck hq
    · by_cases n1 : n < 1
      · exact runmark_n1 av q n v L w h ho h1 hq1 hl hck hq n1
      · by_cases n2 : 65536 < n
        · exact runmark_n2 av q n v L w h ho h1 hq1 hl hck hq n2
        · by_cases hm : mq n L = 0
          · exact runmark_n3 av q n v L w h ho h1 hq1 hl hck hq (by omega) (by omega) hm
          · by_cases hc : mq n L < q
            · exact runmark_s av q n v L w h ho h1 hq1 hl hck hq (by omega) (by omega) hm hc
            · exact runmark_k av q n v L w h ho h1 hq1 hl hck hq (by omega) (by omega) hm hc
  · exact runmark_c av q n v L w h ho h1 hq1 hl hck

end Go.Proofs.YtmebomifakmkbaaDoor
