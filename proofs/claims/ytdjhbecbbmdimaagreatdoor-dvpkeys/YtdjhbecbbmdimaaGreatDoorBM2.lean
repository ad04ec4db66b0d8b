/-
  My own text: B6, B7, BM2 in one.
-/
import Derived.Test.YtdjhbecbbmdimaaGreatDoorB5
import Derived.Test.YtdjhbecbbmdimaaGreatDoorBE2
namespace Go.Proofs.YtdjhbecbbmdimaaGreatDoor.BL
open Go.RowKit

set_option maxRecDepth 100000 in
theorem turned_any (av a2 : Int) (v : Value) (L : List Mk) (n q : Int) (w : World) (h : RM w v L) (hr : Ri 0 L) (h8 : L.length ≤ 8) :
    Calls Tryz.prog 116 #[.agg #[.int .i64 av, v], .int .i64 a2, .int .i64 n, .int .i64 q] w fun e w' => ∃ v', e = .returned (.agg #[.int .i64 a2, v']) ∧ OM w' w.heap.size v' (setM n q L) ∧ Below w.heap.size w w' := by
  obtain ⟨a, cap, rfl, hcap, hc⟩ := id h
  rcases a with _ | ad
  · have hnil : L = [] := hc.resolve_right (fun ⟨_, _, e, _⟩ => by cases e)
    by_cases hq : 0 < q
    · exact turned_n01 av a2 cap L n q w h hr h8 hq (by rw [hnil]; rfl)
    · exact turned_n00 av a2 cap L n q w h hr h8 hq (by rw [hnil]; rfl)
  · rcases hc with hnil | ⟨b, off, e, _⟩
    · have hn : hasN n L = false := by rw [hnil]; rfl
      by_cases hct : cap = 0
      · subst hct
        by_cases hq : 0 < q
        · exact turned_k01 av a2 ad L n q w h hr h8 hq hn hnil
        · exact turned_k00 av a2 ad L n q w h hr h8 hq hn hnil
      · by_cases hq : 0 < q
        · exact turned_m01 av a2 ad cap L n q w h hr h8 hq hn hnil hct
        · exact turned_m00 av a2 ad cap L n q w h hr h8 hq hn hnil hct
    · cases e
      cases hn : hasN n L with
      | true =>
        by_cases hct : cap = lo n L + 1
        · by_cases hq : 0 < q
          · exact turned_e11 av a2 b off cap L n q w h hr h8 hq hn hct
          · exact turned_e10 av a2 b off cap L n q w h hr h8 hq hn hct
        · by_cases hq : 0 < q
          · exact turned_g11 av a2 b off cap L n q w h hr h8 hq hn hct
          · exact turned_g10 av a2 b off cap L n q w h hr h8 hq hn hct
      | false =>
        by_cases hct : cap = lo n L + 0
        · by_cases hq : 0 < q
          · exact turned_e01 av a2 b off cap L n q w h hr h8 hq hn hct
          · exact turned_e00 av a2 b off cap L n q w h hr h8 hq hn hct
        · by_cases hq : 0 < q
          · exact turned_g01 av a2 b off cap L n q w h hr h8 hq hn hct
          · exact turned_g00 av a2 b off cap L n q w h hr h8 hq hn hct
/-- What is wrong at the beginning: the error's type, and the error. -/
def bg (av : Int) (L : List Mk) (q : Int) : Option (TypeId × Value) :=
  if ¬ (ck av L).1 = 0 then some (201, .agg #[.int .i64 (ck av L).1, .int .i64 0, .int .i64 (ck av L).2]) else if q < 1 then some (52, .int .i64 16) else none
theorem bg_none {av q : Int} {L : List Mk} (h1 : av ≤ top) (h : bg av L q = none) : Rt av L ∧ 1 ≤ q := by
  unfold bg at h
  split at h
  · cases h
  · rename_i hc
    split at h
    · cases h
    · exact ⟨(ck_right h1).1 (by omega), by omega⟩
theorem ifNeq (t : TypeId) (x : Value) (W : World) : (binOp .neq 74 (.iface t x) .nilIface).run Tryz.prog W = .ok (.bool true) W := by kernel_rfl
theorem ifNeq0 (W : World) : (binOp .neq 74 .nilIface .nilIface).run Tryz.prog W = .ok (.bool false) W := by kernel_rfl
set_option maxRecDepth 100000 in
set_option maxHeartbeats 1000000 in
theorem begin_none (av q : Int) (v : Value) (L : List Mk) (w : World) (h : RM w v L) (ho : MOk L) (h1 : av ≤ top) (hl : L.length ≤ 4611686018427387904) (hb : bg av L q = none) :
    Calls Tryz.prog 113 #[.agg #[.int .i64 av, v], .int .i64 q] w fun e w' => e = .returned (.tuple #[.int .i64 (av + sm L), .nilIface]) ∧ Below w.heap.size w w' := by
  have HW := hide (fun (W : World) (hb : Below w.heap.size w W) => weigh_any av v L W (h.later hb) ho h1 hl)
  obtain ⟨a, cap, rfl, _, _⟩ := h
  obtain ⟨hR, hq⟩ := bg_none h1 hb
  rw [wgV_yes (ck_ok h1 hR)] at HW
  generalize av + sm L = T at *
  have B0 := hide ((Below.refl w.heap.size w).alloc (Nat.le_refl _) (.cells #[.int .i64 av, .slice a L.length cap] 60))
  obtain ⟨x0, x1⟩ := pair_cells (Px.new w av (.slice a L.length cap)) rfl
  have n0 := ifNeq0
  have d1 : decide (q < 1) = false := decide_eq_false (by omega)
  clear hR hq hb
  go_enter Tryz.func113, Tryz.ntmps113
  go_wp2_with fail
  refine (HW.out _ B0.out).mono ?_
  rintro e w1 ⟨rfl, hb⟩
  have HB := hide hb
  clear hb
  go_wp2_with fail
  go_ret2
  exact ⟨rfl, B0.out.trans (HB.out.mono B0.out.size)⟩
set_option maxRecDepth 100000 in
set_option maxHeartbeats 1000000 in
theorem begin_some (av q : Int) (v : Value) (L : List Mk) (w : World) (t : TypeId) (x : Value) (h : RM w v L) (ho : MOk L) (h1 : av ≤ top) (hl : L.length ≤ 4611686018427387904) (hb : bg av L q = some (t, x)) :
    Calls Tryz.prog 113 #[.agg #[.int .i64 av, v], .int .i64 q] w fun e w' => e = .returned (.tuple #[.int .i64 0, .iface t x]) ∧ Below w.heap.size w w' := by
  have HW := hide (fun (W : World) (hb : Below w.heap.size w W) => weigh_any av v L W (h.later hb) ho h1 hl)
  obtain ⟨a, cap, rfl, _, _⟩ := h
  have B0 := hide ((Below.refl w.heap.size w).alloc (Nat.le_refl _) (.cells #[.int .i64 av, .slice a L.length cap] 60))
  obtain ⟨x0, x1⟩ := pair_cells (Px.new w av (.slice a L.length cap)) rfl
  have n0 := ifNeq0
  have n1 := ifNeq
  by_cases hc : (ck av L).1 = 0
  · have hR := (ck_right h1).1 hc
    rw [wgV_yes (ck_ok h1 hR)] at HW
    unfold bg at hb
    rw [if_neg (by simpa using hc)] at hb
    by_cases hq : q < 1
    · rw [if_pos hq] at hb
      cases hb
      generalize av + sm L = T at *
      have d1 : decide (q < 1) = true := decide_eq_true hq
      clear hR hq hc
      go_enter Tryz.func113, Tryz.ntmps113
      go_wp2_with fail
      refine (HW.out _ B0.out).mono ?_
      rintro e w1 ⟨rfl, hb⟩
      have HB := hide hb
      clear hb
      go_wp2_with fail
      go_ret2
      exact ⟨rfl, B0.out.trans (HB.out.mono B0.out.size)⟩
    · rw [if_neg hq] at hb; cases hb
  · unfold bg at hb
    rw [if_pos hc] at hb
    rw [wgV_no (n := (ck av L).1) (k := (ck av L).2) rfl hc] at HW
    cases hb
    unfold fltV at HW
    generalize (ck av L).1 = c1 at *
    generalize (ck av L).2 = c2 at *
    clear hc
    go_enter Tryz.func113, Tryz.ntmps113
    go_wp2_with fail
    refine (HW.out _ B0.out).mono ?_
    rintro e w1 ⟨rfl, hb⟩
    have HB := hide hb
    clear hb
    go_wp2_with fail
    go_ret2
    exact ⟨rfl, B0.out.trans (HB.out.mono B0.out.size)⟩
/-- No position. -/
abbrev posZ : Value := .agg #[.int .i64 0, .slice Option.none 0 0]
set_option maxRecDepth 100000 in
set_option maxHeartbeats 1000000 in
theorem refuse_any (s : List UInt8) (t : TypeId) (x : Value) (w : World) :
    Calls Tryz.prog 114 #[.string ⟨s.toArray⟩, .iface t x] w fun e w' => e = .returned (.tuple #[posZ, refV s (.iface t x)]) ∧ Below w.heap.size w w' := by
  have B0 := hide ((Below.refl w.heap.size w).alloc (Nat.le_refl _) (.cells #[.int .i64 0, .slice Option.none 0 0] 60))
  have Y0 := alloc_new w (.cells #[.int .i64 0, .slice Option.none 0 0] 60)
  obtain ⟨x0, x1⟩ := pair_cells Y0 rfl
  clear Y0
  go_enter Tryz.func114, Tryz.ntmps114
  go_wp2_with fail
  exact bodyPost_ret (v := .tuple #[posZ, refV s (.iface t x)]) (by simp [results, Tryz.results114, go_sem, refV]) rfl ⟨rfl, B0.out⟩
def mkdV (av : Int) (L : List Mk) (n : Int) : Int := if (ck av L).1 = 0 then mq n L else 0
def covV (av : Int) (L : List Mk) (n : Int) : Int := if (ck av L).1 = 0 then av + mq n L else 0
theorem ckE_yes {r : Int × Int} (h : r.1 = 0) : ckE r = .nilIface := if_pos h
theorem ckE_no {r : Int × Int} (h : ¬ r.1 = 0) : ckE r = .iface 201 (.agg #[.int .i64 r.1, .int .i64 0, .int .i64 r.2]) := if_neg h
end Go.Proofs.YtdjhbecbbmdimaaGreatDoor.BL
namespace Go.Proofs.YtdjhbecbbmdimaaGreatDoor.BL
open Go.RowKit

/-- What a call comes to: a position, or an error's type and the error. -/
inductive Out where
  | ok (av : Int) (L : List Mk)
  | no (t : TypeId) (x : Value)
abbrev eno (k : Int) : Out := .no 52 (.int .i64 k)
def creditO (av : Int) (L : List Mk) (q : Int) : Out := match bg av L q with
  | some (t, x) => .no t x
  | none => if top < av + sm L + q then eno 9 else .ok (av + q) (setM 0 0 L)
def debitO (av : Int) (L : List Mk) (q n : Int) : Out := match bg av L q with
  | some (t, x) => .no t x
  | none => if n < 0 ∨ 65536 < n then eno 19 else if av + mq n L < q then eno 18 else if q ≤ mq n L then .ok av (setM n (mq n L - q) L) else .ok (av - (q - mq n L)) (setM n 0 L)
def markO (av : Int) (L : List Mk) (q n : Int) : Out := match bg av L q with
  | some (t, x) => .no t x
  | none => if n < 1 ∨ 65536 < n then eno 19 else if av < q then eno 18 else if mq n L = 0 ∧ L.length = 8 then eno 5 else .ok (av - q) (setM n (mq n L + q) L)
def unmarkO (av : Int) (L : List Mk) (q n : Int) : Out := match bg av L q with
  | some (t, x) => .no t x
  | none => if mq n L = 0 then eno 19 else if mq n L < q then eno 18 else .ok (av + q) (setM n (mq n L - q) L)
/-- What a call answers. -/
def Ans (w w' : World) (s : List UInt8) (o : Out) (e : Ending) : Prop := match o with
  | .no t x => e = .returned (.tuple #[posZ, refV s (.iface t x)])
  | .ok a M => ∃ v, e = .returned (.tuple #[.agg #[.int .i64 a, v], .nilIface]) ∧ OM w' w.heap.size v M
/-- The parameter's box and the result's. -/
structure Bx2 (w : World) (av : Int) (v : Value) (W : World) : Prop where
  low : Below w.heap.size w W
  par : W.heap[w.heap.size]? = some (.cells #[.int .i64 av, v] 60 (0, 0))
  res : W.heap[w.heap.size + 1]? = some (.cells #[.int .i64 0, .slice Option.none 0 0] 60 (0, 0))
theorem Bx2.later {w W W' : World} {av : Int} {v : Value} (h : Bx2 w av v W) (hb : Below W.heap.size W W') : Bx2 w av v W' := ⟨h.low.trans (hb.mono h.low.size), blk_later h.par hb, blk_later h.res hb⟩
theorem Bx2.new (w : World) (av : Int) (v : Value) : Bx2 w av v ((w.alloc (.cells #[.int .i64 av, v] 60)).alloc (.cells #[.int .i64 0, .slice Option.none 0 0] 60)) := by
  refine ⟨((Below.refl w.heap.size w).alloc (Nat.le_refl _) _).alloc (by simp) _, alloc_block (alloc_new w _), ?_⟩
  have := alloc_new (w.alloc (.cells #[.int .i64 av, v] 60)) (.cells #[.int .i64 0, .slice Option.none 0 0] 60)
  rw [show (w.alloc (.cells #[.int .i64 av, v] 60)).heap.size = w.heap.size + 1 by simp] at this
  exact this
theorem Bx2.facts {w W : World} {av : Int} {v : Value} (h : Bx2 w av v W) : W.cell? ⟨w.heap.size, 0, none⟩ = some (.int .i64 av) ∧ W.cell? ⟨w.heap.size, 1, none⟩ = some v ∧ W.cell? ⟨w.heap.size + 1, 0, none⟩ = some (.int .i64 0) ∧ W.cell? ⟨w.heap.size + 1, 1, none⟩ = some (.slice Option.none 0 0) ∧ W.frozen? ⟨w.heap.size + 1, 0, none⟩ = false ∧ W.frozen? ⟨w.heap.size + 1, 1, none⟩ = false := by
  obtain ⟨x0, x1⟩ := pair_cells h.par rfl
  obtain ⟨y0, y1⟩ := pair_cells h.res rfl
  have hr := h.res
  exact ⟨x0, x1, y0, y1, by unfold World.frozen?; simp [hr], by unfold World.frozen?; simp [hr]⟩
theorem refuse_end {w W : World} {av : Int} {v : Value} (h : Bx2 w av v W) :
    ((W.setCell ⟨w.heap.size + 1, 0, none⟩ (.int .i64 0)).setCell ⟨w.heap.size + 1, 1, none⟩ (.slice Option.none 0 0)).heap[w.heap.size + 1]? = some (.cells #[.int .i64 0, .slice Option.none 0 0] 60 (0, 0)) ∧ Below w.heap.size w ((W.setCell ⟨w.heap.size + 1, 0, none⟩ (.int .i64 0)).setCell ⟨w.heap.size + 1, 1, none⟩ (.slice Option.none 0 0)) :=
  ⟨set2 h.res, (h.low.setCell (p := ⟨w.heap.size + 1, 0, none⟩) (Nat.le_succ _) _).setCell (p := ⟨w.heap.size + 1, 1, none⟩) (Nat.le_succ _) _⟩
set_option maxRecDepth 100000 in
set_option maxHeartbeats 2000000 in
theorem credit_b (av q : Int) (v : Value) (L : List Mk) (w : World) (t : TypeId) (x : Value) (h : RM w v L) (ho : MOk L) (h1 : av ≤ top) (hq1 : q ≤ top) (hl : L.length ≤ 4611686018427387904) (hb : bg av L q = some (t, x)) :
    Calls Tryz.prog 79 #[.agg #[.int .i64 av, v], .int .i64 q] w fun e w' => Ans w w' [99, 114, 101, 100, 105, 116] (creditO av L q) e ∧ Below w.heap.size w w' := by
  have HQ1 := hide hq1
  clear HQ1
  have HRM := hide h
  obtain ⟨a, cap, rfl, _, _⟩ := h
  have HBG := hide (fun (W : World) (hw : Below w.heap.size w W) => begin_some av q _ L W t x (HRM.out.later hw) ho h1 hl hb)
  rw [show creditO av L q = .no t x by unfold creditO; rw [hb]]
  have n0 := ifNeq0
  have n1 := ifNeq
  have X0 := hide (Bx2.new w av (.slice a L.length cap))
  obtain ⟨x0, x1, y0, y1, f0, f1⟩ := X0.out.facts
  have HRF := hide (fun W => refuse_any [99, 114, 101, 100, 105, 116] t x W)
  clear hb
  go_enter Tryz.func79, Tryz.ntmps79
  go_wp2_with fail
  refine (HBG.out _ X0.out.low).mono ?_
  rintro e w1 ⟨rfl, hb⟩
  have X1 := hide (X0.out.later hb)
  obtain ⟨x0, x1, y0, y1, f0, f1⟩ := X1.out.facts
  clear hb
  go_wp2_with fail
  refine (HRF.out _).mono ?_
  rintro e w2 ⟨rfl, hb⟩
  have X2 := hide (X1.out.later hb)
  obtain ⟨x0, x1, y0, y1, f0, f1⟩ := X2.out.facts
  clear hb
  unfold refV
  go_wp2_with fail
  obtain ⟨e1, e3⟩ := refuse_end X2.out
  generalize ((w2.setCell ⟨w.heap.size + 1, 0, none⟩ (.int .i64 0)).setCell ⟨w.heap.size + 1, 1, none⟩ (.slice Option.none 0 0)) = X at *
  obtain ⟨dd0, dd1⟩ := pair_cells e1 rfl
  exact bodyPost_ret (v := .tuple #[posZ, refV [99, 114, 101, 100, 105, 116] (.iface t x)]) (by simp [results, Tryz.results79, go_sem, dd0, dd1, refV]) rfl ⟨rfl, e3⟩
set_option maxRecDepth 100000 in
set_option maxHeartbeats 2000000 in
theorem credit_o (av q : Int) (v : Value) (L : List Mk) (w : World) (h : RM w v L) (ho : MOk L) (h1 : av ≤ top) (hq1 : q ≤ top) (hl : L.length ≤ 4611686018427387904) (hb : bg av L q = none) (hc : top < av + sm L + q) :
    Calls Tryz.prog 79 #[.agg #[.int .i64 av, v], .int .i64 q] w fun e w' => Ans w w' [99, 114, 101, 100, 105, 116] (creditO av L q) e ∧ Below w.heap.size w w' := by
  have HQ1 := hide hq1
  clear HQ1
  have HRM := hide h
  obtain ⟨a, cap, rfl, _, _⟩ := h
  have HBG := hide (fun (W : World) (hw : Below w.heap.size w W) => begin_none av q _ L W (HRM.out.later hw) ho h1 hl hb)
  obtain ⟨hR, hq⟩ := bg_none h1 hb
  have hav := hR.av0
  have hal := hR.all
  have htop : top = 9223372036854775807 := rfl
  have hsm := sm_pos hR.ri
  rw [show creditO av L q = eno 9 by unfold creditO; rw [hb]; exact if_pos hc]
  have e := add_over (a := av + sm L) (b := q) (by omega) (by omega)
  have HAR := hide (fun W => add_any (av + sm L) q W hal hq1)
  rw [e.1, e.2, show errV 9 = .iface 52 (.int .i64 9) from rfl] at HAR
  have HRF := hide (fun W => refuse_any [99, 114, 101, 100, 105, 116] 52 (.int .i64 9) W)
  have n0 := ifNeq0
  have n1 := ifNeq
  have X0 := hide (Bx2.new w av (.slice a L.length cap))
  obtain ⟨x0, x1, y0, y1, f0, f1⟩ := X0.out.facts
  generalize av + sm L = T at *
  clear hb hR hq hav hal htop hsm hc e
  go_enter Tryz.func79, Tryz.ntmps79
  go_wp2_with fail
  refine (HBG.out _ X0.out.low).mono ?_
  rintro e w1 ⟨rfl, hb⟩
  have X1 := hide (X0.out.later hb)
  obtain ⟨x0, x1, y0, y1, f0, f1⟩ := X1.out.facts
  clear hb
  go_wp2_with fail
  refine (HAR.out _).mono ?_
  rintro e w' ⟨rfl, hw⟩
  have hw' := hw.symm
  clear hw
  subst hw'
  go_wp2_with fail
  refine (HRF.out _).mono ?_
  rintro e w2 ⟨rfl, hb⟩
  have X2 := hide (X1.out.later hb)
  obtain ⟨x0, x1, y0, y1, f0, f1⟩ := X2.out.facts
  clear hb
  unfold refV
  go_wp2_with fail
  obtain ⟨e1, e3⟩ := refuse_end X2.out
  generalize ((w2.setCell ⟨w.heap.size + 1, 0, none⟩ (.int .i64 0)).setCell ⟨w.heap.size + 1, 1, none⟩ (.slice Option.none 0 0)) = X at *
  obtain ⟨dd0, dd1⟩ := pair_cells e1 rfl
  exact bodyPost_ret (v := .tuple #[posZ, refV [99, 114, 101, 100, 105, 116] (.iface 52 (.int .i64 9))]) (by simp [results, Tryz.results79, go_sem, dd0, dd1, refV]) rfl ⟨rfl, e3⟩
set_option maxRecDepth 100000 in
set_option maxHeartbeats 2000000 in
theorem credit_k (av q : Int) (v : Value) (L : List Mk) (w : World) (h : RM w v L) (ho : MOk L) (h1 : av ≤ top) (hq1 : q ≤ top) (hl : L.length ≤ 4611686018427387904) (hb : bg av L q = none) (hc : ¬ top < av + sm L + q) :
    Calls Tryz.prog 79 #[.agg #[.int .i64 av, v], .int .i64 q] w fun e w' => Ans w w' [99, 114, 101, 100, 105, 116] (creditO av L q) e ∧ Below w.heap.size w w' := by
  have HQ1 := hide hq1
  clear HQ1
  have HRM := hide h
  obtain ⟨a, cap, rfl, _, _⟩ := h
  have HBG := hide (fun (W : World) (hw : Below w.heap.size w W) => begin_none av q _ L W (HRM.out.later hw) ho h1 hl hb)
  obtain ⟨hR, hq⟩ := bg_none h1 hb
  have hav := hR.av0
  have hal := hR.all
  have htop : top = 9223372036854775807 := rfl
  have hsm := sm_pos hR.ri
  rw [show creditO av L q = .ok (av + q) (setM 0 0 L) by unfold creditO; rw [hb]; exact if_neg hc]
  have e := add_ok (a := av + sm L) (b := q) (by omega) (by omega)
  have HAR := hide (fun W => add_any (av + sm L) q W hal hq1)
  rw [e.1, e.2, show errV 0 = .nilIface from rfl] at HAR
  have hw1 : wrap64 (av + q) = av + q := by unfold wrap64; omega
  have HTU := hide (fun (W : World) (hw : Below w.heap.size w W) => turned_any av (av + q) _ L (0) (0) W (HRM.out.later hw) hR.ri hR.few)
  generalize setM (0) (0) L = R at *
  have n0 := ifNeq0
  have n1 := ifNeq
  have X0 := hide (Bx2.new w av (.slice a L.length cap))
  obtain ⟨x0, x1, y0, y1, f0, f1⟩ := X0.out.facts
  generalize av + sm L + q = T2 at *
  generalize av + sm L = T at *
  obtain ⟨A2, hA2⟩ : ∃ A2, av + q = A2 := ⟨_, rfl⟩
  rw [hA2] at hw1 HTU ⊢
  have hw1' : wrap64 (av + q) = A2 := by rw [hA2]; exact hw1
  have hw2 : IntKind.i64.wrap (av + q) = A2 := by rw [IntKind.wrap_i64, hA2]; unfold wrap64 at hw1; exact hw1
  have HA2 := hide hA2
  clear hb hR hq hav hal htop hsm hc e hA2 hw1
  go_enter Tryz.func79, Tryz.ntmps79
  go_wp2_with fail
  refine (HBG.out _ X0.out.low).mono ?_
  rintro e w1 ⟨rfl, hb⟩
  have X1 := hide (X0.out.later hb)
  obtain ⟨x0, x1, y0, y1, f0, f1⟩ := X1.out.facts
  clear hb
  go_wp2_with fail
  refine (HAR.out _).mono ?_
  rintro e w' ⟨rfl, hw⟩
  have hw' := hw.symm
  clear hw
  subst hw'
  go_wp2_with fail
  refine (HTU.out _ X1.out.low).mono ?_
  rintro e w2 ⟨v', rfl, hO, hb⟩
  obtain ⟨a4, c4, hv4⟩ := rm_lt (OM.rm hO)
  subst hv4
  have HO := hide hO
  have X2 := hide (X1.out.later hb)
  obtain ⟨x0, x1, y0, y1, f0, f1⟩ := X2.out.facts
  clear hb
  go_wp2_with fail
  obtain ⟨e1, e2, e3⟩ := turn_end (a2 := A2) X2.out.res (World.ownsRow.mono HO.out X1.out.low.size) X2.out.low (Nat.le_succ _)
  generalize ((w2.setCell ⟨w.heap.size + 1, 0, none⟩ (.int .i64 A2)).setCell ⟨w.heap.size + 1, 1, none⟩ (.slice a4 R.length c4)) = X at *
  obtain ⟨dd0, dd1⟩ := pair_cells e1 rfl
  exact bodyPost_ret (v := .tuple #[.agg #[.int .i64 A2, .slice a4 R.length c4], .nilIface]) (by simp [results, Tryz.results79, go_sem, dd0, dd1]) rfl ⟨⟨_, rfl, e2⟩, e3⟩
set_option maxRecDepth 100000 in
set_option maxHeartbeats 2000000 in
theorem debit_b (av q n : Int) (v : Value) (L : List Mk) (w : World) (t : TypeId) (x : Value) (h : RM w v L) (ho : MOk L) (h1 : av ≤ top) (hq1 : q ≤ top) (hl : L.length ≤ 4611686018427387904) (hb : bg av L q = some (t, x)) :
    Calls Tryz.prog 80 #[.agg #[.int .i64 av, v], .int .i64 q, .int .i64 n] w fun e w' => Ans w w' [100, 101, 98, 105, 116] (debitO av L q n) e ∧ Below w.heap.size w w' := by
  have HQ1 := hide hq1
  clear HQ1
  have HRM := hide h
  obtain ⟨a, cap, rfl, _, _⟩ := h
  have HBG := hide (fun (W : World) (hw : Below w.heap.size w W) => begin_some av q _ L W t x (HRM.out.later hw) ho h1 hl hb)
  rw [show debitO av L q n = .no t x by unfold debitO; rw [hb]]
  have n0 := ifNeq0
  have n1 := ifNeq
  have X0 := hide (Bx2.new w av (.slice a L.length cap))
  obtain ⟨x0, x1, y0, y1, f0, f1⟩ := X0.out.facts
  have HRF := hide (fun W => refuse_any [100, 101, 98, 105, 116] t x W)
  clear hb
  go_enter Tryz.func80, Tryz.ntmps80
  go_wp2_with fail
  refine (HBG.out _ X0.out.low).mono ?_
  rintro e w1 ⟨rfl, hb⟩
  have X1 := hide (X0.out.later hb)
  obtain ⟨x0, x1, y0, y1, f0, f1⟩ := X1.out.facts
  clear hb
  go_wp2_with fail
  refine (HRF.out _).mono ?_
  rintro e w2 ⟨rfl, hb⟩
  have X2 := hide (X1.out.later hb)
  obtain ⟨x0, x1, y0, y1, f0, f1⟩ := X2.out.facts
  clear hb
  unfold refV
  go_wp2_with fail
  obtain ⟨e1, e3⟩ := refuse_end X2.out
  generalize ((w2.setCell ⟨w.heap.size + 1, 0, none⟩ (.int .i64 0)).setCell ⟨w.heap.size + 1, 1, none⟩ (.slice Option.none 0 0)) = X at *
  obtain ⟨dd0, dd1⟩ := pair_cells e1 rfl
  exact bodyPost_ret (v := .tuple #[posZ, refV [100, 101, 98, 105, 116] (.iface t x)]) (by simp [results, Tryz.results80, go_sem, dd0, dd1, refV]) rfl ⟨rfl, e3⟩
set_option maxRecDepth 100000 in
set_option maxHeartbeats 2000000 in
theorem debit_n (av q n : Int) (v : Value) (L : List Mk) (w : World) (h : RM w v L) (ho : MOk L) (h1 : av ≤ top) (hq1 : q ≤ top) (hl : L.length ≤ 4611686018427387904) (hb : bg av L q = none) (hn : n < 0 ∨ 65536 < n) :
    Calls Tryz.prog 80 #[.agg #[.int .i64 av, v], .int .i64 q, .int .i64 n] w fun e w' => Ans w w' [100, 101, 98, 105, 116] (debitO av L q n) e ∧ Below w.heap.size w w' := by
  have HQ1 := hide hq1
  clear HQ1
  have HRM := hide h
  obtain ⟨a, cap, rfl, _, _⟩ := h
  have HBG := hide (fun (W : World) (hw : Below w.heap.size w W) => begin_none av q _ L W (HRM.out.later hw) ho h1 hl hb)
  obtain ⟨hR, hq⟩ := bg_none h1 hb
  have hav := hR.av0
  have hal := hR.all
  have htop : top = 9223372036854775807 := rfl
  have hmq := mq_ge (n := n) hR.ri
  rw [show debitO av L q n = eno 19 by unfold debitO; rw [hb]; exact if_pos hn]
  have HIN := hide (fun W => isName_any n W)
  rw [show (decide (0 < n) && decide (n ≤ 65536)) = false by rw [Bool.and_eq_false_iff, decide_eq_false_iff_not, decide_eq_false_iff_not]; omega] at HIN
  have hz : (n != 0) = true := by rw [bne_iff_ne]; omega
  have hz2 : ¬ n = 0 := by omega
  have HRF := hide (fun W => refuse_any [100, 101, 98, 105, 116] 52 (.int .i64 19) W)
  have n0 := ifNeq0
  have n1 := ifNeq
  have X0 := hide (Bx2.new w av (.slice a L.length cap))
  obtain ⟨x0, x1, y0, y1, f0, f1⟩ := X0.out.facts
  generalize av + sm L = T at *
  clear hb hR hq hav hal htop hmq hn
  go_enter Tryz.func80, Tryz.ntmps80
  go_wp2_with fail
  refine (HBG.out _ X0.out.low).mono ?_
  rintro e w1 ⟨rfl, hb⟩
  have X1 := hide (X0.out.later hb)
  obtain ⟨x0, x1, y0, y1, f0, f1⟩ := X1.out.facts
  clear hb
  go_wp2_with fail
  refine (HIN.out _).mono ?_
  rintro e w' ⟨rfl, hw⟩
  have hw' := hw.symm
  clear hw
  subst hw'
  go_wp2_with fail
  refine (HRF.out _).mono ?_
  rintro e w2 ⟨rfl, hb⟩
  have X2 := hide (X1.out.later hb)
  obtain ⟨x0, x1, y0, y1, f0, f1⟩ := X2.out.facts
  clear hb
  unfold refV
  go_wp2_with fail
  obtain ⟨e1, e3⟩ := refuse_end X2.out
  generalize ((w2.setCell ⟨w.heap.size + 1, 0, none⟩ (.int .i64 0)).setCell ⟨w.heap.size + 1, 1, none⟩ (.slice Option.none 0 0)) = X at *
  obtain ⟨dd0, dd1⟩ := pair_cells e1 rfl
  exact bodyPost_ret (v := .tuple #[posZ, refV [100, 101, 98, 105, 116] (.iface 52 (.int .i64 19))]) (by simp [results, Tryz.results80, go_sem, dd0, dd1, refV]) rfl ⟨rfl, e3⟩
set_option maxRecDepth 100000 in
set_option maxHeartbeats 2000000 in
theorem debit_s0 (av q n : Int) (v : Value) (L : List Mk) (w : World) (h : RM w v L) (ho : MOk L) (h1 : av ≤ top) (hq1 : q ≤ top) (hl : L.length ≤ 4611686018427387904) (hb : bg av L q = none) (hz0 : n = 0) (hc : av + mq n L < q) :
    Calls Tryz.prog 80 #[.agg #[.int .i64 av, v], .int .i64 q, .int .i64 n] w fun e w' => Ans w w' [100, 101, 98, 105, 116] (debitO av L q n) e ∧ Below w.heap.size w w' := by
  have HQ1 := hide hq1
  clear HQ1
  have HRM := hide h
  obtain ⟨a, cap, rfl, _, _⟩ := h
  have HBG := hide (fun (W : World) (hw : Below w.heap.size w W) => begin_none av q _ L W (HRM.out.later hw) ho h1 hl hb)
  obtain ⟨hR, hq⟩ := bg_none h1 hb
  have hav := hR.av0
  have hal := hR.all
  have htop : top = 9223372036854775807 := rfl
  have hmq := mq_ge (n := n) hR.ri
  rw [show debitO av L q n = eno 18 by unfold debitO; rw [hb]; rw [if_neg (by omega : ¬ (n < 0 ∨ 65536 < n))]; exact if_pos hc]
  have hz : (n != 0) = false := by rw [bne_eq_false_iff_eq]; exact hz0
  have HUN := hide (fun (W : World) (hw : Below w.heap.size w W) => under_any _ L n W (HRM.out.later hw) hR.ri hR.few)
  have e := sub_short (a := av) (b := q - mq n L) (by omega) (by omega)
  have HAR := hide (fun W => sub_any av (q - mq n L) W h1 (by omega))
  rw [e.2, e.1, show errV 2 = .iface 52 (.int .i64 2) from rfl] at HAR
  have HRF := hide (fun W => refuse_any [100, 101, 98, 105, 116] 52 (.int .i64 18) W)
  have n0 := ifNeq0
  have n1 := ifNeq
  have X0 := hide (Bx2.new w av (.slice a L.length cap))
  obtain ⟨x0, x1, y0, y1, f0, f1⟩ := X0.out.facts
  generalize mq n L = m at *
  have hw1 : wrap64 (q - m) = q - m := by unfold wrap64; omega
  have hw2 : IntKind.i64.wrap (q - m) = q - m := by rw [IntKind.wrap_i64]; omega
  have hm1 : m < q := by omega
  have hm2 : ¬ q < m := by omega
  have hm3 : min m q = m := by omega
  generalize av + sm L = T at *
  clear hb hR hq hav hal htop hmq hc e hz0
  go_enter Tryz.func80, Tryz.ntmps80
  go_wp2_with fail
  refine (HBG.out _ X0.out.low).mono ?_
  rintro e w1 ⟨rfl, hb⟩
  have X1 := hide (X0.out.later hb)
  obtain ⟨x0, x1, y0, y1, f0, f1⟩ := X1.out.facts
  clear hb
  go_wp2_with fail
  refine (HUN.out _ X1.out.low).mono ?_
  rintro e w2 ⟨rfl, hb⟩
  have X2 := hide (X1.out.later hb)
  obtain ⟨x0, x1, y0, y1, f0, f1⟩ := X2.out.facts
  clear hb
  go_wp2_with fail
  refine (HAR.out _).mono ?_
  rintro e w' ⟨rfl, hw⟩
  have hw' := hw.symm
  clear hw
  subst hw'
  go_wp2_with fail
  refine (HRF.out _).mono ?_
  rintro e w3 ⟨rfl, hb⟩
  have X3 := hide (X2.out.later hb)
  obtain ⟨x0, x1, y0, y1, f0, f1⟩ := X3.out.facts
  clear hb
  unfold refV
  go_wp2_with fail
  obtain ⟨e1, e3⟩ := refuse_end X3.out
  generalize ((w3.setCell ⟨w.heap.size + 1, 0, none⟩ (.int .i64 0)).setCell ⟨w.heap.size + 1, 1, none⟩ (.slice Option.none 0 0)) = X at *
  obtain ⟨dd0, dd1⟩ := pair_cells e1 rfl
  exact bodyPost_ret (v := .tuple #[posZ, refV [100, 101, 98, 105, 116] (.iface 52 (.int .i64 18))]) (by simp [results, Tryz.results80, go_sem, dd0, dd1, refV]) rfl ⟨rfl, e3⟩
set_option maxRecDepth 100000 in
set_option maxHeartbeats 2000000 in
theorem debit_m0 (av q n : Int) (v : Value) (L : List Mk) (w : World) (h : RM w v L) (ho : MOk L) (h1 : av ≤ top) (hq1 : q ≤ top) (hl : L.length ≤ 4611686018427387904) (hb : bg av L q = none) (hz0 : n = 0) (hc : ¬ av + mq n L < q) (hm : q < mq n L) :
    Calls Tryz.prog 80 #[.agg #[.int .i64 av, v], .int .i64 q, .int .i64 n] w fun e w' => Ans w w' [100, 101, 98, 105, 116] (debitO av L q n) e ∧ Below w.heap.size w w' := by
  have HQ1 := hide hq1
  clear HQ1
  have HRM := hide h
  obtain ⟨a, cap, rfl, _, _⟩ := h
  have HBG := hide (fun (W : World) (hw : Below w.heap.size w W) => begin_none av q _ L W (HRM.out.later hw) ho h1 hl hb)
  obtain ⟨hR, hq⟩ := bg_none h1 hb
  have hav := hR.av0
  have hal := hR.all
  have htop : top = 9223372036854775807 := rfl
  have hmq := mq_ge (n := n) hR.ri
  rw [show debitO av L q n = .ok av (setM n (mq n L - q) L) by unfold debitO; rw [hb]; rw [if_neg (by omega : ¬ (n < 0 ∨ 65536 < n)), if_neg hc]; exact if_pos (by omega)]
  have hz : (n != 0) = false := by rw [bne_eq_false_iff_eq]; exact hz0
  have HUN := hide (fun (W : World) (hw : Below w.heap.size w W) => under_any _ L n W (HRM.out.later hw) hR.ri hR.few)
  have e := sub_ok (a := av) (b := 0) (by omega) (by omega)
  have HAR := hide (fun W => sub_any av 0 W h1 (by omega))
  rw [e.2, e.1, Int.sub_zero, show errV 0 = .nilIface from rfl] at HAR
  have HTU := hide (fun (W : World) (hw : Below w.heap.size w W) => turned_any av (av) _ L (n) (mq n L - q) W (HRM.out.later hw) hR.ri hR.few)
  generalize setM (n) (mq n L - q) L = R at *
  have n0 := ifNeq0
  have n1 := ifNeq
  have X0 := hide (Bx2.new w av (.slice a L.length cap))
  obtain ⟨x0, x1, y0, y1, f0, f1⟩ := X0.out.facts
  obtain ⟨A2, hA2⟩ : ∃ A2, A2 = av := ⟨_, rfl⟩
  generalize mq n L = m at *
  have hw1 : wrap64 (m - q) = m - q := by unfold wrap64; omega
  have hw2 : IntKind.i64.wrap (m - q) = m - q := by rw [IntKind.wrap_i64]; omega
  have hm3 : min m q = q := by omega
  have hqq : q - q = 0 := by omega
  have hm1 : ¬ m < q := by omega
  have hm4 : ¬ m ≤ q := by omega
  generalize av + sm L = T at *
  clear hb hR hq hav hal htop hmq hc e hz0 hm
  subst hA2
  go_enter Tryz.func80, Tryz.ntmps80
  go_wp2_with fail
  refine (HBG.out _ X0.out.low).mono ?_
  rintro e w1 ⟨rfl, hb⟩
  have X1 := hide (X0.out.later hb)
  obtain ⟨x0, x1, y0, y1, f0, f1⟩ := X1.out.facts
  clear hb
  go_wp2_with fail
  refine (HUN.out _ X1.out.low).mono ?_
  rintro e w2 ⟨rfl, hb⟩
  have X2 := hide (X1.out.later hb)
  obtain ⟨x0, x1, y0, y1, f0, f1⟩ := X2.out.facts
  clear hb
  go_wp2_with fail
  refine (HAR.out _).mono ?_
  rintro e w' ⟨rfl, hw⟩
  have hw' := hw.symm
  clear hw
  subst hw'
  go_wp2_with fail
  refine (HTU.out _ X2.out.low).mono ?_
  rintro e w3 ⟨v', rfl, hO, hb⟩
  obtain ⟨a4, c4, hv4⟩ := rm_lt (OM.rm hO)
  subst hv4
  have HO := hide hO
  have X3 := hide (X2.out.later hb)
  obtain ⟨x0, x1, y0, y1, f0, f1⟩ := X3.out.facts
  clear hb
  go_wp2_with fail
  obtain ⟨e1, e2, e3⟩ := turn_end (a2 := A2) X3.out.res (World.ownsRow.mono HO.out X2.out.low.size) X3.out.low (Nat.le_succ _)
  generalize ((w3.setCell ⟨w.heap.size + 1, 0, none⟩ (.int .i64 A2)).setCell ⟨w.heap.size + 1, 1, none⟩ (.slice a4 R.length c4)) = X at *
  obtain ⟨dd0, dd1⟩ := pair_cells e1 rfl
  exact bodyPost_ret (v := .tuple #[.agg #[.int .i64 A2, .slice a4 R.length c4], .nilIface]) (by simp [results, Tryz.results80, go_sem, dd0, dd1]) rfl ⟨⟨_, rfl, e2⟩, e3⟩
set_option maxRecDepth 100000 in
set_option maxHeartbeats 2000000 in
theorem debit_e0 (av q n : Int) (v : Value) (L : List Mk) (w : World) (h : RM w v L) (ho : MOk L) (h1 : av ≤ top) (hq1 : q ≤ top) (hl : L.length ≤ 4611686018427387904) (hb : bg av L q = none) (hz0 : n = 0) (hm : mq n L = q) :
    Calls Tryz.prog 80 #[.agg #[.int .i64 av, v], .int .i64 q, .int .i64 n] w fun e w' => Ans w w' [100, 101, 98, 105, 116] (debitO av L q n) e ∧ Below w.heap.size w w' := by
  have HQ1 := hide hq1
  clear HQ1
  have HRM := hide h
  obtain ⟨a, cap, rfl, _, _⟩ := h
  have HBG := hide (fun (W : World) (hw : Below w.heap.size w W) => begin_none av q _ L W (HRM.out.later hw) ho h1 hl hb)
  obtain ⟨hR, hq⟩ := bg_none h1 hb
  have hav := hR.av0
  have hal := hR.all
  have htop : top = 9223372036854775807 := rfl
  have hmq := mq_ge (n := n) hR.ri
  rw [show debitO av L q n = .ok av (setM n 0 L) by unfold debitO; rw [hb]; show (if n < 0 ∨ 65536 < n then eno 19 else if av + mq n L < q then eno 18 else if q ≤ mq n L then Out.ok av (setM n (mq n L - q) L) else _) = _; rw [if_neg (by omega : ¬ (n < 0 ∨ 65536 < n)), if_neg (by omega), if_pos (by omega), hm, Int.sub_self]]
  have hz : (n != 0) = false := by rw [bne_eq_false_iff_eq]; exact hz0
  have HUN := hide (fun (W : World) (hw : Below w.heap.size w W) => under_any _ L n W (HRM.out.later hw) hR.ri hR.few)
  have e := sub_ok (a := av) (b := 0) (by omega) (by omega)
  have HAR := hide (fun W => sub_any av 0 W h1 (by omega))
  rw [e.2, e.1, Int.sub_zero, show errV 0 = .nilIface from rfl] at HAR
  rw [hm] at HUN
  have HTU := hide (fun (W : World) (hw : Below w.heap.size w W) => turned_any av (av) _ L (n) (0) W (HRM.out.later hw) hR.ri hR.few)
  generalize setM (n) (0) L = R at *
  have n0 := ifNeq0
  have n1 := ifNeq
  have X0 := hide (Bx2.new w av (.slice a L.length cap))
  obtain ⟨x0, x1, y0, y1, f0, f1⟩ := X0.out.facts
  obtain ⟨A2, hA2⟩ : ∃ A2, A2 = av := ⟨_, rfl⟩
  have hm3 : min q q = q := by omega
  generalize av + sm L = T at *
  clear hb hR hq hav hal htop hmq hm e hz0
  subst hA2
  go_enter Tryz.func80, Tryz.ntmps80
  go_wp2_with fail
  refine (HBG.out _ X0.out.low).mono ?_
  rintro e w1 ⟨rfl, hb⟩
  have X1 := hide (X0.out.later hb)
  obtain ⟨x0, x1, y0, y1, f0, f1⟩ := X1.out.facts
  clear hb
  go_wp2_with fail
  refine (HUN.out _ X1.out.low).mono ?_
  rintro e w2 ⟨rfl, hb⟩
  have X2 := hide (X1.out.later hb)
  obtain ⟨x0, x1, y0, y1, f0, f1⟩ := X2.out.facts
  clear hb
  go_wp2_with fail
  refine (HAR.out _).mono ?_
  rintro e w' ⟨rfl, hw⟩
  have hw' := hw.symm
  clear hw
  subst hw'
  go_wp2_with fail
  refine (HTU.out _ X2.out.low).mono ?_
  rintro e w3 ⟨v', rfl, hO, hb⟩
  obtain ⟨a4, c4, hv4⟩ := rm_lt (OM.rm hO)
  subst hv4
  have HO := hide hO
  have X3 := hide (X2.out.later hb)
  obtain ⟨x0, x1, y0, y1, f0, f1⟩ := X3.out.facts
  clear hb
  go_wp2_with fail
  obtain ⟨e1, e2, e3⟩ := turn_end (a2 := A2) X3.out.res (World.ownsRow.mono HO.out X2.out.low.size) X3.out.low (Nat.le_succ _)
  generalize ((w3.setCell ⟨w.heap.size + 1, 0, none⟩ (.int .i64 A2)).setCell ⟨w.heap.size + 1, 1, none⟩ (.slice a4 R.length c4)) = X at *
  obtain ⟨dd0, dd1⟩ := pair_cells e1 rfl
  exact bodyPost_ret (v := .tuple #[.agg #[.int .i64 A2, .slice a4 R.length c4], .nilIface]) (by simp [results, Tryz.results80, go_sem, dd0, dd1]) rfl ⟨⟨_, rfl, e2⟩, e3⟩
set_option maxRecDepth 100000 in
set_option maxHeartbeats 2000000 in
theorem debit_a0 (av q n : Int) (v : Value) (L : List Mk) (w : World) (h : RM w v L) (ho : MOk L) (h1 : av ≤ top) (hq1 : q ≤ top) (hl : L.length ≤ 4611686018427387904) (hb : bg av L q = none) (hz0 : n = 0) (hc : ¬ av + mq n L < q) (hm : ¬ q ≤ mq n L) :
    Calls Tryz.prog 80 #[.agg #[.int .i64 av, v], .int .i64 q, .int .i64 n] w fun e w' => Ans w w' [100, 101, 98, 105, 116] (debitO av L q n) e ∧ Below w.heap.size w w' := by
  have HQ1 := hide hq1
  clear HQ1
  have HRM := hide h
  obtain ⟨a, cap, rfl, _, _⟩ := h
  have HBG := hide (fun (W : World) (hw : Below w.heap.size w W) => begin_none av q _ L W (HRM.out.later hw) ho h1 hl hb)
  obtain ⟨hR, hq⟩ := bg_none h1 hb
  have hav := hR.av0
  have hal := hR.all
  have htop : top = 9223372036854775807 := rfl
  have hmq := mq_ge (n := n) hR.ri
  rw [show debitO av L q n = .ok (av - (q - mq n L)) (setM n 0 L) by unfold debitO; rw [hb]; rw [if_neg (by omega : ¬ (n < 0 ∨ 65536 < n)), if_neg hc]; exact if_neg hm]
  have hz : (n != 0) = false := by rw [bne_eq_false_iff_eq]; exact hz0
  have HUN := hide (fun (W : World) (hw : Below w.heap.size w W) => under_any _ L n W (HRM.out.later hw) hR.ri hR.few)
  have e := sub_ok (a := av) (b := q - mq n L) (by omega) (by omega)
  have HAR := hide (fun W => sub_any av (q - mq n L) W h1 (by omega))
  rw [e.2, e.1, show errV 0 = .nilIface from rfl] at HAR
  have HTU := hide (fun (W : World) (hw : Below w.heap.size w W) => turned_any av (av - (q - mq n L)) _ L (n) (0) W (HRM.out.later hw) hR.ri hR.few)
  generalize setM (n) (0) L = R at *
  have n0 := ifNeq0
  have n1 := ifNeq
  have X0 := hide (Bx2.new w av (.slice a L.length cap))
  obtain ⟨x0, x1, y0, y1, f0, f1⟩ := X0.out.facts
  obtain ⟨A2, hA2⟩ : ∃ A2, av - (q - mq n L) = A2 := ⟨_, rfl⟩
  rw [hA2] at HTU HAR ⊢
  generalize mq n L = m at *
  have hw1 : wrap64 (q - m) = q - m := by unfold wrap64; omega
  have hw2 : IntKind.i64.wrap (q - m) = q - m := by rw [IntKind.wrap_i64]; omega
  have hm3 : min m q = m := by omega
  have hqq : m - m = 0 := by omega
  have hm1 : m < q := by omega
  have hm2 : ¬ q < m := by omega
  generalize av + sm L = T at *
  clear hb hR hq hav hal htop hmq hc e hz0 hm hA2
  go_enter Tryz.func80, Tryz.ntmps80
  go_wp2_with fail
  refine (HBG.out _ X0.out.low).mono ?_
  rintro e w1 ⟨rfl, hb⟩
  have X1 := hide (X0.out.later hb)
  obtain ⟨x0, x1, y0, y1, f0, f1⟩ := X1.out.facts
  clear hb
  go_wp2_with fail
  refine (HUN.out _ X1.out.low).mono ?_
  rintro e w2 ⟨rfl, hb⟩
  have X2 := hide (X1.out.later hb)
  obtain ⟨x0, x1, y0, y1, f0, f1⟩ := X2.out.facts
  clear hb
  go_wp2_with fail
  refine (HAR.out _).mono ?_
  rintro e w' ⟨rfl, hw⟩
  have hw' := hw.symm
  clear hw
  subst hw'
  go_wp2_with fail
  refine (HTU.out _ X2.out.low).mono ?_
  rintro e w3 ⟨v', rfl, hO, hb⟩
  obtain ⟨a4, c4, hv4⟩ := rm_lt (OM.rm hO)
  subst hv4
  have HO := hide hO
  have X3 := hide (X2.out.later hb)
  obtain ⟨x0, x1, y0, y1, f0, f1⟩ := X3.out.facts
  clear hb
  go_wp2_with fail
  obtain ⟨e1, e2, e3⟩ := turn_end (a2 := A2) X3.out.res (World.ownsRow.mono HO.out X2.out.low.size) X3.out.low (Nat.le_succ _)
  generalize ((w3.setCell ⟨w.heap.size + 1, 0, none⟩ (.int .i64 A2)).setCell ⟨w.heap.size + 1, 1, none⟩ (.slice a4 R.length c4)) = X at *
  obtain ⟨dd0, dd1⟩ := pair_cells e1 rfl
  exact bodyPost_ret (v := .tuple #[.agg #[.int .i64 A2, .slice a4 R.length c4], .nilIface]) (by simp [results, Tryz.results80, go_sem, dd0, dd1]) rfl ⟨⟨_, rfl, e2⟩, e3⟩
set_option maxRecDepth 100000 in
set_option maxHeartbeats 2000000 in
theorem debit_s1 (av q n : Int) (v : Value) (L : List Mk) (w : World) (h : RM w v L) (ho : MOk L) (h1 : av ≤ top) (hq1 : q ≤ top) (hl : L.length ≤ 4611686018427387904) (hb : bg av L q = none) (hz0 : 1 ≤ n) (hz1 : n ≤ 65536) (hc : av + mq n L < q) :
    Calls Tryz.prog 80 #[.agg #[.int .i64 av, v], .int .i64 q, .int .i64 n] w fun e w' => Ans w w' [100, 101, 98, 105, 116] (debitO av L q n) e ∧ Below w.heap.size w w' := by
  have HQ1 := hide hq1
  clear HQ1
  have HRM := hide h
  obtain ⟨a, cap, rfl, _, _⟩ := h
  have HBG := hide (fun (W : World) (hw : Below w.heap.size w W) => begin_none av q _ L W (HRM.out.later hw) ho h1 hl hb)
  obtain ⟨hR, hq⟩ := bg_none h1 hb
  have hav := hR.av0
  have hal := hR.all
  have htop : top = 9223372036854775807 := rfl
  have hmq := mq_ge (n := n) hR.ri
  rw [show debitO av L q n = eno 18 by unfold debitO; rw [hb]; rw [if_neg (by omega : ¬ (n < 0 ∨ 65536 < n))]; exact if_pos hc]
  have HIN := hide (fun W => isName_any n W)
  rw [show (decide (0 < n) && decide (n ≤ 65536)) = true by rw [Bool.and_eq_true, decide_eq_true_eq, decide_eq_true_eq]; omega] at HIN
  have hz : (n != 0) = true := by rw [bne_iff_ne]; omega
  have hz2 : ¬ n = 0 := by omega
  have HUN := hide (fun (W : World) (hw : Below w.heap.size w W) => under_any _ L n W (HRM.out.later hw) hR.ri hR.few)
  have e := sub_short (a := av) (b := q - mq n L) (by omega) (by omega)
  have HAR := hide (fun W => sub_any av (q - mq n L) W h1 (by omega))
  rw [e.2, e.1, show errV 2 = .iface 52 (.int .i64 2) from rfl] at HAR
  have HRF := hide (fun W => refuse_any [100, 101, 98, 105, 116] 52 (.int .i64 18) W)
  have n0 := ifNeq0
  have n1 := ifNeq
  have X0 := hide (Bx2.new w av (.slice a L.length cap))
  obtain ⟨x0, x1, y0, y1, f0, f1⟩ := X0.out.facts
  generalize mq n L = m at *
  have hw1 : wrap64 (q - m) = q - m := by unfold wrap64; omega
  have hw2 : IntKind.i64.wrap (q - m) = q - m := by rw [IntKind.wrap_i64]; omega
  have hm1 : m < q := by omega
  have hm2 : ¬ q < m := by omega
  have hm3 : min m q = m := by omega
  generalize av + sm L = T at *
  clear hb hR hq hav hal htop hmq hc e hz0 hz1
  go_enter Tryz.func80, Tryz.ntmps80
  go_wp2_with fail
  refine (HBG.out _ X0.out.low).mono ?_
  rintro e w1 ⟨rfl, hb⟩
  have X1 := hide (X0.out.later hb)
  obtain ⟨x0, x1, y0, y1, f0, f1⟩ := X1.out.facts
  clear hb
  go_wp2_with fail
  refine (HIN.out _).mono ?_
  rintro e w' ⟨rfl, hw⟩
  have hw' := hw.symm
  clear hw
  subst hw'
  go_wp2_with fail
  refine (HUN.out _ X1.out.low).mono ?_
  rintro e w2 ⟨rfl, hb⟩
  have X2 := hide (X1.out.later hb)
  obtain ⟨x0, x1, y0, y1, f0, f1⟩ := X2.out.facts
  clear hb
  go_wp2_with fail
  refine (HAR.out _).mono ?_
  rintro e w' ⟨rfl, hw⟩
  have hw' := hw.symm
  clear hw
  subst hw'
  go_wp2_with fail
  refine (HRF.out _).mono ?_
  rintro e w3 ⟨rfl, hb⟩
  have X3 := hide (X2.out.later hb)
  obtain ⟨x0, x1, y0, y1, f0, f1⟩ := X3.out.facts
  clear hb
  unfold refV
  go_wp2_with fail
  obtain ⟨e1, e3⟩ := refuse_end X3.out
  generalize ((w3.setCell ⟨w.heap.size + 1, 0, none⟩ (.int .i64 0)).setCell ⟨w.heap.size + 1, 1, none⟩ (.slice Option.none 0 0)) = X at *
  obtain ⟨dd0, dd1⟩ := pair_cells e1 rfl
  exact bodyPost_ret (v := .tuple #[posZ, refV [100, 101, 98, 105, 116] (.iface 52 (.int .i64 18))]) (by simp [results, Tryz.results80, go_sem, dd0, dd1, refV]) rfl ⟨rfl, e3⟩
set_option maxRecDepth 100000 in
set_option maxHeartbeats 2000000 in
theorem debit_m1 (av q n : Int) (v : Value) (L : List Mk) (w : World) (h : RM w v L) (ho : MOk L) (h1 : av ≤ top) (hq1 : q ≤ top) (hl : L.length ≤ 4611686018427387904) (hb : bg av L q = none) (hz0 : 1 ≤ n) (hz1 : n ≤ 65536) (hc : ¬ av + mq n L < q) (hm : q < mq n L) :
    Calls Tryz.prog 80 #[.agg #[.int .i64 av, v], .int .i64 q, .int .i64 n] w fun e w' => Ans w w' [100, 101, 98, 105, 116] (debitO av L q n) e ∧ Below w.heap.size w w' := by
  have HQ1 := hide hq1
  clear HQ1
  have HRM := hide h
  obtain ⟨a, cap, rfl, _, _⟩ := h
  have HBG := hide (fun (W : World) (hw : Below w.heap.size w W) => begin_none av q _ L W (HRM.out.later hw) ho h1 hl hb)
  obtain ⟨hR, hq⟩ := bg_none h1 hb
  have hav := hR.av0
  have hal := hR.all
  have htop : top = 9223372036854775807 := rfl
  have hmq := mq_ge (n := n) hR.ri
  rw [show debitO av L q n = .ok av (setM n (mq n L - q) L) by unfold debitO; rw [hb]; rw [if_neg (by omega : ¬ (n < 0 ∨ 65536 < n)), if_neg hc]; exact if_pos (by omega)]
  have HIN := hide (fun W => isName_any n W)
  rw [show (decide (0 < n) && decide (n ≤ 65536)) = true by rw [Bool.and_eq_true, decide_eq_true_eq, decide_eq_true_eq]; omega] at HIN
  have hz : (n != 0) = true := by rw [bne_iff_ne]; omega
  have hz2 : ¬ n = 0 := by omega
  have HUN := hide (fun (W : World) (hw : Below w.heap.size w W) => under_any _ L n W (HRM.out.later hw) hR.ri hR.few)
  have e := sub_ok (a := av) (b := 0) (by omega) (by omega)
  have HAR := hide (fun W => sub_any av 0 W h1 (by omega))
  rw [e.2, e.1, Int.sub_zero, show errV 0 = .nilIface from rfl] at HAR
  have HTU := hide (fun (W : World) (hw : Below w.heap.size w W) => turned_any av (av) _ L (n) (mq n L - q) W (HRM.out.later hw) hR.ri hR.few)
  generalize setM (n) (mq n L - q) L = R at *
  have n0 := ifNeq0
  have n1 := ifNeq
  have X0 := hide (Bx2.new w av (.slice a L.length cap))
  obtain ⟨x0, x1, y0, y1, f0, f1⟩ := X0.out.facts
  obtain ⟨A2, hA2⟩ : ∃ A2, A2 = av := ⟨_, rfl⟩
  generalize mq n L = m at *
  have hw1 : wrap64 (m - q) = m - q := by unfold wrap64; omega
  have hw2 : IntKind.i64.wrap (m - q) = m - q := by rw [IntKind.wrap_i64]; omega
  have hm3 : min m q = q := by omega
  have hqq : q - q = 0 := by omega
  have hm1 : ¬ m < q := by omega
  have hm4 : ¬ m ≤ q := by omega
  generalize av + sm L = T at *
  clear hb hR hq hav hal htop hmq hc e hz0 hz1 hm
  subst hA2
  go_enter Tryz.func80, Tryz.ntmps80
  go_wp2_with fail
  refine (HBG.out _ X0.out.low).mono ?_
  rintro e w1 ⟨rfl, hb⟩
  have X1 := hide (X0.out.later hb)
  obtain ⟨x0, x1, y0, y1, f0, f1⟩ := X1.out.facts
  clear hb
  go_wp2_with fail
  refine (HIN.out _).mono ?_
  rintro e w' ⟨rfl, hw⟩
  have hw' := hw.symm
  clear hw
  subst hw'
  go_wp2_with fail
  refine (HUN.out _ X1.out.low).mono ?_
  rintro e w2 ⟨rfl, hb⟩
  have X2 := hide (X1.out.later hb)
  obtain ⟨x0, x1, y0, y1, f0, f1⟩ := X2.out.facts
  clear hb
  go_wp2_with fail
  refine (HAR.out _).mono ?_
  rintro e w' ⟨rfl, hw⟩
  have hw' := hw.symm
  clear hw
  subst hw'
  go_wp2_with fail
  refine (HTU.out _ X2.out.low).mono ?_
  rintro e w3 ⟨v', rfl, hO, hb⟩
  obtain ⟨a4, c4, hv4⟩ := rm_lt (OM.rm hO)
  subst hv4
  have HO := hide hO
  have X3 := hide (X2.out.later hb)
  obtain ⟨x0, x1, y0, y1, f0, f1⟩ := X3.out.facts
  clear hb
  go_wp2_with fail
  obtain ⟨e1, e2, e3⟩ := turn_end (a2 := A2) X3.out.res (World.ownsRow.mono HO.out X2.out.low.size) X3.out.low (Nat.le_succ _)
  generalize ((w3.setCell ⟨w.heap.size + 1, 0, none⟩ (.int .i64 A2)).setCell ⟨w.heap.size + 1, 1, none⟩ (.slice a4 R.length c4)) = X at *
  obtain ⟨dd0, dd1⟩ := pair_cells e1 rfl
  exact bodyPost_ret (v := .tuple #[.agg #[.int .i64 A2, .slice a4 R.length c4], .nilIface]) (by simp [results, Tryz.results80, go_sem, dd0, dd1]) rfl ⟨⟨_, rfl, e2⟩, e3⟩
set_option maxRecDepth 100000 in
set_option maxHeartbeats 2000000 in
theorem debit_e1 (av q n : Int) (v : Value) (L : List Mk) (w : World) (h : RM w v L) (ho : MOk L) (h1 : av ≤ top) (hq1 : q ≤ top) (hl : L.length ≤ 4611686018427387904) (hb : bg av L q = none) (hz0 : 1 ≤ n) (hz1 : n ≤ 65536) (hm : mq n L = q) :
    Calls Tryz.prog 80 #[.agg #[.int .i64 av, v], .int .i64 q, .int .i64 n] w fun e w' => Ans w w' [100, 101, 98, 105, 116] (debitO av L q n) e ∧ Below w.heap.size w w' := by
  have HQ1 := hide hq1
  clear HQ1
  have HRM := hide h
  obtain ⟨a, cap, rfl, _, _⟩ := h
  have HBG := hide (fun (W : World) (hw : Below w.heap.size w W) => begin_none av q _ L W (HRM.out.later hw) ho h1 hl hb)
  obtain ⟨hR, hq⟩ := bg_none h1 hb
  have hav := hR.av0
  have hal := hR.all
  have htop : top = 9223372036854775807 := rfl
  have hmq := mq_ge (n := n) hR.ri
  rw [show debitO av L q n = .ok av (setM n 0 L) by unfold debitO; rw [hb]; show (if n < 0 ∨ 65536 < n then eno 19 else if av + mq n L < q then eno 18 else if q ≤ mq n L then Out.ok av (setM n (mq n L - q) L) else _) = _; rw [if_neg (by omega : ¬ (n < 0 ∨ 65536 < n)), if_neg (by omega), if_pos (by omega), hm, Int.sub_self]]
  have HIN := hide (fun W => isName_any n W)
  rw [show (decide (0 < n) && decide (n ≤ 65536)) = true by rw [Bool.and_eq_true, decide_eq_true_eq, decide_eq_true_eq]; omega] at HIN
  have hz : (n != 0) = true := by rw [bne_iff_ne]; omega
  have hz2 : ¬ n = 0 := by omega
  have HUN := hide (fun (W : World) (hw : Below w.heap.size w W) => under_any _ L n W (HRM.out.later hw) hR.ri hR.few)
  have e := sub_ok (a := av) (b := 0) (by omega) (by omega)
  have HAR := hide (fun W => sub_any av 0 W h1 (by omega))
  rw [e.2, e.1, Int.sub_zero, show errV 0 = .nilIface from rfl] at HAR
  rw [hm] at HUN
  have HTU := hide (fun (W : World) (hw : Below w.heap.size w W) => turned_any av (av) _ L (n) (0) W (HRM.out.later hw) hR.ri hR.few)
  generalize setM (n) (0) L = R at *
  have n0 := ifNeq0
  have n1 := ifNeq
  have X0 := hide (Bx2.new w av (.slice a L.length cap))
  obtain ⟨x0, x1, y0, y1, f0, f1⟩ := X0.out.facts
  obtain ⟨A2, hA2⟩ : ∃ A2, A2 = av := ⟨_, rfl⟩
  have hm3 : min q q = q := by omega
  generalize av + sm L = T at *
  clear hb hR hq hav hal htop hmq hm e hz0 hz1
  subst hA2
  go_enter Tryz.func80, Tryz.ntmps80
  go_wp2_with fail
  refine (HBG.out _ X0.out.low).mono ?_
  rintro e w1 ⟨rfl, hb⟩
  have X1 := hide (X0.out.later hb)
  obtain ⟨x0, x1, y0, y1, f0, f1⟩ := X1.out.facts
  clear hb
  go_wp2_with fail
  refine (HIN.out _).mono ?_
  rintro e w' ⟨rfl, hw⟩
  have hw' := hw.symm
  clear hw
  subst hw'
  go_wp2_with fail
  refine (HUN.out _ X1.out.low).mono ?_
  rintro e w2 ⟨rfl, hb⟩
  have X2 := hide (X1.out.later hb)
  obtain ⟨x0, x1, y0, y1, f0, f1⟩ := X2.out.facts
  clear hb
  go_wp2_with fail
  refine (HAR.out _).mono ?_
  rintro e w' ⟨rfl, hw⟩
  have hw' := hw.symm
  clear hw
  subst hw'
  go_wp2_with fail
  refine (HTU.out _ X2.out.low).mono ?_
  rintro e w3 ⟨v', rfl, hO, hb⟩
  obtain ⟨a4, c4, hv4⟩ := rm_lt (OM.rm hO)
  subst hv4
  have HO := hide hO
  have X3 := hide (X2.out.later hb)
  obtain ⟨x0, x1, y0, y1, f0, f1⟩ := X3.out.facts
  clear hb
  go_wp2_with fail
  obtain ⟨e1, e2, e3⟩ := turn_end (a2 := A2) X3.out.res (World.ownsRow.mono HO.out X2.out.low.size) X3.out.low (Nat.le_succ _)
  generalize ((w3.setCell ⟨w.heap.size + 1, 0, none⟩ (.int .i64 A2)).setCell ⟨w.heap.size + 1, 1, none⟩ (.slice a4 R.length c4)) = X at *
  obtain ⟨dd0, dd1⟩ := pair_cells e1 rfl
  exact bodyPost_ret (v := .tuple #[.agg #[.int .i64 A2, .slice a4 R.length c4], .nilIface]) (by simp [results, Tryz.results80, go_sem, dd0, dd1]) rfl ⟨⟨_, rfl, e2⟩, e3⟩
set_option maxRecDepth 100000 in
set_option maxHeartbeats 2000000 in
theorem debit_a1 (av q n : Int) (v : Value) (L : List Mk) (w : World) (h : RM w v L) (ho : MOk L) (h1 : av ≤ top) (hq1 : q ≤ top) (hl : L.length ≤ 4611686018427387904) (hb : bg av L q = none) (hz0 : 1 ≤ n) (hz1 : n ≤ 65536) (hc : ¬ av + mq n L < q) (hm : ¬ q ≤ mq n L) :
    Calls Tryz.prog 80 #[.agg #[.int .i64 av, v], .int .i64 q, .int .i64 n] w fun e w' => Ans w w' [100, 101, 98, 105, 116] (debitO av L q n) e ∧ Below w.heap.size w w' := by
  have HQ1 := hide hq1
  clear HQ1
  have HRM := hide h
  obtain ⟨a, cap, rfl, _, _⟩ := h
  have HBG := hide (fun (W : World) (hw : Below w.heap.size w W) => begin_none av q _ L W (HRM.out.later hw) ho h1 hl hb)
  obtain ⟨hR, hq⟩ := bg_none h1 hb
  have hav := hR.av0
  have hal := hR.all
  have htop : top = 9223372036854775807 := rfl
  have hmq := mq_ge (n := n) hR.ri
  rw [show debitO av L q n = .ok (av - (q - mq n L)) (setM n 0 L) by unfold debitO; rw [hb]; rw [if_neg (by omega : ¬ (n < 0 ∨ 65536 < n)), if_neg hc]; exact if_neg hm]
  have HIN := hide (fun W => isName_any n W)
  rw [show (decide (0 < n) && decide (n ≤ 65536)) = true by rw [Bool.and_eq_true, decide_eq_true_eq, decide_eq_true_eq]; omega] at HIN
  have hz : (n != 0) = true := by rw [bne_iff_ne]; omega
  have hz2 : ¬ n = 0 := by omega
  have HUN := hide (fun (W : World) (hw : Below w.heap.size w W) => under_any _ L n W (HRM.out.later hw) hR.ri hR.few)
  have e := sub_ok (a := av) (b := q - mq n L) (by omega) (by omega)
  have HAR := hide (fun W => sub_any av (q - mq n L) W h1 (by omega))
  rw [e.2, e.1, show errV 0 = .nilIface from rfl] at HAR
  have HTU := hide (fun (W : World) (hw : Below w.heap.size w W) => turned_any av (av - (q - mq n L)) _ L (n) (0) W (HRM.out.later hw) hR.ri hR.few)
  generalize setM (n) (0) L = R at *
  have n0 := ifNeq0
  have n1 := ifNeq
  have X0 := hide (Bx2.new w av (.slice a L.length cap))
  obtain ⟨x0, x1, y0, y1, f0, f1⟩ := X0.out.facts
  obtain ⟨A2, hA2⟩ : ∃ A2, av - (q - mq n L) = A2 := ⟨_, rfl⟩
  rw [hA2] at HTU HAR ⊢
  generalize mq n L = m at *
  have hw1 : wrap64 (q - m) = q - m := by unfold wrap64; omega
  have hw2 : IntKind.i64.wrap (q - m) = q - m := by rw [IntKind.wrap_i64]; omega
  have hm3 : min m q = m := by omega
  have hqq : m - m = 0 := by omega
  have hm1 : m < q := by omega
  have hm2 : ¬ q < m := by omega
  generalize av + sm L = T at *
  clear hb hR hq hav hal htop hmq hc e hz0 hz1 hm hA2
  go_enter Tryz.func80, Tryz.ntmps80
  go_wp2_with fail
  refine (HBG.out _ X0.out.low).mono ?_
  rintro e w1 ⟨rfl, hb⟩
  have X1 := hide (X0.out.later hb)
  obtain ⟨x0, x1, y0, y1, f0, f1⟩ := X1.out.facts
  clear hb
  go_wp2_with fail
  refine (HIN.out _).mono ?_
  rintro e w' ⟨rfl, hw⟩
  have hw' := hw.symm
  clear hw
  subst hw'
  go_wp2_with fail
  refine (HUN.out _ X1.out.low).mono ?_
  rintro e w2 ⟨rfl, hb⟩
  have X2 := hide (X1.out.later hb)
  obtain ⟨x0, x1, y0, y1, f0, f1⟩ := X2.out.facts
  clear hb
  go_wp2_with fail
  refine (HAR.out _).mono ?_
  rintro e w' ⟨rfl, hw⟩
  have hw' := hw.symm
  clear hw
  subst hw'
  go_wp2_with fail
  refine (HTU.out _ X2.out.low).mono ?_
  rintro e w3 ⟨v', rfl, hO, hb⟩
  obtain ⟨a4, c4, hv4⟩ := rm_lt (OM.rm hO)
  subst hv4
  have HO := hide hO
  have X3 := hide (X2.out.later hb)
  obtain ⟨x0, x1, y0, y1, f0, f1⟩ := X3.out.facts
  clear hb
  go_wp2_with fail
  obtain ⟨e1, e2, e3⟩ := turn_end (a2 := A2) X3.out.res (World.ownsRow.mono HO.out X2.out.low.size) X3.out.low (Nat.le_succ _)
  generalize ((w3.setCell ⟨w.heap.size + 1, 0, none⟩ (.int .i64 A2)).setCell ⟨w.heap.size + 1, 1, none⟩ (.slice a4 R.length c4)) = X at *
  obtain ⟨dd0, dd1⟩ := pair_cells e1 rfl
  exact bodyPost_ret (v := .tuple #[.agg #[.int .i64 A2, .slice a4 R.length c4], .nilIface]) (by simp [results, Tryz.results80, go_sem, dd0, dd1]) rfl ⟨⟨_, rfl, e2⟩, e3⟩
set_option maxRecDepth 100000 in
set_option maxHeartbeats 2000000 in
theorem mark_b (av q n : Int) (v : Value) (L : List Mk) (w : World) (t : TypeId) (x : Value) (h : RM w v L) (ho : MOk L) (h1 : av ≤ top) (hq1 : q ≤ top) (hl : L.length ≤ 4611686018427387904) (hb : bg av L q = some (t, x)) :
    Calls Tryz.prog 81 #[.agg #[.int .i64 av, v], .int .i64 q, .int .i64 n] w fun e w' => Ans w w' [109, 97, 114, 107] (markO av L q n) e ∧ Below w.heap.size w w' := by
  have HQ1 := hide hq1
  clear HQ1
  have HRM := hide h
  obtain ⟨a, cap, rfl, _, _⟩ := h
  have HBG := hide (fun (W : World) (hw : Below w.heap.size w W) => begin_some av q _ L W t x (HRM.out.later hw) ho h1 hl hb)
  rw [show markO av L q n = .no t x by unfold markO; rw [hb]]
  have n0 := ifNeq0
  have n1 := ifNeq
  have X0 := hide (Bx2.new w av (.slice a L.length cap))
  obtain ⟨x0, x1, y0, y1, f0, f1⟩ := X0.out.facts
  have HRF := hide (fun W => refuse_any [109, 97, 114, 107] t x W)
  clear hb
  go_enter Tryz.func81, Tryz.ntmps81
  go_wp2_with fail
  refine (HBG.out _ X0.out.low).mono ?_
  rintro e w1 ⟨rfl, hb⟩
  have X1 := hide (X0.out.later hb)
  obtain ⟨x0, x1, y0, y1, f0, f1⟩ := X1.out.facts
  clear hb
  go_wp2_with fail
  refine (HRF.out _).mono ?_
  rintro e w2 ⟨rfl, hb⟩
  have X2 := hide (X1.out.later hb)
  obtain ⟨x0, x1, y0, y1, f0, f1⟩ := X2.out.facts
  clear hb
  unfold refV
  go_wp2_with fail
  obtain ⟨e1, e3⟩ := refuse_end X2.out
  generalize ((w2.setCell ⟨w.heap.size + 1, 0, none⟩ (.int .i64 0)).setCell ⟨w.heap.size + 1, 1, none⟩ (.slice Option.none 0 0)) = X at *
  obtain ⟨dd0, dd1⟩ := pair_cells e1 rfl
  exact bodyPost_ret (v := .tuple #[posZ, refV [109, 97, 114, 107] (.iface t x)]) (by simp [results, Tryz.results81, go_sem, dd0, dd1, refV]) rfl ⟨rfl, e3⟩
set_option maxRecDepth 100000 in
set_option maxHeartbeats 2000000 in
theorem mark_n (av q n : Int) (v : Value) (L : List Mk) (w : World) (h : RM w v L) (ho : MOk L) (h1 : av ≤ top) (hq1 : q ≤ top) (hl : L.length ≤ 4611686018427387904) (hb : bg av L q = none) (hn : n < 1 ∨ 65536 < n) :
    Calls Tryz.prog 81 #[.agg #[.int .i64 av, v], .int .i64 q, .int .i64 n] w fun e w' => Ans w w' [109, 97, 114, 107] (markO av L q n) e ∧ Below w.heap.size w w' := by
  have HQ1 := hide hq1
  clear HQ1
  have HRM := hide h
  obtain ⟨a, cap, rfl, _, _⟩ := h
  have HBG := hide (fun (W : World) (hw : Below w.heap.size w W) => begin_none av q _ L W (HRM.out.later hw) ho h1 hl hb)
  obtain ⟨hR, hq⟩ := bg_none h1 hb
  have hav := hR.av0
  have hal := hR.all
  have htop : top = 9223372036854775807 := rfl
  have hmq := mq_ge (n := n) hR.ri
  rw [show markO av L q n = eno 19 by unfold markO; rw [hb]; exact if_pos hn]
  have HIN := hide (fun W => isName_any n W)
  rw [show (decide (0 < n) && decide (n ≤ 65536)) = false by rw [Bool.and_eq_false_iff, decide_eq_false_iff_not, decide_eq_false_iff_not]; omega] at HIN
  have HRF := hide (fun W => refuse_any [109, 97, 114, 107] 52 (.int .i64 19) W)
  have n0 := ifNeq0
  have n1 := ifNeq
  have X0 := hide (Bx2.new w av (.slice a L.length cap))
  obtain ⟨x0, x1, y0, y1, f0, f1⟩ := X0.out.facts
  generalize av + sm L = T at *
  clear hb hR hq hav hal htop hmq hn
  go_enter Tryz.func81, Tryz.ntmps81
  go_wp2_with fail
  refine (HBG.out _ X0.out.low).mono ?_
  rintro e w1 ⟨rfl, hb⟩
  have X1 := hide (X0.out.later hb)
  obtain ⟨x0, x1, y0, y1, f0, f1⟩ := X1.out.facts
  clear hb
  go_wp2_with fail
  refine (HIN.out _).mono ?_
  rintro e w' ⟨rfl, hw⟩
  have hw' := hw.symm
  clear hw
  subst hw'
  go_wp2_with fail
  refine (HRF.out _).mono ?_
  rintro e w2 ⟨rfl, hb⟩
  have X2 := hide (X1.out.later hb)
  obtain ⟨x0, x1, y0, y1, f0, f1⟩ := X2.out.facts
  clear hb
  unfold refV
  go_wp2_with fail
  obtain ⟨e1, e3⟩ := refuse_end X2.out
  generalize ((w2.setCell ⟨w.heap.size + 1, 0, none⟩ (.int .i64 0)).setCell ⟨w.heap.size + 1, 1, none⟩ (.slice Option.none 0 0)) = X at *
  obtain ⟨dd0, dd1⟩ := pair_cells e1 rfl
  exact bodyPost_ret (v := .tuple #[posZ, refV [109, 97, 114, 107] (.iface 52 (.int .i64 19))]) (by simp [results, Tryz.results81, go_sem, dd0, dd1, refV]) rfl ⟨rfl, e3⟩
set_option maxRecDepth 100000 in
set_option maxHeartbeats 2000000 in
theorem mark_s (av q n : Int) (v : Value) (L : List Mk) (w : World) (h : RM w v L) (ho : MOk L) (h1 : av ≤ top) (hq1 : q ≤ top) (hl : L.length ≤ 4611686018427387904) (hb : bg av L q = none) (hz0 : 1 ≤ n) (hz1 : n ≤ 65536) (hc : av < q) :
    Calls Tryz.prog 81 #[.agg #[.int .i64 av, v], .int .i64 q, .int .i64 n] w fun e w' => Ans w w' [109, 97, 114, 107] (markO av L q n) e ∧ Below w.heap.size w w' := by
  have HQ1 := hide hq1
  clear HQ1
  have HRM := hide h
  obtain ⟨a, cap, rfl, _, _⟩ := h
  have HBG := hide (fun (W : World) (hw : Below w.heap.size w W) => begin_none av q _ L W (HRM.out.later hw) ho h1 hl hb)
  obtain ⟨hR, hq⟩ := bg_none h1 hb
  have hav := hR.av0
  have hal := hR.all
  have htop : top = 9223372036854775807 := rfl
  have hmq := mq_ge (n := n) hR.ri
  rw [show markO av L q n = eno 18 by unfold markO; rw [hb]; rw [if_neg (by omega : ¬ (n < 1 ∨ 65536 < n))]; exact if_pos hc]
  have HIN := hide (fun W => isName_any n W)
  rw [show (decide (0 < n) && decide (n ≤ 65536)) = true by rw [Bool.and_eq_true, decide_eq_true_eq, decide_eq_true_eq]; omega] at HIN
  have e := sub_short (a := av) (b := q) (by omega) hc
  have HAR := hide (fun W => sub_any av q W h1 hq1)
  rw [e.2, e.1, show errV 2 = .iface 52 (.int .i64 2) from rfl] at HAR
  have HRF := hide (fun W => refuse_any [109, 97, 114, 107] 52 (.int .i64 18) W)
  have n0 := ifNeq0
  have n1 := ifNeq
  have X0 := hide (Bx2.new w av (.slice a L.length cap))
  obtain ⟨x0, x1, y0, y1, f0, f1⟩ := X0.out.facts
  generalize av + sm L = T at *
  clear hb hR hq hav hal htop hmq hc e hz0 hz1
  go_enter Tryz.func81, Tryz.ntmps81
  go_wp2_with fail
  refine (HBG.out _ X0.out.low).mono ?_
  rintro e w1 ⟨rfl, hb⟩
  have X1 := hide (X0.out.later hb)
  obtain ⟨x0, x1, y0, y1, f0, f1⟩ := X1.out.facts
  clear hb
  go_wp2_with fail
  refine (HIN.out _).mono ?_
  rintro e w' ⟨rfl, hw⟩
  have hw' := hw.symm
  clear hw
  subst hw'
  go_wp2_with fail
  refine (HAR.out _).mono ?_
  rintro e w' ⟨rfl, hw⟩
  have hw' := hw.symm
  clear hw
  subst hw'
  go_wp2_with fail
  refine (HRF.out _).mono ?_
  rintro e w2 ⟨rfl, hb⟩
  have X2 := hide (X1.out.later hb)
  obtain ⟨x0, x1, y0, y1, f0, f1⟩ := X2.out.facts
  clear hb
  unfold refV
  go_wp2_with fail
  obtain ⟨e1, e3⟩ := refuse_end X2.out
  generalize ((w2.setCell ⟨w.heap.size + 1, 0, none⟩ (.int .i64 0)).setCell ⟨w.heap.size + 1, 1, none⟩ (.slice Option.none 0 0)) = X at *
  obtain ⟨dd0, dd1⟩ := pair_cells e1 rfl
  exact bodyPost_ret (v := .tuple #[posZ, refV [109, 97, 114, 107] (.iface 52 (.int .i64 18))]) (by simp [results, Tryz.results81, go_sem, dd0, dd1, refV]) rfl ⟨rfl, e3⟩
set_option maxRecDepth 100000 in
set_option maxHeartbeats 2000000 in
theorem mark_f (av q n : Int) (v : Value) (L : List Mk) (w : World) (h : RM w v L) (ho : MOk L) (h1 : av ≤ top) (hq1 : q ≤ top) (hl : L.length ≤ 4611686018427387904) (hb : bg av L q = none) (hz0 : 1 ≤ n) (hz1 : n ≤ 65536) (hc : ¬ av < q) (hm : mq n L = 0) (h88 : L.length = 8) :
    Calls Tryz.prog 81 #[.agg #[.int .i64 av, v], .int .i64 q, .int .i64 n] w fun e w' => Ans w w' [109, 97, 114, 107] (markO av L q n) e ∧ Below w.heap.size w w' := by
  have HQ1 := hide hq1
  clear HQ1
  have HRM := hide h
  obtain ⟨a, cap, rfl, _, _⟩ := h
  have HBG := hide (fun (W : World) (hw : Below w.heap.size w W) => begin_none av q _ L W (HRM.out.later hw) ho h1 hl hb)
  obtain ⟨hR, hq⟩ := bg_none h1 hb
  have hav := hR.av0
  have hal := hR.all
  have htop : top = 9223372036854775807 := rfl
  have hmq := mq_ge (n := n) hR.ri
  rw [show markO av L q n = eno 5 by unfold markO; rw [hb]; rw [if_neg (by omega : ¬ (n < 1 ∨ 65536 < n)), if_neg hc]; exact if_pos ⟨hm, h88⟩]
  have HIN := hide (fun W => isName_any n W)
  rw [show (decide (0 < n) && decide (n ≤ 65536)) = true by rw [Bool.and_eq_true, decide_eq_true_eq, decide_eq_true_eq]; omega] at HIN
  have HUN := hide (fun (W : World) (hw : Below w.heap.size w W) => under_any _ L n W (HRM.out.later hw) hR.ri hR.few)
  have e := sub_ok (a := av) (b := q) (by omega) hc
  have HAR := hide (fun W => sub_any av q W h1 hq1)
  rw [e.2, e.1, show errV 0 = .nilIface from rfl] at HAR
  have hme : (mq n L == 0) = true := by rw [beq_iff_eq]; exact hm
  have hle : ((L.length : Int) == 8) = true := by rw [beq_iff_eq]; omega
  have HRF := hide (fun W => refuse_any [109, 97, 114, 107] 52 (.int .i64 5) W)
  have n0 := ifNeq0
  have n1 := ifNeq
  have X0 := hide (Bx2.new w av (.slice a L.length cap))
  obtain ⟨x0, x1, y0, y1, f0, f1⟩ := X0.out.facts
  obtain ⟨A2, hA2⟩ : ∃ A2, av - q = A2 := ⟨_, rfl⟩
  rw [hA2] at HAR
  generalize mq n L = m at *
  have hw1 : wrap64 (m + q) = m + q := by unfold wrap64; omega
  have hw2 : IntKind.i64.wrap (m + q) = m + q := by rw [IntKind.wrap_i64]; omega
  generalize av + sm L = T at *
  clear hb hR hq hav hal htop hmq hc e hz0 hz1 h88 hm hA2
  go_enter Tryz.func81, Tryz.ntmps81
  go_wp2_with fail
  refine (HBG.out _ X0.out.low).mono ?_
  rintro e w1 ⟨rfl, hb⟩
  have X1 := hide (X0.out.later hb)
  obtain ⟨x0, x1, y0, y1, f0, f1⟩ := X1.out.facts
  clear hb
  go_wp2_with fail
  refine (HIN.out _).mono ?_
  rintro e w' ⟨rfl, hw⟩
  have hw' := hw.symm
  clear hw
  subst hw'
  go_wp2_with fail
  refine (HAR.out _).mono ?_
  rintro e w' ⟨rfl, hw⟩
  have hw' := hw.symm
  clear hw
  subst hw'
  go_wp2_with fail
  refine (HUN.out _ X1.out.low).mono ?_
  rintro e w2 ⟨rfl, hb⟩
  have X2 := hide (X1.out.later hb)
  obtain ⟨x0, x1, y0, y1, f0, f1⟩ := X2.out.facts
  clear hb
  go_wp2_with fail
  refine (HRF.out _).mono ?_
  rintro e w3 ⟨rfl, hb⟩
  have X3 := hide (X2.out.later hb)
  obtain ⟨x0, x1, y0, y1, f0, f1⟩ := X3.out.facts
  clear hb
  unfold refV
  go_wp2_with fail
  obtain ⟨e1, e3⟩ := refuse_end X3.out
  generalize ((w3.setCell ⟨w.heap.size + 1, 0, none⟩ (.int .i64 0)).setCell ⟨w.heap.size + 1, 1, none⟩ (.slice Option.none 0 0)) = X at *
  obtain ⟨dd0, dd1⟩ := pair_cells e1 rfl
  exact bodyPost_ret (v := .tuple #[posZ, refV [109, 97, 114, 107] (.iface 52 (.int .i64 5))]) (by simp [results, Tryz.results81, go_sem, dd0, dd1, refV]) rfl ⟨rfl, e3⟩
set_option maxRecDepth 100000 in
set_option maxHeartbeats 2000000 in
theorem mark_k (av q n : Int) (v : Value) (L : List Mk) (w : World) (h : RM w v L) (ho : MOk L) (h1 : av ≤ top) (hq1 : q ≤ top) (hl : L.length ≤ 4611686018427387904) (hb : bg av L q = none) (hz0 : 1 ≤ n) (hz1 : n ≤ 65536) (hc : ¬ av < q) (hm : mq n L = 0) (h88 : ¬ L.length = 8) :
    Calls Tryz.prog 81 #[.agg #[.int .i64 av, v], .int .i64 q, .int .i64 n] w fun e w' => Ans w w' [109, 97, 114, 107] (markO av L q n) e ∧ Below w.heap.size w w' := by
  have HQ1 := hide hq1
  clear HQ1
  have HRM := hide h
  obtain ⟨a, cap, rfl, _, _⟩ := h
  have HBG := hide (fun (W : World) (hw : Below w.heap.size w W) => begin_none av q _ L W (HRM.out.later hw) ho h1 hl hb)
  obtain ⟨hR, hq⟩ := bg_none h1 hb
  have hav := hR.av0
  have hal := hR.all
  have htop : top = 9223372036854775807 := rfl
  have hmq := mq_ge (n := n) hR.ri
  rw [show markO av L q n = .ok (av - q) (setM n (mq n L + q) L) by unfold markO; rw [hb]; rw [if_neg (by omega : ¬ (n < 1 ∨ 65536 < n)), if_neg hc]; exact if_neg (fun e => h88 e.2)]
  have HIN := hide (fun W => isName_any n W)
  rw [show (decide (0 < n) && decide (n ≤ 65536)) = true by rw [Bool.and_eq_true, decide_eq_true_eq, decide_eq_true_eq]; omega] at HIN
  have HUN := hide (fun (W : World) (hw : Below w.heap.size w W) => under_any _ L n W (HRM.out.later hw) hR.ri hR.few)
  have e := sub_ok (a := av) (b := q) (by omega) hc
  have HAR := hide (fun W => sub_any av q W h1 hq1)
  rw [e.2, e.1, show errV 0 = .nilIface from rfl] at HAR
  have hme : (mq n L == 0) = true := by rw [beq_iff_eq]; exact hm
  have hle : ((L.length : Int) == 8) = false := by rw [beq_eq_false_iff_ne]; omega
  have HTU := hide (fun (W : World) (hw : Below w.heap.size w W) => turned_any av (av - q) _ L (n) (mq n L + q) W (HRM.out.later hw) hR.ri hR.few)
  generalize setM (n) (mq n L + q) L = R at *
  have n0 := ifNeq0
  have n1 := ifNeq
  have X0 := hide (Bx2.new w av (.slice a L.length cap))
  obtain ⟨x0, x1, y0, y1, f0, f1⟩ := X0.out.facts
  obtain ⟨A2, hA2⟩ : ∃ A2, av - q = A2 := ⟨_, rfl⟩
  rw [hA2] at HAR HTU ⊢
  generalize mq n L = m at *
  have hw1 : wrap64 (m + q) = m + q := by unfold wrap64; omega
  have hw2 : IntKind.i64.wrap (m + q) = m + q := by rw [IntKind.wrap_i64]; omega
  generalize av + sm L = T at *
  clear hb hR hq hav hal htop hmq hc e hz0 hz1 h88 hm hA2
  go_enter Tryz.func81, Tryz.ntmps81
  go_wp2_with fail
  refine (HBG.out _ X0.out.low).mono ?_
  rintro e w1 ⟨rfl, hb⟩
  have X1 := hide (X0.out.later hb)
  obtain ⟨x0, x1, y0, y1, f0, f1⟩ := X1.out.facts
  clear hb
  go_wp2_with fail
  refine (HIN.out _).mono ?_
  rintro e w' ⟨rfl, hw⟩
  have hw' := hw.symm
  clear hw
  subst hw'
  go_wp2_with fail
  refine (HAR.out _).mono ?_
  rintro e w' ⟨rfl, hw⟩
  have hw' := hw.symm
  clear hw
  subst hw'
  go_wp2_with fail
  refine (HUN.out _ X1.out.low).mono ?_
  rintro e w2 ⟨rfl, hb⟩
  have X2 := hide (X1.out.later hb)
  obtain ⟨x0, x1, y0, y1, f0, f1⟩ := X2.out.facts
  clear hb
  go_wp2_with fail
  refine (HTU.out _ X2.out.low).mono ?_
  rintro e w3 ⟨v', rfl, hO, hb⟩
  obtain ⟨a4, c4, hv4⟩ := rm_lt (OM.rm hO)
  subst hv4
  have HO := hide hO
  have X3 := hide (X2.out.later hb)
  obtain ⟨x0, x1, y0, y1, f0, f1⟩ := X3.out.facts
  clear hb
  go_wp2_with fail
  obtain ⟨e1, e2, e3⟩ := turn_end (a2 := A2) X3.out.res (World.ownsRow.mono HO.out X2.out.low.size) X3.out.low (Nat.le_succ _)
  generalize ((w3.setCell ⟨w.heap.size + 1, 0, none⟩ (.int .i64 A2)).setCell ⟨w.heap.size + 1, 1, none⟩ (.slice a4 R.length c4)) = X at *
  obtain ⟨dd0, dd1⟩ := pair_cells e1 rfl
  exact bodyPost_ret (v := .tuple #[.agg #[.int .i64 A2, .slice a4 R.length c4], .nilIface]) (by simp [results, Tryz.results81, go_sem, dd0, dd1]) rfl ⟨⟨_, rfl, e2⟩, e3⟩
set_option maxRecDepth 100000 in
set_option maxHeartbeats 2000000 in
theorem mark_l (av q n : Int) (v : Value) (L : List Mk) (w : World) (h : RM w v L) (ho : MOk L) (h1 : av ≤ top) (hq1 : q ≤ top) (hl : L.length ≤ 4611686018427387904) (hb : bg av L q = none) (hz0 : 1 ≤ n) (hz1 : n ≤ 65536) (hc : ¬ av < q) (hm : ¬ mq n L = 0) :
    Calls Tryz.prog 81 #[.agg #[.int .i64 av, v], .int .i64 q, .int .i64 n] w fun e w' => Ans w w' [109, 97, 114, 107] (markO av L q n) e ∧ Below w.heap.size w w' := by
  have HQ1 := hide hq1
  clear HQ1
  have HRM := hide h
  obtain ⟨a, cap, rfl, _, _⟩ := h
  have HBG := hide (fun (W : World) (hw : Below w.heap.size w W) => begin_none av q _ L W (HRM.out.later hw) ho h1 hl hb)
  obtain ⟨hR, hq⟩ := bg_none h1 hb
  have hav := hR.av0
  have hal := hR.all
  have htop : top = 9223372036854775807 := rfl
  have hmq := mq_ge (n := n) hR.ri
  rw [show markO av L q n = .ok (av - q) (setM n (mq n L + q) L) by unfold markO; rw [hb]; rw [if_neg (by omega : ¬ (n < 1 ∨ 65536 < n)), if_neg hc]; exact if_neg (fun e => hm e.1)]
  have HIN := hide (fun W => isName_any n W)
  rw [show (decide (0 < n) && decide (n ≤ 65536)) = true by rw [Bool.and_eq_true, decide_eq_true_eq, decide_eq_true_eq]; omega] at HIN
  have HUN := hide (fun (W : World) (hw : Below w.heap.size w W) => under_any _ L n W (HRM.out.later hw) hR.ri hR.few)
  have e := sub_ok (a := av) (b := q) (by omega) hc
  have HAR := hide (fun W => sub_any av q W h1 hq1)
  rw [e.2, e.1, show errV 0 = .nilIface from rfl] at HAR
  have hme : (mq n L == 0) = false := by rw [beq_eq_false_iff_ne]; exact hm
  have HTU := hide (fun (W : World) (hw : Below w.heap.size w W) => turned_any av (av - q) _ L (n) (mq n L + q) W (HRM.out.later hw) hR.ri hR.few)
  generalize setM (n) (mq n L + q) L = R at *
  have n0 := ifNeq0
  have n1 := ifNeq
  have X0 := hide (Bx2.new w av (.slice a L.length cap))
  obtain ⟨x0, x1, y0, y1, f0, f1⟩ := X0.out.facts
  obtain ⟨A2, hA2⟩ : ∃ A2, av - q = A2 := ⟨_, rfl⟩
  rw [hA2] at HAR HTU ⊢
  generalize mq n L = m at *
  have hw1 : wrap64 (m + q) = m + q := by unfold wrap64; omega
  have hw2 : IntKind.i64.wrap (m + q) = m + q := by rw [IntKind.wrap_i64]; omega
  generalize av + sm L = T at *
  clear hb hR hq hav hal htop hmq hc e hz0 hz1 hm hA2
  go_enter Tryz.func81, Tryz.ntmps81
  go_wp2_with fail
  refine (HBG.out _ X0.out.low).mono ?_
  rintro e w1 ⟨rfl, hb⟩
  have X1 := hide (X0.out.later hb)
  obtain ⟨x0, x1, y0, y1, f0, f1⟩ := X1.out.facts
  clear hb
  go_wp2_with fail
  refine (HIN.out _).mono ?_
  rintro e w' ⟨rfl, hw⟩
  have hw' := hw.symm
  clear hw
  subst hw'
  go_wp2_with fail
  refine (HAR.out _).mono ?_
  rintro e w' ⟨rfl, hw⟩
  have hw' := hw.symm
  clear hw
  subst hw'
  go_wp2_with fail
  refine (HUN.out _ X1.out.low).mono ?_
  rintro e w2 ⟨rfl, hb⟩
  have X2 := hide (X1.out.later hb)
  obtain ⟨x0, x1, y0, y1, f0, f1⟩ := X2.out.facts
  clear hb
  go_wp2_with fail
  refine (HTU.out _ X2.out.low).mono ?_
  rintro e w3 ⟨v', rfl, hO, hb⟩
  obtain ⟨a4, c4, hv4⟩ := rm_lt (OM.rm hO)
  subst hv4
  have HO := hide hO
  have X3 := hide (X2.out.later hb)
  obtain ⟨x0, x1, y0, y1, f0, f1⟩ := X3.out.facts
  clear hb
  go_wp2_with fail
  obtain ⟨e1, e2, e3⟩ := turn_end (a2 := A2) X3.out.res (World.ownsRow.mono HO.out X2.out.low.size) X3.out.low (Nat.le_succ _)
  generalize ((w3.setCell ⟨w.heap.size + 1, 0, none⟩ (.int .i64 A2)).setCell ⟨w.heap.size + 1, 1, none⟩ (.slice a4 R.length c4)) = X at *
  obtain ⟨dd0, dd1⟩ := pair_cells e1 rfl
  exact bodyPost_ret (v := .tuple #[.agg #[.int .i64 A2, .slice a4 R.length c4], .nilIface]) (by simp [results, Tryz.results81, go_sem, dd0, dd1]) rfl ⟨⟨_, rfl, e2⟩, e3⟩
set_option maxRecDepth 100000 in
set_option maxHeartbeats 2000000 in
theorem unmark_b (av q n : Int) (v : Value) (L : List Mk) (w : World) (t : TypeId) (x : Value) (h : RM w v L) (ho : MOk L) (h1 : av ≤ top) (hq1 : q ≤ top) (hl : L.length ≤ 4611686018427387904) (hb : bg av L q = some (t, x)) :
    Calls Tryz.prog 82 #[.agg #[.int .i64 av, v], .int .i64 q, .int .i64 n] w fun e w' => Ans w w' [117, 110, 109, 97, 114, 107] (unmarkO av L q n) e ∧ Below w.heap.size w w' := by
  have HQ1 := hide hq1
  clear HQ1
  have HRM := hide h
  obtain ⟨a, cap, rfl, _, _⟩ := h
  have HBG := hide (fun (W : World) (hw : Below w.heap.size w W) => begin_some av q _ L W t x (HRM.out.later hw) ho h1 hl hb)
  rw [show unmarkO av L q n = .no t x by unfold unmarkO; rw [hb]]
  have n0 := ifNeq0
  have n1 := ifNeq
  have X0 := hide (Bx2.new w av (.slice a L.length cap))
  obtain ⟨x0, x1, y0, y1, f0, f1⟩ := X0.out.facts
  have HRF := hide (fun W => refuse_any [117, 110, 109, 97, 114, 107] t x W)
  clear hb
  go_enter Tryz.func82, Tryz.ntmps82
  go_wp2_with fail
  refine (HBG.out _ X0.out.low).mono ?_
  rintro e w1 ⟨rfl, hb⟩
  have X1 := hide (X0.out.later hb)
  obtain ⟨x0, x1, y0, y1, f0, f1⟩ := X1.out.facts
  clear hb
  go_wp2_with fail
  refine (HRF.out _).mono ?_
  rintro e w2 ⟨rfl, hb⟩
  have X2 := hide (X1.out.later hb)
  obtain ⟨x0, x1, y0, y1, f0, f1⟩ := X2.out.facts
  clear hb
  unfold refV
  go_wp2_with fail
  obtain ⟨e1, e3⟩ := refuse_end X2.out
  generalize ((w2.setCell ⟨w.heap.size + 1, 0, none⟩ (.int .i64 0)).setCell ⟨w.heap.size + 1, 1, none⟩ (.slice Option.none 0 0)) = X at *
  obtain ⟨dd0, dd1⟩ := pair_cells e1 rfl
  exact bodyPost_ret (v := .tuple #[posZ, refV [117, 110, 109, 97, 114, 107] (.iface t x)]) (by simp [results, Tryz.results82, go_sem, dd0, dd1, refV]) rfl ⟨rfl, e3⟩
set_option maxRecDepth 100000 in
set_option maxHeartbeats 2000000 in
theorem unmark_n (av q n : Int) (v : Value) (L : List Mk) (w : World) (h : RM w v L) (ho : MOk L) (h1 : av ≤ top) (hq1 : q ≤ top) (hl : L.length ≤ 4611686018427387904) (hb : bg av L q = none) (hm : mq n L = 0) :
    Calls Tryz.prog 82 #[.agg #[.int .i64 av, v], .int .i64 q, .int .i64 n] w fun e w' => Ans w w' [117, 110, 109, 97, 114, 107] (unmarkO av L q n) e ∧ Below w.heap.size w w' := by
  have HQ1 := hide hq1
  clear HQ1
  have HRM := hide h
  obtain ⟨a, cap, rfl, _, _⟩ := h
  have HBG := hide (fun (W : World) (hw : Below w.heap.size w W) => begin_none av q _ L W (HRM.out.later hw) ho h1 hl hb)
  obtain ⟨hR, hq⟩ := bg_none h1 hb
  have hav := hR.av0
  have hal := hR.all
  have htop : top = 9223372036854775807 := rfl
  have hmq := mq_ge (n := n) hR.ri
  rw [show unmarkO av L q n = eno 19 by unfold unmarkO; rw [hb]; exact if_pos hm]
  have hme : (mq n L == 0) = true := by rw [beq_iff_eq]; exact hm
  have HUN := hide (fun (W : World) (hw : Below w.heap.size w W) => under_any _ L n W (HRM.out.later hw) hR.ri hR.few)
  have HRF := hide (fun W => refuse_any [117, 110, 109, 97, 114, 107] 52 (.int .i64 19) W)
  have n0 := ifNeq0
  have n1 := ifNeq
  have X0 := hide (Bx2.new w av (.slice a L.length cap))
  obtain ⟨x0, x1, y0, y1, f0, f1⟩ := X0.out.facts
  generalize mq n L = m at *
  generalize av + sm L = T at *
  clear hb hR hq hav hal htop hmq hm
  go_enter Tryz.func82, Tryz.ntmps82
  go_wp2_with fail
  refine (HBG.out _ X0.out.low).mono ?_
  rintro e w1 ⟨rfl, hb⟩
  have X1 := hide (X0.out.later hb)
  obtain ⟨x0, x1, y0, y1, f0, f1⟩ := X1.out.facts
  clear hb
  go_wp2_with fail
  refine (HUN.out _ X1.out.low).mono ?_
  rintro e w2 ⟨rfl, hb⟩
  have X2 := hide (X1.out.later hb)
  obtain ⟨x0, x1, y0, y1, f0, f1⟩ := X2.out.facts
  clear hb
  go_wp2_with fail
  refine (HRF.out _).mono ?_
  rintro e w3 ⟨rfl, hb⟩
  have X3 := hide (X2.out.later hb)
  obtain ⟨x0, x1, y0, y1, f0, f1⟩ := X3.out.facts
  clear hb
  unfold refV
  go_wp2_with fail
  obtain ⟨e1, e3⟩ := refuse_end X3.out
  generalize ((w3.setCell ⟨w.heap.size + 1, 0, none⟩ (.int .i64 0)).setCell ⟨w.heap.size + 1, 1, none⟩ (.slice Option.none 0 0)) = X at *
  obtain ⟨dd0, dd1⟩ := pair_cells e1 rfl
  exact bodyPost_ret (v := .tuple #[posZ, refV [117, 110, 109, 97, 114, 107] (.iface 52 (.int .i64 19))]) (by simp [results, Tryz.results82, go_sem, dd0, dd1, refV]) rfl ⟨rfl, e3⟩
set_option maxRecDepth 100000 in
set_option maxHeartbeats 2000000 in
theorem unmark_s (av q n : Int) (v : Value) (L : List Mk) (w : World) (h : RM w v L) (ho : MOk L) (h1 : av ≤ top) (hq1 : q ≤ top) (hl : L.length ≤ 4611686018427387904) (hb : bg av L q = none) (hm : ¬ mq n L = 0) (hc : mq n L < q) :
    Calls Tryz.prog 82 #[.agg #[.int .i64 av, v], .int .i64 q, .int .i64 n] w fun e w' => Ans w w' [117, 110, 109, 97, 114, 107] (unmarkO av L q n) e ∧ Below w.heap.size w w' := by
  have HQ1 := hide hq1
  clear HQ1
  have HRM := hide h
  obtain ⟨a, cap, rfl, _, _⟩ := h
  have HBG := hide (fun (W : World) (hw : Below w.heap.size w W) => begin_none av q _ L W (HRM.out.later hw) ho h1 hl hb)
  obtain ⟨hR, hq⟩ := bg_none h1 hb
  have hav := hR.av0
  have hal := hR.all
  have htop : top = 9223372036854775807 := rfl
  have hmq := mq_ge (n := n) hR.ri
  rw [show unmarkO av L q n = eno 18 by unfold unmarkO; rw [hb]; rw [if_neg hm]; exact if_pos hc]
  have hme : (mq n L == 0) = false := by rw [beq_eq_false_iff_ne]; exact hm
  have HUN := hide (fun (W : World) (hw : Below w.heap.size w W) => under_any _ L n W (HRM.out.later hw) hR.ri hR.few)
  have e := sub_short (a := mq n L) (b := q) (by omega) hc
  have HAR := hide (fun W => sub_any (mq n L) q W (by omega) hq1)
  rw [e.2, e.1, show errV 2 = .iface 52 (.int .i64 2) from rfl] at HAR
  have HRF := hide (fun W => refuse_any [117, 110, 109, 97, 114, 107] 52 (.int .i64 18) W)
  have n0 := ifNeq0
  have n1 := ifNeq
  have X0 := hide (Bx2.new w av (.slice a L.length cap))
  obtain ⟨x0, x1, y0, y1, f0, f1⟩ := X0.out.facts
  generalize mq n L = m at *
  generalize av + sm L = T at *
  clear hb hR hq hav hal htop hmq hm hc e
  go_enter Tryz.func82, Tryz.ntmps82
  go_wp2_with fail
  refine (HBG.out _ X0.out.low).mono ?_
  rintro e w1 ⟨rfl, hb⟩
  have X1 := hide (X0.out.later hb)
  obtain ⟨x0, x1, y0, y1, f0, f1⟩ := X1.out.facts
  clear hb
  go_wp2_with fail
  refine (HUN.out _ X1.out.low).mono ?_
  rintro e w2 ⟨rfl, hb⟩
  have X2 := hide (X1.out.later hb)
  obtain ⟨x0, x1, y0, y1, f0, f1⟩ := X2.out.facts
  clear hb
  go_wp2_with fail
  refine (HAR.out _).mono ?_
  rintro e w' ⟨rfl, hw⟩
  have hw' := hw.symm
  clear hw
  subst hw'
  go_wp2_with fail
  refine (HRF.out _).mono ?_
  rintro e w3 ⟨rfl, hb⟩
  have X3 := hide (X2.out.later hb)
  obtain ⟨x0, x1, y0, y1, f0, f1⟩ := X3.out.facts
  clear hb
  unfold refV
  go_wp2_with fail
  obtain ⟨e1, e3⟩ := refuse_end X3.out
  generalize ((w3.setCell ⟨w.heap.size + 1, 0, none⟩ (.int .i64 0)).setCell ⟨w.heap.size + 1, 1, none⟩ (.slice Option.none 0 0)) = X at *
  obtain ⟨dd0, dd1⟩ := pair_cells e1 rfl
  exact bodyPost_ret (v := .tuple #[posZ, refV [117, 110, 109, 97, 114, 107] (.iface 52 (.int .i64 18))]) (by simp [results, Tryz.results82, go_sem, dd0, dd1, refV]) rfl ⟨rfl, e3⟩
set_option maxRecDepth 100000 in
set_option maxHeartbeats 2000000 in
theorem unmark_k (av q n : Int) (v : Value) (L : List Mk) (w : World) (h : RM w v L) (ho : MOk L) (h1 : av ≤ top) (hq1 : q ≤ top) (hl : L.length ≤ 4611686018427387904) (hb : bg av L q = none) (hm : ¬ mq n L = 0) (hc : ¬ mq n L < q) :
    Calls Tryz.prog 82 #[.agg #[.int .i64 av, v], .int .i64 q, .int .i64 n] w fun e w' => Ans w w' [117, 110, 109, 97, 114, 107] (unmarkO av L q n) e ∧ Below w.heap.size w w' := by
  have HQ1 := hide hq1
  clear HQ1
  have HRM := hide h
  obtain ⟨a, cap, rfl, _, _⟩ := h
  have HBG := hide (fun (W : World) (hw : Below w.heap.size w W) => begin_none av q _ L W (HRM.out.later hw) ho h1 hl hb)
  obtain ⟨hR, hq⟩ := bg_none h1 hb
  have hav := hR.av0
  have hal := hR.all
  have htop : top = 9223372036854775807 := rfl
  have hmq := mq_ge (n := n) hR.ri
  rw [show unmarkO av L q n = .ok (av + q) (setM n (mq n L - q) L) by unfold unmarkO; rw [hb]; rw [if_neg hm]; exact if_neg hc]
  have hme : (mq n L == 0) = false := by rw [beq_eq_false_iff_ne]; exact hm
  have HUN := hide (fun (W : World) (hw : Below w.heap.size w W) => under_any _ L n W (HRM.out.later hw) hR.ri hR.few)
  have e := sub_ok (a := mq n L) (b := q) (by omega) hc
  have HAR := hide (fun W => sub_any (mq n L) q W (by omega) hq1)
  rw [e.2, e.1, show errV 0 = .nilIface from rfl] at HAR
  have HTU := hide (fun (W : World) (hw : Below w.heap.size w W) => turned_any av (av + q) _ L (n) (mq n L - q) W (HRM.out.later hw) hR.ri hR.few)
  generalize setM (n) (mq n L - q) L = R at *
  have n0 := ifNeq0
  have n1 := ifNeq
  have X0 := hide (Bx2.new w av (.slice a L.length cap))
  obtain ⟨x0, x1, y0, y1, f0, f1⟩ := X0.out.facts
  obtain ⟨A2, hA2⟩ : ∃ A2, av + q = A2 := ⟨_, rfl⟩
  rw [hA2] at HTU ⊢
  have hw1 : wrap64 (av + q) = A2 := by rw [← hA2]; unfold wrap64; omega
  have hw2 : IntKind.i64.wrap (av + q) = A2 := by rw [IntKind.wrap_i64, ← hA2]; omega
  generalize mq n L - q = m2 at *
  generalize mq n L = m at *
  generalize av + sm L = T at *
  clear hb hR hq hav hal htop hmq hm hc e hA2
  go_enter Tryz.func82, Tryz.ntmps82
  go_wp2_with fail
  refine (HBG.out _ X0.out.low).mono ?_
  rintro e w1 ⟨rfl, hb⟩
  have X1 := hide (X0.out.later hb)
  obtain ⟨x0, x1, y0, y1, f0, f1⟩ := X1.out.facts
  clear hb
  go_wp2_with fail
  refine (HUN.out _ X1.out.low).mono ?_
  rintro e w2 ⟨rfl, hb⟩
  have X2 := hide (X1.out.later hb)
  obtain ⟨x0, x1, y0, y1, f0, f1⟩ := X2.out.facts
  clear hb
  go_wp2_with fail
  refine (HAR.out _).mono ?_
  rintro e w' ⟨rfl, hw⟩
  have hw' := hw.symm
  clear hw
  subst hw'
  go_wp2_with fail
  refine (HTU.out _ X2.out.low).mono ?_
  rintro e w3 ⟨v', rfl, hO, hb⟩
  obtain ⟨a4, c4, hv4⟩ := rm_lt (OM.rm hO)
  subst hv4
  have HO := hide hO
  have X3 := hide (X2.out.later hb)
  obtain ⟨x0, x1, y0, y1, f0, f1⟩ := X3.out.facts
  clear hb
  go_wp2_with fail
  obtain ⟨e1, e2, e3⟩ := turn_end (a2 := A2) X3.out.res (World.ownsRow.mono HO.out X2.out.low.size) X3.out.low (Nat.le_succ _)
  generalize ((w3.setCell ⟨w.heap.size + 1, 0, none⟩ (.int .i64 A2)).setCell ⟨w.heap.size + 1, 1, none⟩ (.slice a4 R.length c4)) = X at *
  obtain ⟨dd0, dd1⟩ := pair_cells e1 rfl
  exact bodyPost_ret (v := .tuple #[.agg #[.int .i64 A2, .slice a4 R.length c4], .nilIface]) (by simp [results, Tryz.results82, go_sem, dd0, dd1]) rfl ⟨⟨_, rfl, e2⟩, e3⟩
theorem credit_any (av q : Int) (v : Value) (L : List Mk) (w : World) (h : RM w v L) (ho : MOk L) (h1 : av ≤ top) (hq1 : q ≤ top) (hl : L.length ≤ 4611686018427387904) :
    Calls Tryz.prog 79 #[.agg #[.int .i64 av, v], .int .i64 q] w fun e w' => Ans w w' [99, 114, 101, 100, 105, 116] (creditO av L q) e ∧ Below w.heap.size w w' := by
  cases hb : bg av L q with
  | some p => exact credit_b av q v L w p.1 p.2 h ho h1 hq1 hl hb
  | none =>
    by_cases hc : top < av + sm L + q
    · exact credit_o av q v L w h ho h1 hq1 hl hb hc
    · exact credit_k av q v L w h ho h1 hq1 hl hb hc
theorem debit_any (av q n : Int) (v : Value) (L : List Mk) (w : World) (h : RM w v L) (ho : MOk L) (h1 : av ≤ top) (hq1 : q ≤ top) (hl : L.length ≤ 4611686018427387904) :
    Calls Tryz.prog 80 #[.agg #[.int .i64 av, v], .int .i64 q, .int .i64 n] w fun e w' => Ans w w' [100, 101, 98, 105, 116] (debitO av L q n) e ∧ Below w.heap.size w w' := by
  cases hb : bg av L q with
  | some p => exact debit_b av q n v L w p.1 p.2 h ho h1 hq1 hl hb
  | none =>
    by_cases hn : n < 0 ∨ 65536 < n
    · exact debit_n av q n v L w h ho h1 hq1 hl hb hn
    · by_cases hz : n = 0
      · by_cases hc : av + mq n L < q
        · exact debit_s0 av q n v L w h ho h1 hq1 hl hb hz hc
        · by_cases hm : q ≤ mq n L
          · by_cases he : mq n L = q
            · exact debit_e0 av q n v L w h ho h1 hq1 hl hb hz he
            · exact debit_m0 av q n v L w h ho h1 hq1 hl hb hz hc (by omega)
          · exact debit_a0 av q n v L w h ho h1 hq1 hl hb hz hc hm
      · by_cases hc : av + mq n L < q
        · exact debit_s1 av q n v L w h ho h1 hq1 hl hb (by omega) (by omega) hc
        · by_cases hm : q ≤ mq n L
          · by_cases he : mq n L = q
            · exact debit_e1 av q n v L w h ho h1 hq1 hl hb (by omega) (by omega) he
            · exact debit_m1 av q n v L w h ho h1 hq1 hl hb (by omega) (by omega) hc (by omega)
          · exact debit_a1 av q n v L w h ho h1 hq1 hl hb (by omega) (by omega) hc hm
theorem mark_any (av q n : Int) (v : Value) (L : List Mk) (w : World) (h : RM w v L) (ho : MOk L) (h1 : av ≤ top) (hq1 : q ≤ top) (hl : L.length ≤ 4611686018427387904) :
    Calls Tryz.prog 81 #[.agg #[.int .i64 av, v], .int .i64 q, .int .i64 n] w fun e w' => Ans w w' [109, 97, 114, 107] (markO av L q n) e ∧ Below w.heap.size w w' := by
  cases hb : bg av L q with
  | some p => exact mark_b av q n v L w p.1 p.2 h ho h1 hq1 hl hb
  | none =>
    by_cases hn : n < 1 ∨ 65536 < n
    · exact mark_n av q n v L w h ho h1 hq1 hl hb hn
    · by_cases hc : av < q
      · exact mark_s av q n v L w h ho h1 hq1 hl hb (by omega) (by omega) hc
      · by_cases hm : mq n L = 0
        · by_cases h88 : L.length = 8
          · exact mark_f av q n v L w h ho h1 hq1 hl hb (by omega) (by omega) hc hm h88
          · exact mark_k av q n v L w h ho h1 hq1 hl hb (by omega) (by omega) hc hm h88
        · exact mark_l av q n v L w h ho h1 hq1 hl hb (by omega) (by omega) hc hm
theorem unmark_any (av q n : Int) (v : Value) (L : List Mk) (w : World) (h : RM w v L) (ho : MOk L) (h1 : av ≤ top) (hq1 : q ≤ top) (hl : L.length ≤ 4611686018427387904) :
    Calls Tryz.prog 82 #[.agg #[.int .i64 av, v], .int .i64 q, .int .i64 n] w fun e w' => Ans w w' [117, 110, 109, 97, 114, 107] (unmarkO av L q n) e ∧ Below w.heap.size w w' := by
  cases hb : bg av L q with
  | some p => exact unmark_b av q n v L w p.1 p.2 h ho h1 hq1 hl hb
  | none =>
    by_cases hm : mq n L = 0
    · exact unmark_n av q n v L w h ho h1 hq1 hl hb hm
    · by_cases hc : mq n L < q
      · exact unmark_s av q n v L w h ho h1 hq1 hl hb hm hc
      · exact unmark_k av q n v L w h ho h1 hq1 hl hb hm hc

end Go.Proofs.YtdjhbecbbmdimaaGreatDoor.BL
namespace Go.Proofs.YtdjhbecbbmdimaaGreatDoor.BL

theorem Ri.le : ∀ {L : List Mk} {a : Int}, Ri a L → ∀ p ∈ L, a < p.1 ∧ p.1 ≤ 65536 ∧ 1 ≤ p.2 ∧ p.2 ≤ sm L
  | q :: r, a, ⟨h1, h2, h3, h4⟩, p, hp => by
    have h0 := sm_pos h4
    rcases List.mem_cons.1 hp with rfl | hp
    · exact ⟨h1, h2, h3, by unfold sm; omega⟩
    · obtain ⟨i1, i2, i3, i4⟩ := Ri.le h4 p hp
      exact ⟨by omega, i2, i3, by unfold sm; omega⟩
theorem Rt.mok {av : Int} {L : List Mk} (h : Rt av L) : MOk L := fun p hp => by
  obtain ⟨h1, h2, h3, h4⟩ := h.ri.le p hp
  have := h.all
  have := h.av0
  have htop : top = 9223372036854775807 := rfl
  exact ⟨by omega, by omega, by omega, by omega⟩
theorem Rt.top {av : Int} {L : List Mk} (h : Rt av L) : av ≤ top := by have := h.all; have := sm_pos h.ri; omega
theorem setM_few {n q : Int} {L : List Mk} (hr : Ri 0 L) (h8 : L.length ≤ 8) (h : ¬ 0 < q ∨ hasN n L = true ∨ L.length < 8) : (setM n q L).length ≤ 8 := by
  have h1 := setM_len (n := n) (q := q) hr
  have h2 := putM_len n q
  rcases h with h | h | h
  · rw [putM_len0 h] at h1; simp at h1; split at h1 <;> omega
  · rw [h] at h1; simp at h1; omega
  · split at h1 <;> omega
theorem hasN_of {n : Int} {L : List Mk} (hr : Ri 0 L) (h : 1 ≤ mq n L) : hasN n L = true := ((mq_ge (n := n) hr).2.1).2 h
/-- With less, or nothing, under a name that may be there. -/
theorem setM_right {av a n q : Int} {L : List Mk} (h : Rt av L) (ha : 0 ≤ a) (hq : 0 ≤ q) (hn : 0 < q → 0 < n ∧ n ≤ 65536) (h8 : ¬ 0 < q ∨ hasN n L = true ∨ L.length < 8) (hs : a + (sm L - mq n L + q) ≤ top) : Rt a (setM n q L) ∧ a + sm (setM n q L) = a + (sm L - mq n L + q) := by
  have e := setM_sm (n := n) hq h.ri
  by_cases h0 : 0 < q
  · exact ⟨⟨ha, setM_few h.ri h.few h8, setM_Ri hq (hn h0).2 h.ri (fun _ => (hn h0).1), by omega⟩, by omega⟩
  · obtain rfl : q = 0 := by omega
    by_cases hle : n ≤ 65536
    · exact ⟨⟨ha, setM_few h.ri h.few h8, setM_Ri hq hle h.ri (fun h => by omega), by omega⟩, by omega⟩
    · have : setM n 0 L = L := by
        have h1 : hasN n L = false := by
          cases hb : hasN n L with
          | false => rfl
          | true =>
            have := h.ri.le _ (List.mem_of_getElem? ((lo_at h.ri).1 hb))
            dsimp only at this; omega
        have := setM_same (n := n) h.ri
        rw [mq_no h.ri h1] at this; exact this
      rw [this] at e ⊢
      exact ⟨⟨ha, h.few, h.ri, by omega⟩, by omega⟩
theorem setM_name {av n : Int} {L : List Mk} (h : Rt av L) (hm : 1 ≤ mq n L) : 0 < n ∧ n ≤ 65536 := by
  have := h.ri.le _ (List.mem_of_getElem? ((lo_at h.ri).1 (hasN_of h.ri hm)))
  dsimp only at this; omega
theorem credit_ok {av q a : Int} {L M : List Mk} (h1 : av ≤ top) (h : creditO av L q = .ok a M) : Rt av L ∧ 1 ≤ q ∧ Rt a M ∧ a + sm M = av + sm L + q ∧ a = av + q ∧ M = L := by
  unfold creditO at h
  cases hb : bg av L q with
  | some p => rw [hb] at h; cases h
  | none =>
    rw [hb] at h
    obtain ⟨hR, hq⟩ := bg_none h1 hb
    dsimp only at h
    split at h
    · cases h
    · rename_i hc
      cases h
      have e : setM 0 0 L = L := by
        have := setM_same (n := 0) hR.ri
        rw [(mq_gt hR.ri (Int.le_refl 0)).1] at this; exact this
      rw [e]
      have := hR.av0
      exact ⟨hR, hq, ⟨by omega, hR.few, hR.ri, by omega⟩, by omega, rfl, rfl⟩
theorem debit_ok {av q n a : Int} {L M : List Mk} (h1 : av ≤ top) (h : debitO av L q n = .ok a M) : Rt av L ∧ 1 ≤ q ∧ Rt a M ∧ a + sm M = av + sm L - q ∧ 0 ≤ n ∧ n ≤ 65536 ∧ q ≤ av + mq n L ∧ a = av - (q - min (mq n L) q) ∧ M = setM n (mq n L - min (mq n L) q) L := by
  unfold debitO at h
  cases hb : bg av L q with
  | some p => rw [hb] at h; cases h
  | none =>
    rw [hb] at h
    obtain ⟨hR, hq⟩ := bg_none h1 hb
    have hm := mq_ge (n := n) hR.ri
    have ha := hR.all
    have h0 := hR.av0
    dsimp only at h
    split at h
    · cases h
    · rename_i hn
      split at h
      · cases h
      · rename_i hc
        split at h
        · rename_i hl
          cases h
          have hr := setM_right (n := n) (q := mq n L - q) hR h0 (by omega) (fun _ => setM_name hR (by omega)) (.inr (.inl (hasN_of hR.ri (by omega)))) (by omega)
          have e : min (mq n L) q = q := by omega
          exact ⟨hR, hq, hr.1, by omega, by omega, by omega, by omega, by omega, by rw [e]⟩
        · rename_i hl
          cases h
          have hr := setM_right (a := av - (q - mq n L)) (n := n) (q := 0) hR (by omega) (by omega) (fun h => by omega) (.inl (by omega)) (by omega)
          have e : min (mq n L) q = mq n L := by omega
          exact ⟨hR, hq, hr.1, by omega, by omega, by omega, by omega, by omega, by rw [e, Int.sub_self]⟩
theorem mark_ok {av q n a : Int} {L M : List Mk} (h1 : av ≤ top) (h : markO av L q n = .ok a M) : Rt av L ∧ 1 ≤ q ∧ Rt a M ∧ a + sm M = av + sm L ∧ 1 ≤ n ∧ n ≤ 65536 ∧ a = av - q ∧ M = setM n (mq n L + q) L := by
  unfold markO at h
  cases hb : bg av L q with
  | some p => rw [hb] at h; cases h
  | none =>
    rw [hb] at h
    obtain ⟨hR, hq⟩ := bg_none h1 hb
    have hm := mq_ge (n := n) hR.ri
    have ha := hR.all
    have h0 := hR.av0
    dsimp only at h
    split at h
    · cases h
    · rename_i hn
      split at h
      · cases h
      · rename_i hc
        split at h
        · cases h
        · rename_i hf
          cases h
          have hfew := hR.few
          have hr := setM_right (a := av - q) (n := n) (q := mq n L + q) hR (by omega) (by omega) (fun _ => by omega) (.inr (by
            by_cases hz : mq n L = 0
            · exact .inr (by have : ¬ L.length = 8 := fun e => hf ⟨hz, e⟩; omega)
            · exact .inl (hasN_of hR.ri (by omega)))) (by omega)
          exact ⟨hR, hq, hr.1, by omega, by omega, by omega, rfl, rfl⟩
theorem unmark_ok {av q n a : Int} {L M : List Mk} (h1 : av ≤ top) (h : unmarkO av L q n = .ok a M) : Rt av L ∧ 1 ≤ q ∧ Rt a M ∧ a + sm M = av + sm L ∧ a = av + q ∧ M = setM n (mq n L - q) L := by
  unfold unmarkO at h
  cases hb : bg av L q with
  | some p => rw [hb] at h; cases h
  | none =>
    rw [hb] at h
    obtain ⟨hR, hq⟩ := bg_none h1 hb
    have hm := mq_ge (n := n) hR.ri
    have ha := hR.all
    have h0 := hR.av0
    dsimp only at h
    split at h
    · cases h
    · rename_i hz
      split at h
      · cases h
      · rename_i hc
        cases h
        have hr := setM_right (a := av + q) (n := n) (q := mq n L - q) hR (by omega) (by omega) (fun _ => setM_name hR (by omega)) (.inr (.inl (hasN_of hR.ri (by omega)))) (by omega)
        exact ⟨hR, hq, hr.1, by omega, rfl, rfl⟩
/-- The one of the four. -/
def askO (k q n av : Int) (L : List Mk) : Out := if k = 0 then creditO av L q else if k = 1 then debitO av L q n else if k = 2 then markO av L q n else unmarkO av L q n
def askS (k : Int) : List UInt8 := if k = 0 then [99, 114, 101, 100, 105, 116] else if k = 1 then [100, 101, 98, 105, 116] else if k = 2 then [109, 97, 114, 107] else [117, 110, 109, 97, 114, 107]
theorem ask_ok {k q n av a : Int} {L M : List Mk} (h1 : av ≤ top) (h : askO k q n av L = .ok a M) : Rt av L ∧ 1 ≤ q ∧ Rt a M ∧ a + sm M = av + sm L + (if k = 0 then q else if k = 1 then -q else 0) := by
  unfold askO at h
  by_cases k0 : k = 0
  · rw [if_pos k0] at h ⊢
    obtain ⟨h1, h2, h3, h4, _⟩ := credit_ok h1 h
    exact ⟨h1, h2, h3, h4⟩
  rw [if_neg k0] at h ⊢
  by_cases k1 : k = 1
  · rw [if_pos k1] at h ⊢
    obtain ⟨h1, h2, h3, h4, _⟩ := debit_ok h1 h
    exact ⟨h1, h2, h3, by omega⟩
  rw [if_neg k1] at h ⊢
  by_cases k2 : k = 2
  · rw [if_pos k2] at h
    obtain ⟨h1, h2, h3, h4, _⟩ := mark_ok h1 h
    exact ⟨h1, h2, h3, by omega⟩
  rw [if_neg k2] at h
  obtain ⟨h1, h2, h3, h4, _⟩ := unmark_ok h1 h
  exact ⟨h1, h2, h3, by omega⟩
end Go.Proofs.YtdjhbecbbmdimaaGreatDoor.BL
