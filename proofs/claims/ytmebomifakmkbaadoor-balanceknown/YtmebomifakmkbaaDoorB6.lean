/-
  My own text: what the calls that turn a position begin with; refusals; Marked, Cover.
-/
import Derived.Test.YtmebomifakmkbaaDoorB5
import Derived.Test.YtmebomifakmkbaaDoorBE2
namespace Go.Proofs.YtmebomifakmkbaaDoor
open Go.RowKit

set_option maxRecDepth 100000 in
theorem turned_any (av a2 : Int) (v : Value) (L : List Mk) (n q : Int) (w : World) (h : RM w v L) (hr : Ri 0 L) (h8 : L.length ≤ 8) :
    Calls Tryd.prog 54 #[.agg #[.int .i64 av, v], .int .i64 a2, .int .i64 n, .int .i64 q] w fun e w' => ∃ v', e = .returned (.agg #[.int .i64 a2, v']) ∧ OM w' w.heap.size v' (setM n q L) ∧ Below w.heap.size w w' := by
  obtain ⟨a, cap, rfl, hcap, hc⟩ := id h
  rcases a with _ | ad
  · have hnil : L = [] := hc.resolve_right (fun ⟨_, _, e, _⟩ => by cases e)
    by_cases hq : 0 < q
    · exact turned_n01 av a2 cap L n q w h hr h8 hq (by rw [hnil]; rfl)
    · exact turned_n00 av a2 cap L n q w h hr h8 hq (by rw [hnil]; rfl)
  · rcases hc with hnil | ⟨b, off, e, _⟩
    · have hn : hasN n L = false := by rw [hnil]; rfl
      by_cases hct : cap = 0
      · subst hct
        by_cases hq : 0 < q
        · exact turned_k01 av a2 ad L n q w h hr h8 hq hn hnil
        · exact turned_k00 av a2 ad L n q w h hr h8 hq hn hnil
      · by_cases hq : 0 < q
        · exact turned_m01 av a2 ad cap L n q w h hr h8 hq hn hnil hct
        · exact turned_m00 av a2 ad cap L n q w h hr h8 hq hn hnil hct
    · cases e
      cases hn : hasN n L with
      | true =>
        by_cases hct : cap = lo n L + 1
        · by_cases hq : 0 < q
          · exact turned_e11 av a2 b off cap L n q w h hr h8 hq hn hct
          · exact turned_e10 av a2 b off cap L n q w h hr h8 hq hn hct
        · by_cases hq : 0 < q
          · exact turned_g11 av a2 b off cap L n q w h hr h8 hq hn hct
          · exact turned_g10 av a2 b off cap L n q w h hr h8 hq hn hct
      | false =>
        by_cases hct : cap = lo n L + 0
        · by_cases hq : 0 < q
          · exact turned_e01 av a2 b off cap L n q w h hr h8 hq hn hct
          · exact turned_e00 av a2 b off cap L n q w h hr h8 hq hn hct
        · by_cases hq : 0 < q
          · exact turned_g01 av a2 b off cap L n q w h hr h8 hq hn hct
          · exact turned_g00 av a2 b off cap L n q w h hr h8 hq hn hct
/-- What is wrong at the beginning: the error's type, and the error. -/
def bg (av : Int) (L : List Mk) (q : Int) : Option (TypeId × Value) :=
  if ¬ (ck av L).1 = 0 then some (78, .agg #[.int .i64 (ck av L).1, .int .i64 0, .int .i64 (ck av L).2]) else if q < 1 then some (74, .int .i64 16) else none
theorem bg_none {av q : Int} {L : List Mk} (h1 : av ≤ top) (h : bg av L q = none) : Rt av L ∧ 1 ≤ q := by
  unfold bg at h
  split at h
  · cases h
  · rename_i hc
    split at h
    · cases h
    · exact ⟨(ck_right h1).1 (by omega), by omega⟩
theorem ifNeq (t : TypeId) (x : Value) (W : World) : (binOp .neq 29 (.iface t x) .nilIface).run Tryd.prog W = .ok (.bool true) W := by kernel_rfl
theorem ifNeq0 (W : World) : (binOp .neq 29 .nilIface .nilIface).run Tryd.prog W = .ok (.bool false) W := by kernel_rfl
set_option maxRecDepth 100000 in
set_option maxHeartbeats 1000000 in
theorem begin_none (av q : Int) (v : Value) (L : List Mk) (w : World) (h : RM w v L) (ho : MOk L) (h1 : av ≤ top) (hl : L.length ≤ 4611686018427387904) (hb : bg av L q = none) :
    Calls Tryd.prog 50 #[.agg #[.int .i64 av, v], .int .i64 q] w fun e w' => e = .returned (.tuple #[.int .i64 (av + sm L), .nilIface]) ∧ Below w.heap.size w w' := by
  have HW := hide (fun (W : World) (hb : Below w.heap.size w W) => weigh_any av v L W (h.later hb) ho h1 hl)
  obtain ⟨a, cap, rfl, _, _⟩ := h
  obtain ⟨hR, hq⟩ := bg_none h1 hb
  rw [wgV_yes (ck_ok h1 hR)] at HW
  generalize av + sm L = T at *
  have B0 := hide ((Below.refl w.heap.size w).alloc (Nat.le_refl _) (.cells #[.int .i64 av, .slice a L.length cap] 24))
  obtain ⟨x0, x1⟩ := pair_cells (Px.new w av (.slice a L.length cap)) rfl
  have n0 := ifNeq0
  have d1 : decide (q < 1) = false := decide_eq_false (by omega)
  clear hR hq hb
  go_enter Tryd.func50, Tryd.ntmps50
  go_wp2_with fail
  refine (HW.out _ B0.out).mono ?_
  rintro e w1 ⟨rfl, hb⟩
  have HB := hide hb
  clear hb
  go_wp2_with fail
  go_ret2
  exact ⟨rfl, B0.out.trans (HB.out.mono B0.out.size)⟩
set_option maxRecDepth 100000 in
set_option maxHeartbeats 1000000 in
theorem begin_some (av q : Int) (v : Value) (L : List Mk) (w : World) (t : TypeId) (x : Value) (h : RM w v L) (ho : MOk L) (h1 : av ≤ top) (hl : L.length ≤ 4611686018427387904) (hb : bg av L q = some (t, x)) :
    Calls Tryd.prog 50 #[.agg #[.int .i64 av, v], .int .i64 q] w fun e w' => e = .returned (.tuple #[.int .i64 0, .iface t x]) ∧ Below w.heap.size w w' := by
  have HW := hide (fun (W : World) (hb : Below w.heap.size w W) => weigh_any av v L W (h.later hb) ho h1 hl)
  obtain ⟨a, cap, rfl, _, _⟩ := h
  have B0 := hide ((Below.refl w.heap.size w).alloc (Nat.le_refl _) (.cells #[.int .i64 av, .slice a L.length cap] 24))
  obtain ⟨x0, x1⟩ := pair_cells (Px.new w av (.slice a L.length cap)) rfl
  have n0 := ifNeq0
  have n1 := ifNeq
  by_cases hc : (ck av L).1 = 0
  · have hR := (ck_right h1).1 hc
    rw [wgV_yes (ck_ok h1 hR)] at HW
    unfold bg at hb
    rw [if_neg (by simpa using hc)] at hb
    by_cases hq : q < 1
    · rw [if_pos hq] at hb
      cases hb
      generalize av + sm L = T at *
      have d1 : decide (q < 1) = true := decide_eq_true hq
      clear hR hq hc
      go_enter Tryd.func50, Tryd.ntmps50
      go_wp2_with fail
      refine (HW.out _ B0.out).mono ?_
      rintro e w1 ⟨rfl, hb⟩
      have HB := hide hb
      clear hb
      go_wp2_with fail
      go_ret2
      exact ⟨rfl, B0.out.trans (HB.out.mono B0.out.size)⟩
    · rw [if_neg hq] at hb; cases hb
  · unfold bg at hb
    rw [if_pos hc] at hb
    rw [wgV_no (n := (ck av L).1) (k := (ck av L).2) rfl hc] at HW
    cases hb
    unfold fltV at HW
    generalize (ck av L).1 = c1 at *
    generalize (ck av L).2 = c2 at *
    clear hc
    go_enter Tryd.func50, Tryd.ntmps50
    go_wp2_with fail
    refine (HW.out _ B0.out).mono ?_
    rintro e w1 ⟨rfl, hb⟩
    have HB := hide hb
    clear hb
    go_wp2_with fail
    go_ret2
    exact ⟨rfl, B0.out.trans (HB.out.mono B0.out.size)⟩
/-- No position. -/
abbrev posZ : Value := .agg #[.int .i64 0, .slice Option.none 0 0]
set_option maxRecDepth 100000 in
set_option maxHeartbeats 1000000 in
theorem refuse_any (s : List UInt8) (t : TypeId) (x : Value) (w : World) :
    Calls Tryd.prog 51 #[.string ⟨s.toArray⟩, .iface t x] w fun e w' => e = .returned (.tuple #[posZ, refV s (.iface t x)]) ∧ Below w.heap.size w w' := by
  have B0 := hide ((Below.refl w.heap.size w).alloc (Nat.le_refl _) (.cells #[.int .i64 0, .slice Option.none 0 0] 24))
  have Y0 := alloc_new w (.cells #[.int .i64 0, .slice Option.none 0 0] 24)
  obtain ⟨x0, x1⟩ := pair_cells Y0 rfl
  clear Y0
  go_enter Tryd.func51, Tryd.ntmps51
  go_wp2_with fail
  exact bodyPost_ret (v := .tuple #[posZ, refV s (.iface t x)]) (by simp [results, Tryd.results51, go_sem, refV]) rfl ⟨rfl, B0.out⟩
def mkdV (av : Int) (L : List Mk) (n : Int) : Int := if (ck av L).1 = 0 then mq n L else 0
def covV (av : Int) (L : List Mk) (n : Int) : Int := if (ck av L).1 = 0 then av + mq n L else 0
theorem ckE_yes {r : Int × Int} (h : r.1 = 0) : ckE r = .nilIface := if_pos h
theorem ckE_no {r : Int × Int} (h : ¬ r.1 = 0) : ckE r = .iface 78 (.agg #[.int .i64 r.1, .int .i64 0, .int .i64 r.2]) := if_neg h
set_option maxRecDepth 100000 in
set_option maxHeartbeats 1000000 in
theorem marked_any (av n : Int) (v : Value) (L : List Mk) (w : World) (h : RM w v L) (ho : MOk L) (h1 : av ≤ top) (hl : L.length ≤ 4611686018427387904) :
    Calls Tryd.prog 16 #[.agg #[.int .i64 av, v], .int .i64 n] w fun e w' => e = .returned (.int .i64 (mkdV av L n)) ∧ Below w.heap.size w w' := by
  have HW := hide (fun (W : World) (hb : Below w.heap.size w W) => check_any av v L W (h.later hb) ho h1 hl)
  have HRM := hide h
  obtain ⟨a, cap, rfl, _, _⟩ := h
  have B0 := hide ((Below.refl w.heap.size w).alloc (Nat.le_refl _) (.cells #[.int .i64 av, .slice a L.length cap] 24))
  have X0 := hide (Px.new w av (.slice a L.length cap))
  obtain ⟨x0, x1⟩ := pair_cells X0.out rfl
  have n0 := ifNeq0
  have n1 := ifNeq
  by_cases hc : (ck av L).1 = 0
  · have hR := (ck_right h1).1 hc
    rw [ckE_yes hc] at HW
    have HU := hide (fun (W : World) (hb : Below w.heap.size w W) => under_any _ L n W (HRM.out.later hb) hR.ri hR.few)
    rw [show mkdV av L n = mq n L from if_pos hc]
    generalize mq n L = m at *
    clear hR hc HRM
    go_enter Tryd.func16, Tryd.ntmps16
    go_wp2_with fail
    refine (HW.out _ B0.out).mono ?_
    rintro e w1 ⟨rfl, hb⟩
    have HB := hide (B0.out.trans (hb.mono B0.out.size))
    obtain ⟨x0, x1⟩ := pair_cells (blk_later X0.out hb) rfl
    clear hb
    go_wp2_with fail
    refine (HU.out _ HB.out).mono ?_
    rintro e w2 ⟨rfl, hb⟩
    have HB2 := hide (HB.out.trans (hb.mono HB.out.size))
    clear hb
    go_wp2_with fail
    go_ret
    exact ⟨rfl, HB2.out⟩
  · rw [ckE_no hc] at HW
    rw [show mkdV av L n = 0 from if_neg hc]
    clear hc HRM
    generalize (ck av L).1 = c1 at *
    generalize (ck av L).2 = c2 at *
    go_enter Tryd.func16, Tryd.ntmps16
    go_wp2_with fail
    refine (HW.out _ B0.out).mono ?_
    rintro e w1 ⟨rfl, hb⟩
    have HB := hide (B0.out.trans (hb.mono B0.out.size))
    clear hb
    go_wp2_with fail
    go_ret
    exact ⟨rfl, HB.out⟩
set_option maxRecDepth 100000 in
set_option maxHeartbeats 1000000 in
theorem cover_any (av n : Int) (v : Value) (L : List Mk) (w : World) (h : RM w v L) (ho : MOk L) (h1 : av ≤ top) (hl : L.length ≤ 4611686018427387904) :
    Calls Tryd.prog 18 #[.agg #[.int .i64 av, v], .int .i64 n] w fun e w' => e = .returned (.int .i64 (covV av L n)) ∧ Below w.heap.size w w' := by
  have HW := hide (fun (W : World) (hb : Below w.heap.size w W) => check_any av v L W (h.later hb) ho h1 hl)
  have HRM := hide h
  obtain ⟨a, cap, rfl, _, _⟩ := h
  have B0 := hide ((Below.refl w.heap.size w).alloc (Nat.le_refl _) (.cells #[.int .i64 av, .slice a L.length cap] 24))
  have X0 := hide (Px.new w av (.slice a L.length cap))
  obtain ⟨x0, x1⟩ := pair_cells X0.out rfl
  have n0 := ifNeq0
  have n1 := ifNeq
  by_cases hc : (ck av L).1 = 0
  · have hR := (ck_right h1).1 hc
    rw [ckE_yes hc] at HW
    have HU := hide (fun (W : World) (hb : Below w.heap.size w W) => under_any _ L n W (HRM.out.later hb) hR.ri hR.few)
    rw [show covV av L n = av + mq n L from if_pos hc]
    have hm := mq_ge (n := n) hR.ri
    have ha := hR.all
    have ha0 := hR.av0
    have htop : top = 9223372036854775807 := rfl
    have hwr : IntKind.i64.wrap (av + mq n L) = av + mq n L := by rw [IntKind.wrap_i64]; omega
    have hwr2 : wrap64 (av + mq n L) = av + mq n L := by unfold wrap64; omega
    generalize mq n L = m at *
    clear hR hc HRM hm ha ha0 htop
    go_enter Tryd.func18, Tryd.ntmps18
    go_wp2_with fail
    refine (HW.out _ B0.out).mono ?_
    rintro e w1 ⟨rfl, hb⟩
    have HB := hide (B0.out.trans (hb.mono B0.out.size))
    have HL := hide (show w.heap.size < w1.heap.size from blk_lt (blk_later X0.out hb))
    obtain ⟨x0, x1⟩ := pair_cells (blk_later X0.out hb) rfl
    clear hb
    go_wp2_with fail
    go_region_held3 (fun W => W.cell? ⟨w.heap.size, 0, none⟩ = some (.int .i64 av) ∧ W.cell? ⟨w.heap.size, 1, none⟩ = some (.slice a L.length cap)) (go_keep) ((go_at_call 38; refine (HU.out _ (by first | exact HB.out | exact HB.out.drew)).mono ?_; rintro e w2 ⟨rfl, hb⟩; have y0 := (hb.cell (p := ⟨w.heap.size, 0, none⟩) HL.out).trans x0; have y1 := (hb.cell (p := ⟨w.heap.size, 1, none⟩) HL.out).trans x1; have HBB := hide (HB.out.drew.trans (hb.mono HB.out.size)); clear hb))
    go_wp2_with fail
    go_ret
    exact ⟨rfl, HBB.out⟩
  · rw [ckE_no hc] at HW
    rw [show covV av L n = 0 from if_neg hc]
    clear hc HRM
    generalize (ck av L).1 = c1 at *
    generalize (ck av L).2 = c2 at *
    go_enter Tryd.func18, Tryd.ntmps18
    go_wp2_with fail
    refine (HW.out _ B0.out).mono ?_
    rintro e w1 ⟨rfl, hb⟩
    have HB := hide (B0.out.trans (hb.mono B0.out.size))
    clear hb
    go_wp2_with fail
    go_ret
    exact ⟨rfl, HB.out⟩
end Go.Proofs.YtmebomifakmkbaaDoor
