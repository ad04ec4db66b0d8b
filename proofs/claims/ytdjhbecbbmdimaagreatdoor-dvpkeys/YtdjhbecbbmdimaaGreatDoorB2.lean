/-
  My own text: B1, B2 in one.
-/
import Derived.Test.YtdjhbecbbmdimaaGreatDoorBE1
import Derived.BigQuiet
import Derived.Deep.QuietTactic
import Derived.Test.YtdjhbecbbmdimaaGreatDoorSums
namespace Go.Proofs.YtdjhbecbbmdimaaGreatDoor.BL
open Go.RowKit

/-- Marks as cells. -/
def mc : List Mk → List Value
  | [] => []
  | p :: t => .int .i64 p.1 :: .int .i64 p.2 :: mc t
theorem mc_app (a b : List Mk) : mc (a ++ b) = mc a ++ mc b := by
  induction a with
  | nil => rfl
  | cons p t ih => show _ :: _ :: mc (t ++ b) = _; rw [ih]; rfl
theorem mc_len (a : List Mk) : (mc a).length = a.length * 2 := by
  induction a with
  | nil => rfl
  | cons p t ih => show (mc t).length + 1 + 1 = (t.length + 1) * 2; rw [ih]; omega
theorem mc_at : ∀ {a : List Mk} {j : Nat} {p : Mk}, a[j]? = some p → (mc a)[j * 2]? = some (.int .i64 p.1) ∧ (mc a)[j * 2 + 1]? = some (.int .i64 p.2)
  | q :: t, 0, p, h => by simp at h; subst h; exact ⟨rfl, rfl⟩
  | q :: t, j + 1, p, h => by
    have h' : t[j]? = some p := by simpa using h
    have ih := mc_at h'
    constructor
    · rw [show (j + 1) * 2 = j * 2 + 1 + 1 by omega]; exact ih.1
    · rw [show (j + 1) * 2 + 1 = j * 2 + 1 + 1 + 1 by omega]; exact ih.2
theorem mc_take {l : List Mk} {k : Nat} {p : Mk} (h : l[k]? = some p) : mc (l.take (k + 1)) = mc (l.take k) ++ [.int .i64 p.1, .int .i64 p.2] := by
  rw [List.take_add_one, h, mc_app]; rfl
theorem mc_one : ∀ (l : List Mk), ∀ u ∈ mc l, u.oneCell' = true
  | p :: t, u, h => by
    rcases List.mem_cons.1 h with rfl | h
    · rfl
    · rcases List.mem_cons.1 h with rfl | h
      · rfl
      · exact mc_one t u h
/-- A row of marks. -/
def RM (w : World) (v : Value) (L : List Mk) : Prop := ∃ a cap, v = .slice a L.length cap ∧ L.length ≤ cap ∧ (L = [] ∨ ∃ b off, a = some ⟨b, off, none⟩ ∧ b < w.heap.size ∧ ∀ (j : Nat) (p : Mk), L[j]? = some p → w.cell? ⟨b, off + j * 2, none⟩ = some (.int .i64 p.1) ∧ w.cell? ⟨b, off + j * 2 + 1, none⟩ = some (.int .i64 p.2))
theorem RM.kept {w w' : World} {v : Value} {L : List Mk} (h : RM w v L) (hs : w.heap.size ≤ w'.heap.size) (hb : ∀ b, v.ownBlock = some b → ∀ o, w'.cell? ⟨b, o, none⟩ = w.cell? ⟨b, o, none⟩) : RM w' v L := by
  obtain ⟨a, cap, hv, hcap, h⟩ := h
  refine ⟨a, cap, hv, hcap, ?_⟩
  rcases h with h | ⟨b, off, ha, hlt, hc⟩
  · exact .inl h
  · have e := hb b (by rw [hv, ha]; rfl)
    exact .inr ⟨b, off, ha, Nat.lt_of_lt_of_le hlt hs, fun j p hj => ⟨(e _).trans (hc j p hj).1, (e _).trans (hc j p hj).2⟩⟩
theorem RM.later {w w' : World} {v : Value} {L : List Mk} (h : RM w v L) (hb : Below w.heap.size w w') : RM w' v L := by
  obtain ⟨a, cap, hv, hcap, h⟩ := h
  refine ⟨a, cap, hv, hcap, ?_⟩
  rcases h with h | ⟨b, off, ha, hlt, hc⟩
  · exact .inl h
  · exact .inr ⟨b, off, ha, Nat.lt_of_lt_of_le hlt hb.size, fun j p hj => ⟨(hb.cell (p := ⟨b, _, none⟩) hlt).trans (hc j p hj).1, (hb.cell (p := ⟨b, _, none⟩) hlt).trans (hc j p hj).2⟩⟩
/-- Numbers that fit. -/
def MOk (L : List Mk) : Prop := ∀ p ∈ L, -9223372036854775808 ≤ p.1 ∧ p.1 ≤ top ∧ -9223372036854775808 ≤ p.2 ∧ p.2 ≤ top
theorem wrg_step {L : List Mk} {k i : Nat} {p : Mk} {last : Int} (h : L[k]? = some p) : wrg last i (L.drop k) = if p.1 ≤ last ∨ 65536 < p.1 ∨ p.2 < 1 then some i else wrg p.1 (i + 1) (L.drop (k + 1)) := by
  have hj : k < L.length := (List.getElem?_eq_some_iff.1 h).1
  have he : L.drop k = p :: L.drop (k + 1) := by
    rw [List.drop_eq_getElem_cons hj]; congr 1; exact (List.getElem?_eq_some_iff.1 h).2
  rw [he]; rfl
theorem ovr_step {L : List Mk} {k i : Nat} {p : Mk} {s : Int} (h : L[k]? = some p) : ovr s i (L.drop k) = if top < s + p.2 then some i else ovr (s + p.2) (i + 1) (L.drop (k + 1)) := by
  have hj : k < L.length := (List.getElem?_eq_some_iff.1 h).1
  have he : L.drop k = p :: L.drop (k + 1) := by
    rw [List.drop_eq_getElem_cons hj]; congr 1; exact (List.getElem?_eq_some_iff.1 h).2
  rw [he]; rfl
theorem sm_step {L : List Mk} {k : Nat} {p : Mk} (h : L[k]? = some p) : sm (L.drop k) = p.2 + sm (L.drop (k + 1)) := by
  have hj : k < L.length := (List.getElem?_eq_some_iff.1 h).1
  have he : L.drop k = p :: L.drop (k + 1) := by
    rw [List.drop_eq_getElem_cons hj]; congr 1; exact (List.getElem?_eq_some_iff.1 h).2
  rw [he]; rfl
theorem Ri.mem : ∀ {L : List Mk} {a : Int}, Ri a L → ∀ p ∈ L, 1 ≤ p.2
  | q :: r, a, ⟨_, _, h3, h4⟩, p, hp => by
    rcases List.mem_cons.1 hp with rfl | hp
    · exact h3
    · exact Ri.mem h4 p hp
theorem pair_cells {w : World} {o : Obj} {a b : Value} {t : TypeId} {g : Nat} (h : w.heap[g]? = some o) (ho : o = .cells #[a, b] t (0, 0)) : w.cell? ⟨g, 0, none⟩ = some a ∧ w.cell? ⟨g, 1, none⟩ = some b := by
  subst ho
  exact ⟨by rw [cell_of_row _ _ 0 _ _ _ h]; rfl, by rw [cell_of_row _ _ 1 _ _ _ h]; rfl⟩
theorem Tryz.sizeMk : (Tryz.prog.info? 142).map (·.size) = some 2 := by kernel_rfl
theorem Tryz.sizePos : (Tryz.prog.info? 60).map (·.size) = some 2 := by kernel_rfl
/-- A position's box. -/
abbrev Px (w : World) (g : Nat) (av : Int) (v : Value) : Prop := w.heap[g]? = some (.cells #[.int .i64 av, v] 60 (0, 0))
theorem Px.new (w : World) (av : Int) (v : Value) : Px (w.alloc (.cells #[.int .i64 av, v] 60)) w.heap.size av v := alloc_new w _
theorem blk_later {w w' : World} {g : Nat} {o : Obj} (h : w.heap[g]? = some o) (hb : Below w.heap.size w w') : w'.heap[g]? = some o := (hb.block g (Array.getElem?_eq_some_iff.1 h).1).trans h
theorem blk_lt {w : World} {g : Nat} {o : Obj} (h : w.heap[g]? = some o) : g < w.heap.size := (Array.getElem?_eq_some_iff.1 h).1
theorem errNeq (k : Int) (W : World) (v : Value) (h : v = errV k) : (binOp .neq 74 v .nilIface).run Tryz.prog W = .ok (.bool (decide (¬ k = 0))) W := by
  subst h
  unfold errV
  by_cases hk : k = 0
  · rw [if_pos hk, decide_eq_false (by simpa using hk)]; kernel_rfl
  · rw [if_neg hk, decide_eq_true hk]; kernel_rfl

theorem isName_any (n : Int) (w : World) :
    Calls Tryz.prog 117 #[.int .i64 n] w fun e w' => e = .returned (.bool (decide (0 < n) && decide (n ≤ 65536))) ∧ w' = w := by
  cases h1 : decide (0 < n) <;> cases h2 : decide (n ≤ 65536)
  all_goals
    go_enter Tryz.func117, Tryz.ntmps117
    go_wp2_with fail
    go_ret
    exact ⟨rfl, rfl⟩
end Go.Proofs.YtdjhbecbbmdimaaGreatDoor.BL
namespace Go.Proofs.YtdjhbecbbmdimaaGreatDoor.BL
open Go.RowKit

/-- What sum answers. -/
def smV (av : Int) (L : List Mk) : Value := match ovr av 0 L with
  | some i => .tuple #[.int .i64 0, fltV 9 0 (i : Int)]
  | none => .tuple #[.int .i64 (av + sm L), .nilIface]
theorem smV_some {av : Int} {L : List Mk} {i : Nat} (h : ovr av 0 L = some i) : smV av L = .tuple #[.int .i64 0, fltV 9 0 (i : Int)] := by unfold smV; rw [h]
theorem smV_none {av : Int} {L : List Mk} (h : ovr av 0 L = none) : smV av L = .tuple #[.int .i64 (av + sm L), .nilIface] := by unfold smV; rw [h]
set_option maxRecDepth 100000 in
set_option maxHeartbeats 2000000 in
theorem sum_any (av : Int) (v : Value) (L : List Mk) (w : World) (h : RM w v L) (ho : MOk L) (h0 : 0 ≤ av) (h1 : av ≤ top) (hr : Ri 0 L) (h8 : L.length ≤ 8) :
    Calls Tryz.prog 128 #[.agg #[.int .i64 av, v]] w fun e w' => e = .returned (smV av L) ∧ Below w.heap.size w w' := by
  obtain ⟨a, cap, rfl, _, hc⟩ := h
  have HC := hide hc
  have HO := hide ho
  have HR := hide hr
  have H8 := hide h8
  have X0 := Px.new w av (.slice a L.length cap)
  obtain ⟨x0, x1⟩ := pair_cells X0 rfl
  have B0 := hide ((Below.refl w.heap.size w).alloc (Nat.le_refl _) (.cells #[.int .i64 av, .slice a L.length cap] 60))
  have n0 := fun W => errNeq 0 W .nilIface rfl
  have n9 := fun W => errNeq 9 W _ rfl
  clear hc ho hr h8 X0
  go_enter Tryz.func128, Tryz.ntmps128
  go_wp2_with fail
  go_loopw [4, 14] (fun t i wr => ∃ (k : Nat) (s : Int), k ≤ L.length ∧ i = .int .i64 (k : Int) ∧ t = .int .i64 s ∧ Hid (0 ≤ s ∧ s ≤ top ∧ ovr av 0 L = ovr s k (L.drop k) ∧ s + sm (L.drop k) = av + sm L) ∧ Hid (Below w.heap.size w wr)) (fun _ i _ => L.length - (intOf i).toNat)
  case atStart => exact ⟨0, av, Nat.zero_le _, rfl, rfl, hide ⟨h0, h1, by rw [List.drop_zero], by rw [List.drop_zero]⟩, B0⟩
  case round =>
    clear x0 x1 B0
    obtain ⟨k, s, hk, rfl, rfl, HS, HB⟩ := hrel
    by_cases hlt : k < L.length
    · obtain ⟨⟨N, Q⟩, hp⟩ : ∃ p, L[k]? = some p := ⟨_, List.getElem?_eq_getElem hlt⟩
      obtain ⟨b, off, ha, hbl, hc⟩ := HC.out.resolve_left (fun h => by rw [h] at hlt; simp at hlt)
      have c0 : wr.cell? ⟨b, off + k * 2, none⟩ = some (.int .i64 N) := (HB.out.cell (p := ⟨b, _, none⟩) hbl).trans (hc k _ hp).1
      have c1 : wr.cell? ⟨b, off + k * 2 + 1, none⟩ = some (.int .i64 Q) := (HB.out.cell (p := ⟨b, _, none⟩) hbl).trans (hc k _ hp).2
      have c1' : wr.cell? ⟨b, off + (k * 2 + 1), none⟩ = some (.int .i64 Q) := c1
      subst ha
      have HQ := hide (And.intro (HR.out.mem _ (List.mem_of_getElem? hp)) (HO.out _ (List.mem_of_getElem? hp)).2.2.2)
      have HST := hide (ovr_step (s := s) (i := k) hp)
      have HSM := hide (sm_step hp)
      have hd1 : decide ((k : Int) < (L.length : Int)) = true := by rw [decide_eq_true_eq]; omega
      have k0 : (0 : Int) ≤ (k : Int) := by omega
      have k1 : (k : Int) < (L.length : Int) := by omega
      have wk : wrap64 ((k : Int) + 1) = (k : Int) + 1 := by have := H8.out; unfold wrap64; omega
      have HAdd := hide (fun W => add_any s Q W HS.out.2.1 HQ.out.2)
      have BA := hide (HB.out.alloc HB.out.size (.cells #[.int .i64 N, .int .i64 Q] 142))
      obtain ⟨d0, d1⟩ := pair_cells (alloc_new wr (.cells #[.int .i64 N, .int .i64 Q] 142)) rfl
      have hn : ¬ (s < 0 ∨ Q < 0) := by have := HS.out.1; have := HQ.out.1; dsimp only at *; omega
      clear hc hp
      by_cases hov : top < s + Q
      · have e := add_over hn hov
        rw [e.1, e.2] at HAdd
        rw [show errV 9 = .iface 52 (.int .i64 9) from rfl] at HAdd n9
        have HE : Hid (ovr av 0 L = some k) := hide (by rw [HS.out.2.2.1, HST.out]; exact if_pos hov)
        clear hov hn e
        go_wp2_with (go_at_call 115; refine (HAdd.out _).mono ?_; rintro e w' ⟨rfl, rfl⟩)
        go_ret2
        exact ⟨by rw [smV_some HE.out]; rfl, BA.out⟩
      · have e := add_ok hn hov
        rw [e.1, e.2] at HAdd
        rw [show errV 0 = .nilIface from rfl] at HAdd
        have HN : Hid (0 ≤ s + Q ∧ s + Q ≤ top ∧ ovr av 0 L = ovr (s + Q) (k + 1) (L.drop (k + 1)) ∧ (s + Q) + sm (L.drop (k + 1)) = av + sm L) := hide ⟨by omega, by omega, by rw [HS.out.2.2.1, HST.out]; exact if_neg hov, by have h1 := HS.out.2.2.2; have h2 := HSM.out; dsimp only at *; omega⟩
        clear hov hn e
        generalize s + Q = s' at *
        go_wp2_with (go_at_call 115; refine (HAdd.out _).mono ?_; rintro e w' ⟨rfl, rfl⟩)
        go_roundw
        case rel => exact ⟨k + 1, s', by omega, by go_num, rfl, HN, BA⟩
        case measure => rw [wk]; simp [intOf]; omega
    · have e : k = L.length := by omega
      subst e
      have HE : Hid (ovr av 0 L = none ∧ av + sm L = s) := hide ⟨by rw [HS.out.2.2.1, List.drop_length]; rfl, by have := HS.out.2.2.2; rw [List.drop_length] at this; simp [sm] at this; omega⟩
      go_wp2_with fail
      go_ret2
      exact ⟨by rw [smV_none HE.out.1, HE.out.2]; rfl, HB.out⟩
/-- What is wrong, as an error. -/
def ckE (r : Int × Int) : Value := if r.1 = 0 then .nilIface else fltV r.1 0 r.2
/-- The total, or 0. -/
def totV (av : Int) (L : List Mk) : Int := if (ck av L).1 = 0 then av + sm L else 0
def wgV (av : Int) (L : List Mk) : Value := .tuple #[.int .i64 (totV av L), ckE (ck av L)]
theorem wgV_no {av : Int} {L : List Mk} {n k : Int} (h : ck av L = (n, k)) (hn : ¬ n = 0) : wgV av L = .tuple #[.int .i64 0, fltV n 0 k] := by
  unfold wgV totV ckE; rw [h]; simp only [if_neg hn]
theorem wgV_yes {av : Int} {L : List Mk} (h : ck av L = (0, 0)) : wgV av L = .tuple #[.int .i64 (av + sm L), .nilIface] := by
  unfold wgV totV ckE; rw [h]; rfl
theorem ck_low {av : Int} {L : List Mk} (h : av < 0) : ck av L = (1, -1) := if_pos h
theorem ck_many {av : Int} {L : List Mk} (h : ¬ av < 0) (h8 : 8 < L.length) : ck av L = (5, 8) := by unfold ck; rw [if_neg h, if_pos h8]
theorem ck_wrg {av : Int} {L : List Mk} {i : Nat} (h : ¬ av < 0) (h8 : ¬ 8 < L.length) (hw : wrg 0 0 L = some i) : ck av L = (1, (i : Int)) := by unfold ck; rw [if_neg h, if_neg h8, hw]
theorem ck_ovr {av : Int} {L : List Mk} {i : Nat} (h : ¬ av < 0) (h8 : ¬ 8 < L.length) (hw : wrg 0 0 L = none) (ho : ovr av 0 L = some i) : ck av L = (9, (i : Int)) := by unfold ck; rw [if_neg h, if_neg h8, hw, ho]
theorem ck_non {av : Int} {L : List Mk} (h : ¬ av < 0) (h8 : ¬ 8 < L.length) (hw : wrg 0 0 L = none) (ho : ovr av 0 L = none) : ck av L = (0, 0) := by unfold ck; rw [if_neg h, if_neg h8, hw, ho]
set_option maxRecDepth 100000 in
set_option maxHeartbeats 4000000 in
theorem weigh_any (av : Int) (v : Value) (L : List Mk) (w : World) (h : RM w v L) (ho : MOk L) (h1 : av ≤ top) (hl : L.length ≤ 4611686018427387904) :
    Calls Tryz.prog 123 #[.agg #[.int .i64 av, v]] w fun e w' => e = .returned (wgV av L) ∧ Below w.heap.size w w' := by
  have HRM := hide h
  obtain ⟨a, cap, rfl, _, hc⟩ := h
  have X0 := Px.new w av (.slice a L.length cap)
  obtain ⟨x0, x1⟩ := pair_cells X0 rfl
  have B0 := hide ((Below.refl w.heap.size w).alloc (Nat.le_refl _) (.cells #[.int .i64 av, .slice a L.length cap] 60))
  have HX0 := hide X0
  have HC := hide hc
  have HO := hide ho
  clear hc ho X0
  by_cases hav : av < 0
  · have HV := hide (wgV_no (ck_low (L := L) hav) (by decide))
    have hd : decide (av < 0) = true := decide_eq_true hav
    clear hav
    go_enter Tryz.func123, Tryz.ntmps123
    go_wp2_with fail
    go_ret2
    exact ⟨by rw [HV.out]; rfl, B0.out⟩
  have HAV := hide hav
  have hd : decide (av < 0) = false := decide_eq_false hav
  by_cases h8 : 8 < L.length
  · have HV := hide (wgV_no (ck_many hav h8) (by decide))
    have hd8 : decide ((8 : Int) < (L.length : Int)) = true := decide_eq_true (by omega)
    clear hav
    go_enter Tryz.func123, Tryz.ntmps123
    go_wp2_with fail
    go_ret2
    exact ⟨by rw [HV.out]; rfl, B0.out⟩
  have H8 := hide h8
  have hd8 : decide ((8 : Int) < (L.length : Int)) = false := decide_eq_false (by omega)
  clear hav
  go_enter Tryz.func123, Tryz.ntmps123
  go_wp2_with fail
  go_loopw [4, 21] (fun l i wr => ∃ (k : Nat) (s : Int), k ≤ L.length ∧ i = .int .i64 (k : Int) ∧ l = .int .i64 s ∧ Hid (0 ≤ s ∧ wrg 0 0 L = wrg s k (L.drop k)) ∧ Hid (Px wr w.heap.size av (.slice a L.length cap)) ∧ Hid (Below w.heap.size w wr)) (fun _ i _ => L.length - (intOf i).toNat)
  case atStart => exact ⟨0, 0, Nat.zero_le _, rfl, rfl, hide ⟨Int.le_refl _, by rw [List.drop_zero]⟩, HX0, B0⟩
  case round =>
    clear x0 x1 B0 HX0
    obtain ⟨k, s, hk, rfl, rfl, HS, HX, HB⟩ := hrel
    by_cases hlt : k < L.length
    · obtain ⟨⟨N, Q⟩, hp⟩ : ∃ p, L[k]? = some p := ⟨_, List.getElem?_eq_getElem hlt⟩
      obtain ⟨b, off, ha, hbl, hc⟩ := HC.out.resolve_left (fun h => by rw [h] at hlt; simp at hlt)
      have c0 : wr.cell? ⟨b, off + k * 2, none⟩ = some (.int .i64 N) := (HB.out.cell (p := ⟨b, _, none⟩) hbl).trans (hc k _ hp).1
      have c1 : wr.cell? ⟨b, off + k * 2 + 1, none⟩ = some (.int .i64 Q) := (HB.out.cell (p := ⟨b, _, none⟩) hbl).trans (hc k _ hp).2
      have c1' : wr.cell? ⟨b, off + (k * 2 + 1), none⟩ = some (.int .i64 Q) := c1
      subst ha
      have HST := hide (wrg_step (last := s) (i := k) hp)
      have hd1 : decide ((k : Int) < (L.length : Int)) = true := by rw [decide_eq_true_eq]; omega
      have k0 : (0 : Int) ≤ (k : Int) := by omega
      have k1 : (k : Int) < (L.length : Int) := by omega
      have wk : wrap64 ((k : Int) + 1) = (k : Int) + 1 := by unfold wrap64; omega
      have HN := hide (fun W => isName_any N W)
      have BA := hide (HB.out.alloc HB.out.size (.cells #[.int .i64 N, .int .i64 Q] 142))
      have XA := hide (alloc_block (o := .cells #[.int .i64 N, .int .i64 Q] 142) HX.out)
      obtain ⟨d0, d1⟩ := pair_cells (alloc_new wr (.cells #[.int .i64 N, .int .i64 Q] 142)) rfl
      clear hc hp
      by_cases hw : N ≤ s ∨ 65536 < N ∨ Q < 1
      · have HE : Hid (wgV av L = .tuple #[.int .i64 0, fltV 1 0 (k : Int)]) := hide (wgV_no (ck_wrg (by have := HAV.out; omega) (by have := H8.out; omega) (by rw [HS.out.2, HST.out]; exact if_pos hw)) (by decide))
        by_cases q1 : N ≤ s
        · have e1 : decide (N ≤ s) = true := decide_eq_true q1
          clear hw q1
          go_wp2_with (go_at_call 117; refine (HN.out _).mono ?_; rintro e w' ⟨rfl, rfl⟩)
          go_ret2
          exact ⟨by rw [HE.out]; rfl, BA.out⟩
        · have e1 : decide (N ≤ s) = false := decide_eq_false q1
          have e2 : decide (0 < N) = true := decide_eq_true (by have := HS.out.1; omega)
          rw [e2, Bool.true_and] at HN
          by_cases q2 : N ≤ 65536
          · have e3 : decide (N ≤ 65536) = true := decide_eq_true q2
            have e4 : decide (Q < 1) = true := decide_eq_true (by omega)
            rw [e3] at HN
            clear hw q1 q2
            go_wp2_with (go_at_call 117; refine (HN.out _).mono ?_; rintro e w' ⟨rfl, rfl⟩)
            go_ret2
            exact ⟨by rw [HE.out]; rfl, BA.out⟩
          · have e3 : decide (N ≤ 65536) = false := decide_eq_false q2
            rw [e3] at HN
            clear hw q1 q2
            go_wp2_with (go_at_call 117; refine (HN.out _).mono ?_; rintro e w' ⟨rfl, rfl⟩)
            go_ret2
            exact ⟨by rw [HE.out]; rfl, BA.out⟩
      · have e1 : decide (N ≤ s) = false := decide_eq_false (by omega)
        have e2 : decide (0 < N) = true := decide_eq_true (by have := HS.out.1; omega)
        have e3 : decide (N ≤ 65536) = true := decide_eq_true (by omega)
        have e4 : decide (Q < 1) = false := decide_eq_false (by omega)
        rw [e2, e3, Bool.true_and] at HN
        have HNX : Hid (0 ≤ N ∧ wrg 0 0 L = wrg N (k + 1) (L.drop (k + 1))) := hide ⟨by have := HS.out.1; omega, by rw [HS.out.2, HST.out]; exact if_neg hw⟩
        clear hw
        go_wp2_with (go_at_call 117; refine (HN.out _).mono ?_; rintro e w' ⟨rfl, rfl⟩)
        go_roundw
        case rel => exact ⟨k + 1, N, by omega, by go_num, rfl, HNX, XA, BA⟩
        case measure => simp [intOf]; omega
    · have e : k = L.length := by omega
      subst e
      have HW : Hid (wrg 0 0 L = none) := hide (by rw [HS.out.2, List.drop_length]; rfl)
      have HSM := hide (sum_any av (.slice a L.length cap) L wr (HRM.out.later HB.out) HO.out (by have := HAV.out; omega) h1 (wrg_none.1 HW.out) (by have := H8.out; omega))
      obtain ⟨x0, x1⟩ := pair_cells HX.out rfl
      cases hov : ovr av 0 L with
      | none =>
        rw [smV_none hov] at HSM
        have HE := hide (wgV_yes (ck_non (by have := HAV.out; omega) (by have := H8.out; omega) HW.out hov))
        clear hov
        generalize av + sm L = T at *
        go_wp2_with (go_at_call 128; refine HSM.out.mono ?_; rintro e w' ⟨rfl, hb⟩; replace hb := hide hb)
        go_ret2
        exact ⟨by rw [HE.out]; rfl, HB.out.trans (hb.out.mono HB.out.size)⟩
      | some i =>
        rw [smV_some hov] at HSM
        have HE := hide (wgV_no (ck_ovr (by have := HAV.out; omega) (by have := H8.out; omega) HW.out hov) (by decide))
        clear hov
        unfold fltV at HSM
        go_wp2_with (go_at_call 128; refine HSM.out.mono ?_; rintro e w' ⟨rfl, hb⟩; replace hb := hide hb)
        go_ret2
        exact ⟨by rw [HE.out]; rfl, HB.out.trans (hb.out.mono HB.out.size)⟩
end Go.Proofs.YtdjhbecbbmdimaaGreatDoor.BL
