/-
  My own text: rows of Legs lent with marks behind them, and looked at again (printed by mkrow16.py out of BK1).
-/
import Derived.Test.YtfhimhjeilnkaaaDoorGLR
namespace Go.Proofs.YtfhimhjeilnkaaaDoor.LG
open Go.RowKit

/-- The number of a mark behind. -/
def mk5 (i : Int) : Int := i
theorem mark90_any (i : Int) (w : World) :
    Calls Tryd.prog 18 #[.int .i64 90, .int .i64 i] w fun e w' => e = .returned (.agg #[.int .i64 (-100), .int .i64 (mk5 i), .int .i64 0, .int .i64 0, .int .i64 0]) ∧ Below w.heap.size w w' :=
  markM_any 90 i w (by omega) (by omega)
def mkM (i : Int) : El := (-100, mk5 i, 0, 0, 0)
def marksM : List El := (List.range 16).map fun i : Nat => mkM (i : Int)
theorem marksM_len : marksM.length = 16 := by simp [marksM]
theorem marksM_at {j : Nat} (h : j < 16) : marksM[j]? = some (mkM (j : Int)) := by
  unfold marksM; rw [List.getElem?_map, List.getElem?_range h]; rfl
set_option maxRecDepth 100000 in
set_option maxHeartbeats 2000000 in
theorem fullMarks_any (v : Value) (l : List El) (w : World) (hv : RM w v l) (hl : l.length ≤ 3518437208800) :
    Calls Tryd.prog 15 #[v] w fun e w' => ∃ v', e = .returned v' ∧ w'.ownsRow w.heap.size 43 5 v' (l.length + 16) (mc (l ++ marksM)) ∧ Below w.heap.size w w' := by
  obtain ⟨a, cap, rfl, _, hr⟩ := hv
  obtain ⟨i0, hi, hz0, hz1, hz2⟩ := info_parts Tryd.infoMk
  go_enter Tryd.func15, Tryd.ntmps15
  go_wp2_with fail
  go_loopw [3, 4] (fun o i wr => ∃ k : Nat, k ≤ l.length ∧ i = .int .i64 k ∧ wr.ownsRow w.heap.size 43 5 o k (mc (l.take k)) ∧ Below w.heap.size w wr) (fun _ i _ => l.length - (intOf i).toNat)
  case atStart => exact ⟨0, Nat.zero_le _, rfl, World.ownsRow_nil w w.heap.size 43 5, Below.refl _ _⟩
  case round =>
    obtain ⟨k, hk, rfl, hown, hB⟩ := hrel
    by_cases hlt : k < l.length
    · obtain ⟨⟨q0, q1, q2, q3, q4⟩, hx⟩ : ∃ p, l[k]? = some p := ⟨_, List.getElem?_eq_getElem hlt⟩
      rcases hr with h0 | ⟨b, off, rfl, hbl, hc⟩
      · rw [h0] at hlt; simp at hlt
      have c0 : wr.cell? ⟨b, off + k * 5, none⟩ = some (.int .i64 q0) := (hB.cell (p := ⟨b, _, none⟩) hbl).trans (hc k _ hx).1
      have c1 : wr.cell? ⟨b, off + k * 5 + 1, none⟩ = some (.int .i64 q1) := (hB.cell (p := ⟨b, _, none⟩) hbl).trans (hc k _ hx).2.1
      have c2 : wr.cell? ⟨b, off + k * 5 + 2, none⟩ = some (.int .i64 q2) := (hB.cell (p := ⟨b, _, none⟩) hbl).trans (hc k _ hx).2.2.1
      have c3 : wr.cell? ⟨b, off + k * 5 + 3, none⟩ = some (.int .i64 q3) := (hB.cell (p := ⟨b, _, none⟩) hbl).trans (hc k _ hx).2.2.2.1
      have c4 : wr.cell? ⟨b, off + k * 5 + 4, none⟩ = some (.int .i64 q4) := (hB.cell (p := ⟨b, _, none⟩) hbl).trans (hc k _ hx).2.2.2.2
      have c0' : wr.cell? ⟨b, off + (k * 5), none⟩ = some (.int .i64 q0) := c0
      have c1' : wr.cell? ⟨b, off + (k * 5 + 1), none⟩ = some (.int .i64 q1) := c1
      have c2' : wr.cell? ⟨b, off + (k * 5 + 2), none⟩ = some (.int .i64 q2) := c2
      have c3' : wr.cell? ⟨b, off + (k * 5 + 3), none⟩ = some (.int .i64 q3) := c3
      have c4' : wr.cell? ⟨b, off + (k * 5 + 4), none⟩ = some (.int .i64 q4) := c4
      have HT := hide (mc_take hx)
      clear hc hx
      go_wp2_with (first
        | (at_builtin; refine wpList_append_own_wide _ rfl _ _ 23 rfl w.heap.size 43 i0 (.agg #[.int .i64 0, .int .i64 0, .int .i64 0, .int .i64 0, .int .i64 0]) 5 40 Tryd.underlying23 hi hz0 hz1 hz2 rfl (by decide) _ _ _ rfl (hown.alloc _) ⟨_, 0, none⟩ 1 1 [.int .i64 q0, .int .i64 q1, .int .i64 q2, .int .i64 q3, .int .i64 q4] rfl rfl ?c1 ?c2 ?c3 ?c4 ?c5 ?_)
        | go_in)
      case c2 => exact ⟨rfl, rfl, rfl, rfl, rfl⟩
      case c3 => unfold maxLen; omega
      case c4 => omega
      case c5 => have := hB.size; simp; omega
      intro v' w1 hown' hgrow _
      have hB1 : Below w.heap.size w w1 := (hB.alloc hB.size _).grown hgrow (by have := hB.size; simp; omega) (fun k hk => (hown.lt k hk).1)
      clear hown hgrow
      go_wp2_with fail
      go_roundw
      case rel => exact ⟨k + 1, by omega, by go_num, by rw [HT.out]; exact hown', hB1⟩
      case measure => simp [intOf]; omega
    · have hk' : k = l.length := by omega
      subst hk'
      rw [List.take_length] at hown
      clear hr
      go_wp2_with fail
      go_loopw [3, 5] (fun o i wr => ∃ k : Nat, k ≤ 16 ∧ i = .int .i64 k ∧ wr.ownsRow w.heap.size 43 5 o (l.length + k) (mc (l ++ marksM.take k)) ∧ Below w.heap.size w wr) (fun _ i _ => 16 - (intOf i).toNat)
      case atStart => exact ⟨0, Nat.zero_le _, rfl, by rw [List.take_zero, List.append_nil]; exact hown, hB⟩
      case round =>
        clear hown hB
        obtain ⟨k, hk, rfl, hown, hB⟩ := hrel
        by_cases hlt : k < 16
        · have HT : Hid (mc (l ++ marksM.take (k + 1)) = mc (l ++ marksM.take k) ++ [.int .i64 (-100), .int .i64 (mk5 (k : Int)), .int .i64 0, .int .i64 0, .int .i64 0]) := by
            show _ = _
            rw [mc_app, mc_take (marksM_at hlt), ← List.append_assoc, ← mc_app]; rfl
          have HMK := hide (fun W : World => mark90_any (k : Int) W)
          generalize mk5 (k : Int) = m at *
          go_wp2_with fail
          refine (HMK.out _).mono ?_
          rintro e w1 ⟨rfl, hb1⟩
          have hown1 : w1.ownsRow w.heap.size 43 5 u3 (l.length + k) (mc (l ++ marksM.take k)) := owns_lat hown hb1
          have hB1 := hB.trans (hb1.mono hB.size)
          clear hown hB hb1
          go_wp2_with (first
            | (at_builtin; refine wpList_append_own_wide _ rfl _ _ 23 rfl w.heap.size 43 i0 (.agg #[.int .i64 0, .int .i64 0, .int .i64 0, .int .i64 0, .int .i64 0]) 5 40 Tryd.underlying23 hi hz0 hz1 hz2 rfl (by decide) _ _ _ rfl (hown1.alloc _) ⟨_, 0, none⟩ 1 1 [.int .i64 (-100), .int .i64 m, .int .i64 0, .int .i64 0, .int .i64 0] rfl rfl ?d1 ?d2 ?d3 ?d4 ?d5 ?_)
            | go_in)
          case d1 =>
            intro j u hj
            match j, hj with
            | 0, hj => simp at hj; subst hj; simp [Addr.add]
            | 1, hj => simp at hj; subst hj; simp [Addr.add]
            | 2, hj => simp at hj; subst hj; simp [Addr.add]
            | 3, hj => simp at hj; subst hj; simp [Addr.add]
            | 4, hj => simp at hj; subst hj; simp [Addr.add]
          case d2 => intro u hu; simp at hu; first | (rcases hu with rfl | rfl | rfl | rfl | rfl <;> rfl) | (rcases hu with rfl | rfl | rfl <;> rfl)
          case d3 => unfold maxLen; omega
          case d4 => omega
          case d5 => have := hB1.size; simp; omega
          intro v' w2 hown' hgrow _
          have hB2 : Below w.heap.size w w2 := (hB1.alloc hB1.size _).grown hgrow (by have := hB1.size; simp; omega) (fun k hk => (hown1.lt k hk).1)
          clear hown1 hgrow
          go_wp2_with fail
          go_roundw
          case rel => exact ⟨k + 1, by omega, by go_num, by rw [HT.out, ← Nat.add_assoc]; exact hown', hB2⟩
          case measure => simp [intOf]; omega
        · have hk' : k = 16 := by omega
          subst hk'
          rw [List.take_of_length_le (by rw [marksM_len]; omega)] at hown
          go_wp2_with fail
          go_ret
          exact ⟨_, rfl, hown, hB⟩

/-- A list of links that was lent, in block g, from B on. -/
structure LentM (w : World) (B g cap : Nat) (l : List El) : Prop where
  base : B ≤ g
  own : w.ownsRow B 43 5 (.slice (some ⟨g, 0, none⟩) (l.length + 16) cap) (l.length + 16) (mc (l ++ marksM))
theorem LentM.later {w w' : World} {B g cap : Nat} {l : List El} (h : LentM w B g cap l) (hb : Below w.heap.size w w') : LentM w' B g cap l := ⟨h.base, owns_lat h.own hb⟩
theorem LentM.parts {w : World} {B g cap : Nat} {l : List El} (h : LentM w B g cap l) : g < w.heap.size ∧ l.length + 16 ≤ cap ∧ (∀ (j : Nat) (p : El), (l ++ marksM)[j]? = some p → w.cell? ⟨g, j * 5, none⟩ = some (.int .i64 p.1) ∧ w.cell? ⟨g, j * 5 + 1, none⟩ = some (.int .i64 p.2.1) ∧ w.cell? ⟨g, j * 5 + 2, none⟩ = some (.int .i64 p.2.2.1) ∧ w.cell? ⟨g, j * 5 + 3, none⟩ = some (.int .i64 p.2.2.2.1) ∧ w.cell? ⟨g, j * 5 + 4, none⟩ = some (.int .i64 p.2.2.2.2)) := by
  have h' := h.own
  rcases h'.2 with ⟨h0, _⟩ | ⟨g', cap', cur, hv, hb, hh, hn2, _⟩
  · cases h0
  · cases hv
    refine ⟨(Array.getElem?_eq_some_iff.1 hh).1, hn2, fun j p hj => ?_⟩
    have hjl : j < l.length + 16 := by have := (List.getElem?_eq_some_iff.1 hj).1; rw [List.length_append, marksM_len] at this; exact this
    have e := mc_at hj
    exact ⟨(h'.cellAt (j * 5) (by omega)).trans e.1, (h'.cellAt (j * 5 + 1) (by omega)).trans e.2.1, (h'.cellAt (j * 5 + 2) (by omega)).trans e.2.2.1, (h'.cellAt (j * 5 + 3) (by omega)).trans e.2.2.2.1, (h'.cellAt (j * 5 + 4) (by omega)).trans e.2.2.2.2⟩
theorem LentM.rm {w : World} {B g cap : Nat} {l : List El} (h : LentM w B g cap l) : RM w (.slice (some ⟨g, 0, none⟩) l.length cap) l := by
  obtain ⟨h1, h2, h3⟩ := h.parts
  refine ⟨_, _, rfl, by omega, .inr ⟨g, 0, rfl, h1, fun j p hj => ?_⟩⟩
  have := h3 j p (by rw [List.getElem?_append_left (List.getElem?_eq_some_iff.1 hj).1]; exact hj)
  rw [Nat.zero_add]; exact this
set_option maxRecDepth 100000 in
set_option maxHeartbeats 1000000 in
theorem lentMarks_any (v : Value) (l : List El) (w : World) (hv : RM w v l) (hl : l.length ≤ 3518437208800) :
    Calls Tryd.prog 6 #[v] w fun e w' => ∃ g cap, e = .returned (.slice (some ⟨g, 0, none⟩) l.length cap) ∧ LentM w' w.heap.size g cap l ∧ Below w.heap.size w w' := by
  have HF := hide (fullMarks_any v l w hv hl)
  obtain ⟨a, cap0, rfl, _, _⟩ := hv
  go_enter Tryd.func6, Tryd.ntmps6
  go_wp2_with fail
  refine HF.out.mono ?_
  rintro e w1 ⟨v', rfl, hown, hb1⟩
  obtain ⟨g, cap, hv, hgb, hglt⟩ := World.ownsRow.form hown (by omega)
  subst hv
  have HL : Hid (LentM w1 w.heap.size g cap l) := hide ⟨hgb, hown⟩
  obtain ⟨_, hcap, _⟩ := HL.out.parts
  have hne : ¬ cap = l.length := by omega
  have hle : (l.length : Int) ≤ (cap : Int) := by omega
  have HB := hide hb1
  clear hown hb1
  go_wp2_with fail
  go_ret
  exact ⟨g, cap, rfl, HL.out, HB.out⟩
set_option maxRecDepth 100000 in
set_option maxHeartbeats 4000000 in
theorem keptFullMarks_any (v : Value) (l : List El) (B g cap : Nat) (w : World) (hv : RM w v l) (hk : LentM w B g cap l) (hl : l.length ≤ 3518437208800) :
    Calls Tryd.prog 19 #[.slice (some ⟨g, 0, none⟩) (l.length + 16) cap, v] w fun e w' => e = .returned (.bool true) ∧ Below w.heap.size w w' := by
  have HK := hide hk
  obtain ⟨hglt, hgcap, hcells⟩ := hk.parts
  have HC := hide hcells
  have HG := hide hglt
  obtain ⟨a, cap0, rfl, _, hr⟩ := hv
  have HR := hide hr
  have hneq := run_neq_mk
  clear hk hcells hglt hr
  go_enter Tryd.func19, Tryd.ntmps19
  go_wp2_with fail
  go_loopw [5] (fun i wr => ∃ k : Nat, k ≤ l.length + 16 ∧ i = .int .i64 k ∧ Hid (Below w.heap.size w wr)) (fun i _ => l.length + 16 - (intOf i).toNat)
  case atStart => exact ⟨0, Nat.zero_le _, rfl, hide (Below.refl _ _)⟩
  case round =>
    obtain ⟨k, hk, rfl, HB⟩ := hrel
    have HMK := hide (fun W : World => mark90_any ((k : Int) - (l.length : Int)) W)
    by_cases hlt : k < l.length
    · obtain ⟨⟨q0, q1, q2, q3, q4⟩, hp⟩ : ∃ p, l[k]? = some p := ⟨_, List.getElem?_eq_getElem hlt⟩
      obtain ⟨b, off, ha, hbl, hc⟩ := HR.out.resolve_left (fun h => by rw [h] at hlt; simp at hlt)
      have HP1 := hide (hc k _ hp)
      have HP2 := hide (HC.out k _ (by rw [List.getElem?_append_left hlt]; exact hp))
      have HBL := hide hbl
      subst ha
      clear hc hp hbl
      generalize mk5 ((k : Int) - (l.length : Int)) = m at *
      go_wp2_with fail
      refine (HMK.out _).mono ?_
      rintro e w1 ⟨rfl, hb1⟩
      have B1 := hide (HB.out.trans (hb1.mono HB.out.size))
      clear hb1
      have BA := hide (B1.out.alloc B1.out.size (.cells #[.int .i64 (-100), .int .i64 m, .int .i64 0, .int .i64 0, .int .i64 0] 43))
      have BC := hide (B1.out.alloc B1.out.size (.cells #[.int .i64 q0, .int .i64 q1, .int .i64 q2, .int .i64 q3, .int .i64 q4] 43))
      have c0 := (BA.out.cell (p := ⟨b, off + k * 5, none⟩) HBL.out).trans HP1.out.1
      have c1 := (BA.out.cell (p := ⟨b, off + k * 5 + 1, none⟩) HBL.out).trans HP1.out.2.1
      have c2 := (BA.out.cell (p := ⟨b, off + k * 5 + 2, none⟩) HBL.out).trans HP1.out.2.2.1
      have c3 := (BA.out.cell (p := ⟨b, off + k * 5 + 3, none⟩) HBL.out).trans HP1.out.2.2.2.1
      have c4 := (BA.out.cell (p := ⟨b, off + k * 5 + 4, none⟩) HBL.out).trans HP1.out.2.2.2.2
      have d0 := (BC.out.cell (p := ⟨g, k * 5, none⟩) HG.out).trans HP2.out.1
      have d1 := (BC.out.cell (p := ⟨g, k * 5 + 1, none⟩) HG.out).trans HP2.out.2.1
      have d2 := (BC.out.cell (p := ⟨g, k * 5 + 2, none⟩) HG.out).trans HP2.out.2.2.1
      have d3 := (BC.out.cell (p := ⟨g, k * 5 + 3, none⟩) HG.out).trans HP2.out.2.2.2.1
      have d4 := (BC.out.cell (p := ⟨g, k * 5 + 4, none⟩) HG.out).trans HP2.out.2.2.2.2
      have q := alloc_new w1 (.cells #[.int .i64 q0, .int .i64 q1, .int .i64 q2, .int .i64 q3, .int .i64 q4] 43)
      have ee := cellsA q rfl
      obtain ⟨e0, e1, e2, e3, e4⟩ := ee
      have hneq2 := run_neq_mk q0 q1 q2 q3 q4
      clear q hneq
      go_wp2_with fail
      have BC2 := hide BC.out
      generalize w1.alloc (.cells #[.int .i64 q0, .int .i64 q1, .int .i64 q2, .int .i64 q3, .int .i64 q4] 43) = Y at *
      go_quiet (fail)
      go_wp2_with fail
      go_roundw
      case rel => exact ⟨k + 1, by omega, by go_num, hide (below_dN BC2.out _)⟩
      case measure => simp [intOf]; omega
    · by_cases hend : k < l.length + 16
      · have HP2 := hide (HC.out k (mkM ((k : Int) - (l.length : Int))) (by
          rw [List.getElem?_append_right (by omega), marksM_at (by omega)]
          congr 2; omega))
        unfold mkM at HP2
        generalize mk5 ((k : Int) - (l.length : Int)) = m at *
        go_wp2_with fail
        refine (HMK.out _).mono ?_
        rintro e w1 ⟨rfl, hb1⟩
        have B1 := hide (HB.out.trans (hb1.mono HB.out.size))
        clear hb1
        have BC := hide (B1.out.alloc B1.out.size (.cells #[.int .i64 (-100), .int .i64 m, .int .i64 0, .int .i64 0, .int .i64 0] 43))
        have d0 := (BC.out.cell (p := ⟨g, k * 5, none⟩) HG.out).trans HP2.out.1
        have d1 := (BC.out.cell (p := ⟨g, k * 5 + 1, none⟩) HG.out).trans HP2.out.2.1
        have d2 := (BC.out.cell (p := ⟨g, k * 5 + 2, none⟩) HG.out).trans HP2.out.2.2.1
        have d3 := (BC.out.cell (p := ⟨g, k * 5 + 3, none⟩) HG.out).trans HP2.out.2.2.2.1
        have d4 := (BC.out.cell (p := ⟨g, k * 5 + 4, none⟩) HG.out).trans HP2.out.2.2.2.2
        have q := alloc_new w1 (.cells #[.int .i64 (-100), .int .i64 m, .int .i64 0, .int .i64 0, .int .i64 0] 43)
        have ee := cellsA q rfl
        obtain ⟨e0, e1, e2, e3, e4⟩ := ee
        have hneq2 := run_neq_mk (-100) m 0 0 0
        clear q hneq
        go_wp2_with fail
        generalize w1.alloc (.cells #[.int .i64 (-100), .int .i64 m, .int .i64 0, .int .i64 0, .int .i64 0] 43) = Y at *
        go_quiet (fail)
        go_wp2_with fail
        go_roundw
        case rel => exact ⟨k + 1, by omega, by go_num, hide (below_dN BC.out _)⟩
        case measure => simp [intOf]; omega
      · have hk' : k = l.length + 16 := by omega
        subst hk'
        go_wp2_with fail
        go_ret
        exact ⟨rfl, HB.out⟩
set_option maxRecDepth 100000 in
set_option maxHeartbeats 1000000 in
theorem keptMarks_any (v : Value) (l : List El) (B g cap : Nat) (w : World) (hv : RM w v l) (hk : LentM w B g cap l) (hl : l.length ≤ 3518437208800) :
    Calls Tryd.prog 11 #[.slice (some ⟨g, 0, none⟩) l.length cap, v] w fun e w' => e = .returned (.bool true) ∧ Below w.heap.size w w' := by
  have HF := hide (keptFullMarks_any v l B g cap w hv hk hl)
  obtain ⟨_, hcap, _⟩ := hk.parts
  obtain ⟨a, cap0, rfl, _, _⟩ := hv
  clear hk
  by_cases hq : cap = l.length + 16
  · subst hq
    go_enter Tryd.func11, Tryd.ntmps11
    go_wp2_with fail
    refine HF.out.mono ?_
    rintro e w1 ⟨rfl, hb1⟩
    go_wp2_with fail
    go_ret
    exact ⟨rfl, hb1⟩
  · have hle : ((l.length : Int) + 16) ≤ (cap : Int) := by omega
    go_enter Tryd.func11, Tryd.ntmps11
    go_wp2_with fail
    refine HF.out.mono ?_
    rintro e w1 ⟨rfl, hb1⟩
    go_wp2_with fail
    go_ret
    exact ⟨rfl, hb1⟩
end Go.Proofs.YtfhimhjeilnkaaaDoor.LG
