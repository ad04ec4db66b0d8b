/-
  My own text: N8, N9 in one.
-/
import Derived.Test.YtdfhfjkcafchiaaDoorN7
namespace Go.Proofs.YtdfhfjkcafchiaaDoor
open Go.RowKit LC

/-- A list of links that was lent, in block g, from B on. -/
structure LentL (w : World) (B g cap : Nat) (l : List Lnk) : Prop where
  base : B ≤ g
  own : w.ownsRow B 53 2 (.slice (some ⟨g, 0, none⟩) (l.length + 16) cap) (l.length + 16) (lc (l ++ marksL))
theorem LentL.later {w w' : World} {B g cap : Nat} {l : List Lnk} (h : LentL w B g cap l) (hb : Below w.heap.size w w') : LentL w' B g cap l := ⟨h.base, owns_later h.own hb⟩
theorem LentL.parts {w : World} {B g cap : Nat} {l : List Lnk} (h : LentL w B g cap l) : g < w.heap.size ∧ l.length + 16 ≤ cap ∧ (∀ (j : Nat) (p : Lnk), (l ++ marksL)[j]? = some p → w.cell? ⟨g, j * 2, none⟩ = some (.int .i64 p.1) ∧ w.cell? ⟨g, j * 2 + 1, none⟩ = some (.string ⟨p.2.toArray⟩)) := by
  have h' := h.own
  rcases h'.2 with ⟨h0, _⟩ | ⟨g', cap', cur, hv, hb, hh, hn2, _⟩
  · cases h0
  · cases hv
    refine ⟨(Array.getElem?_eq_some_iff.1 hh).1, hn2, fun j p hj => ?_⟩
    have hjl : j < l.length + 16 := by have := (List.getElem?_eq_some_iff.1 hj).1; rw [List.length_append, marksL_len] at this; exact this
    obtain ⟨e0, e1⟩ := lc_at hj
    exact ⟨(h'.cellAt (j * 2) (by omega)).trans e0, (h'.cellAt (j * 2 + 1) (by omega)).trans e1⟩
theorem LentL.rl {w : World} {B g cap : Nat} {l : List Lnk} (h : LentL w B g cap l) : RL w (.slice (some ⟨g, 0, none⟩) l.length cap) l := by
  obtain ⟨h1, h2, h3⟩ := h.parts
  refine ⟨_, _, rfl, .inr ⟨g, 0, rfl, h1, fun j p hj => ?_⟩⟩
  have := h3 j p (by rw [List.getElem?_append_left (List.getElem?_eq_some_iff.1 hj).1]; exact hj)
  rw [Nat.zero_add]; exact this
set_option maxRecDepth 100000 in
set_option maxHeartbeats 1000000 in
theorem lentLinks_any (v : Value) (l : List Lnk) (w : World) (hv : RL w v l) (hl : l.length ≤ 5864062014805) :
    Calls Tryd.prog 5 #[v] w fun e w' => ∃ g cap, e = .returned (.slice (some ⟨g, 0, none⟩) l.length cap) ∧ LentL w' w.heap.size g cap l ∧ Below w.heap.size w w' := by
  have HF := hide (fullLinks_any v l w hv hl)
  obtain ⟨a, cap0, rfl, _⟩ := hv
  go_enter Tryd.func5, Tryd.ntmps5
  go_wp2_with fail
  refine HF.out.mono ?_
  rintro e w1 ⟨v', rfl, hown, hb1⟩
  obtain ⟨g, cap, hv, hgb, hglt⟩ := World.ownsRow.form hown (by omega)
  subst hv
  have HL : Hid (LentL w1 w.heap.size g cap l) := hide ⟨hgb, hown⟩
  obtain ⟨_, hcap, _⟩ := HL.out.parts
  have hne : ¬ cap = l.length := by omega
  have hle : (l.length : Int) ≤ (cap : Int) := by omega
  have HB := hide hb1
  clear hown hb1
  go_wp2_with fail
  go_ret
  exact ⟨g, cap, rfl, HL.out, HB.out⟩
theorem Tryd.undLnk : Tryd.prog.underlying 53 = some (.struct (Tryd.prog.fieldsOf 53)) := by kernel_rfl
theorem Tryd.stoodLnk : Tryd.prog.stoodInHeld 53 = false := by kernel_rfl
theorem run_neq_lnk (k : Int) (r : List UInt8) (w : World) : (binOp .neq 53 (.agg #[.int .i64 k, .string ⟨r.toArray⟩]) (.agg #[.int .i64 k, .string ⟨r.toArray⟩])).run Tryd.prog w = .ok (.bool false) w := by
  rw [run_neq_struct, run_equalIn_struct w 9999 _ _ _ Tryd.undLnk Tryd.stoodLnk]
  simp [Program.fieldsOf, Tryd.underlying53, Op.eqFields, part, isAgg, underlying, Tryd.underlying3, Tryd.underlying9, Result.andThen, run_equalIn_int _ _ _ _ _ _ _ Tryd.underlying3, run_equalIn_string _ _ _ _ _ Tryd.underlying9]
end Go.Proofs.YtdfhfjkcafchiaaDoor
namespace Go.Proofs.YtdfhfjkcafchiaaDoor
open Go.RowKit LC

theorem below_dN {B : Nat} {a w : World} (h : Below B a w) (n : Nat) : Below B a (w.drewN n) := h.trans ⟨rfl, rfl, rfl, Nat.le_refl _, fun _ _ => rfl⟩
set_option maxRecDepth 100000 in
set_option maxHeartbeats 4000000 in
theorem keptFullLinks_any (v : Value) (l : List Lnk) (B g cap : Nat) (w : World) (hv : RL w v l) (hk : LentL w B g cap l) (hl : l.length ≤ 5864062014805) :
    Calls Tryd.prog 20 #[.slice (some ⟨g, 0, none⟩) (l.length + 16) cap, v] w fun e w' => e = .returned (.bool true) ∧ Below w.heap.size w w' := by
  have HK := hide hk
  obtain ⟨hglt, hgcap, hcells⟩ := hk.parts
  have HC := hide hcells
  have HG := hide hglt
  obtain ⟨a, cap0, rfl, hr⟩ := hv
  have HR := hide hr
  have hneq := run_neq_lnk
  clear hk hcells hglt hr
  go_enter Tryd.func20, Tryd.ntmps20
  go_wp2_with fail
  go_loopw [5] (fun i wr => ∃ k : Nat, k ≤ l.length + 16 ∧ i = .int .i64 k ∧ Hid (Below w.heap.size w wr)) (fun i _ => l.length + 16 - (intOf i).toNat)
  case atStart => exact ⟨0, Nat.zero_le _, rfl, hide (Below.refl _ _)⟩
  case round =>
    obtain ⟨k, hk, rfl, HB⟩ := hrel
    have HMK := hide (fun W : World => markLinks_any ((k : Int) - (l.length : Int)) W)
    by_cases hlt : k < l.length
    · obtain ⟨⟨kd, r⟩, hp⟩ : ∃ p, l[k]? = some p := ⟨_, List.getElem?_eq_getElem hlt⟩
      obtain ⟨b, off, ha, hbl, hc⟩ := HR.out.resolve_left (fun h => by rw [h] at hlt; simp at hlt)
      have HP1 := hide (hc k _ hp)
      have HP2 := hide (HC.out k _ (by rw [List.getElem?_append_left hlt]; exact hp))
      have HBL := hide hbl
      subst ha
      clear hc hp hbl
      generalize mk5 ((k : Int) - (l.length : Int)) = m at *
      go_wp2_with fail
      refine (HMK.out _).mono ?_
      rintro e w1 ⟨rfl, hb1⟩
      have B1 := hide (HB.out.trans (hb1.mono HB.out.size))
      clear hb1
      have BA := hide (B1.out.alloc B1.out.size (.cells #[.int .i64 (-100), .string ⟨m.toArray⟩] 53))
      have BC := hide (B1.out.alloc B1.out.size (.cells #[.int .i64 kd, .string ⟨r.toArray⟩] 53))
      have c0 := (BA.out.cell (p := ⟨b, off + k * 2, none⟩) HBL.out).trans HP1.out.1
      have c1 := (BA.out.cell (p := ⟨b, off + k * 2 + 1, none⟩) HBL.out).trans HP1.out.2
      have d0 := (BC.out.cell (p := ⟨g, k * 2, none⟩) HG.out).trans HP2.out.1
      have d1 := (BC.out.cell (p := ⟨g, k * 2 + 1, none⟩) HG.out).trans HP2.out.2
      have q := LC.alloc_new w1 (.cells #[.int .i64 kd, .string ⟨r.toArray⟩] 53)
      obtain ⟨e0, e1⟩ := pair_cells q rfl
      have hneq2 := run_neq_lnk kd r
      clear q hneq
      go_wp2_with fail
      have BC2 := hide BC.out
      generalize w1.alloc (.cells #[.int .i64 kd, .string ⟨r.toArray⟩] 53) = Y at *
      go_quiet (fail)
      go_wp2_with fail
      go_roundw
      case rel => exact ⟨k + 1, by omega, by go_num, hide (below_dN BC2.out _)⟩
      case measure => simp [intOf]; omega
    · by_cases hend : k < l.length + 16
      · have HP2 := hide (HC.out k (mkL ((k : Int) - (l.length : Int))) (by
          rw [List.getElem?_append_right (by omega), marksL_at (by omega)]
          congr 2; omega))
        unfold mkL at HP2
        generalize mk5 ((k : Int) - (l.length : Int)) = m at *
        go_wp2_with fail
        refine (HMK.out _).mono ?_
        rintro e w1 ⟨rfl, hb1⟩
        have B1 := hide (HB.out.trans (hb1.mono HB.out.size))
        clear hb1
        have BC := hide (B1.out.alloc B1.out.size (.cells #[.int .i64 (-100), .string ⟨m.toArray⟩] 53))
        have d0 := (BC.out.cell (p := ⟨g, k * 2, none⟩) HG.out).trans HP2.out.1
        have d1 := (BC.out.cell (p := ⟨g, k * 2 + 1, none⟩) HG.out).trans HP2.out.2
        have q := LC.alloc_new w1 (.cells #[.int .i64 (-100), .string ⟨m.toArray⟩] 53)
        obtain ⟨e0, e1⟩ := pair_cells q rfl
        have hneq2 := run_neq_lnk (-100) m
        clear q hneq
        go_wp2_with fail
        generalize w1.alloc (.cells #[.int .i64 (-100), .string ⟨m.toArray⟩] 53) = Y at *
        go_quiet (fail)
        go_wp2_with fail
        go_roundw
        case rel => exact ⟨k + 1, by omega, by go_num, hide (below_dN BC.out _)⟩
        case measure => simp [intOf]; omega
      · have hk' : k = l.length + 16 := by omega
        subst hk'
        go_wp2_with fail
        go_ret
        exact ⟨rfl, HB.out⟩
set_option maxRecDepth 100000 in
set_option maxHeartbeats 1000000 in
theorem keptLinks_any (v : Value) (l : List Lnk) (B g cap : Nat) (w : World) (hv : RL w v l) (hk : LentL w B g cap l) (hl : l.length ≤ 5864062014805) :
    Calls Tryd.prog 9 #[.slice (some ⟨g, 0, none⟩) l.length cap, v] w fun e w' => e = .returned (.bool true) ∧ Below w.heap.size w w' := by
  have HF := hide (keptFullLinks_any v l B g cap w hv hk hl)
  obtain ⟨_, hcap, _⟩ := hk.parts
  obtain ⟨a, cap0, rfl, _⟩ := hv
  clear hk
  by_cases hq : cap = l.length + 16
  · subst hq
    go_enter Tryd.func9, Tryd.ntmps9
    go_wp2_with fail
    refine HF.out.mono ?_
    rintro e w1 ⟨rfl, hb1⟩
    go_wp2_with fail
    go_ret
    exact ⟨rfl, hb1⟩
  · have hle : ((l.length : Int) + 16) ≤ (cap : Int) := by omega
    go_enter Tryd.func9, Tryd.ntmps9
    go_wp2_with fail
    refine HF.out.mono ?_
    rintro e w1 ⟨rfl, hb1⟩
    go_wp2_with fail
    go_ret
    exact ⟨rfl, hb1⟩
end Go.Proofs.YtdfhfjkcafchiaaDoor
