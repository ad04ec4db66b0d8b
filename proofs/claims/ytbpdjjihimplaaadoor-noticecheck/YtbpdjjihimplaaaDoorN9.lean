/-
  My own text: links that were lent, looked at again.
-/
import Derived.Test.YtbpdjjihimplaaaDoorN8
namespace Go.Proofs.YtbpdjjihimplaaaDoor
open Go.RowKit LC

theorem below_dN {B : Nat} {a w : World} (h : Below B a w) (n : Nat) : Below B a (w.drewN n) := h.trans ⟨rfl, rfl, rfl, Nat.le_refl _, fun _ _ => rfl⟩
set_option maxRecDepth 100000 in
set_option maxHeartbeats 4000000 in
theorem keptFullLinks_any (v : Value) (l : List Lnk) (B g cap : Nat) (w : World) (hv : RL w v l) (hk : LentL w B g cap l) (hl : l.length ≤ 5864062014805) :
    Calls Tryd.prog 17 #[.slice (some ⟨g, 0, none⟩) (l.length + 16) cap, v] w fun e w' => e = .returned (.bool true) ∧ Below w.heap.size w w' := by
  have HK := hide hk
  obtain ⟨hglt, hgcap, hcells⟩ := hk.parts
  have HC := hide hcells
  have HG := hide hglt
  obtain ⟨a, cap0, rfl, hr⟩ := hv
  have HR := hide hr
  have hneq := run_neq_lnk
  clear hk hcells hglt hr
  go_enter Tryd.func17, Tryd.ntmps17
  go_wp2_with fail
  go_loopw [5] (fun i wr => ∃ k : Nat, k ≤ l.length + 16 ∧ i = .int .i64 k ∧ Hid (Below w.heap.size w wr)) (fun i _ => l.length + 16 - (intOf i).toNat)
  case atStart => exact ⟨0, Nat.zero_le _, rfl, hide (Below.refl _ _)⟩
  case round =>
    obtain ⟨k, hk, rfl, HB⟩ := hrel
    have HMK := hide (fun W : World => markLinks_any ((k : Int) - (l.length : Int)) W)
    by_cases hlt : k < l.length
    · obtain ⟨⟨kd, r⟩, hp⟩ : ∃ p, l[k]? = some p := ⟨_, List.getElem?_eq_getElem hlt⟩
      obtain ⟨b, off, ha, hbl, hc⟩ := HR.out.resolve_left (fun h => by rw [h] at hlt; simp at hlt)
      have HP1 := hide (hc k _ hp)
      have HP2 := hide (HC.out k _ (by rw [List.getElem?_append_left hlt]; exact hp))
      have HBL := hide hbl
      subst ha
      clear hc hp hbl
      generalize mk5 ((k : Int) - (l.length : Int)) = m at *
      go_wp2_with fail
      refine (HMK.out _).mono ?_
      rintro e w1 ⟨rfl, hb1⟩
      have B1 := hide (HB.out.trans (hb1.mono HB.out.size))
      clear hb1
      have BA := hide (B1.out.alloc B1.out.size (.cells #[.int .i64 (-100), .string ⟨m.toArray⟩] 42))
      have BC := hide (B1.out.alloc B1.out.size (.cells #[.int .i64 kd, .string ⟨r.toArray⟩] 42))
      have c0 := (BA.out.cell (p := ⟨b, off + k * 2, none⟩) HBL.out).trans HP1.out.1
      have c1 := (BA.out.cell (p := ⟨b, off + k * 2 + 1, none⟩) HBL.out).trans HP1.out.2
      have d0 := (BC.out.cell (p := ⟨g, k * 2, none⟩) HG.out).trans HP2.out.1
      have d1 := (BC.out.cell (p := ⟨g, k * 2 + 1, none⟩) HG.out).trans HP2.out.2
      have q := LC.alloc_new w1 (.cells #[.int .i64 kd, .string ⟨r.toArray⟩] 42)
      obtain ⟨e0, e1⟩ := pair_cells q rfl
      have hneq2 := run_neq_lnk kd r
      clear q hneq
      go_wp2_with fail
      have BC2 := hide BC.out
      generalize w1.alloc (.cells #[.int .i64 kd, .string ⟨r.toArray⟩] 42) = Y at *
      go_quiet (fail)
      go_wp2_with fail
      go_roundw
      case rel => exact ⟨k + 1, by omega, by go_num, hide (below_dN BC2.out _)⟩
      case measure => simp [intOf]; omega
    · by_cases hend : k < l.length + 16
      · have HP2 := hide (HC.out k (mkL ((k : Int) - (l.length : Int))) (by
          rw [List.getElem?_append_right (by omega), marksL_at (by omega)]
          congr 2; omega))
        unfold mkL at HP2
        generalize mk5 ((k : Int) - (l.length : Int)) = m at *
        go_wp2_with fail
        refine (HMK.out _).mono ?_
        rintro e w1 ⟨rfl, hb1⟩
        have B1 := hide (HB.out.trans (hb1.mono HB.out.size))
        clear hb1
        have BC := hide (B1.out.alloc B1.out.size (.cells #[.int .i64 (-100), .string ⟨m.toArray⟩] 42))
        have d0 := (BC.out.cell (p := ⟨g, k * 2, none⟩) HG.out).trans HP2.out.1
        have d1 := (BC.out.cell (p := ⟨g, k * 2 + 1, none⟩) HG.out).trans HP2.out.2
        have q := LC.alloc_new w1 (.cells #[.int .i64 (-100), .string ⟨m.toArray⟩] 42)
        obtain ⟨e0, e1⟩ := pair_cells q rfl
        have hneq2 := run_neq_lnk (-100) m
        clear q hneq
        go_wp2_with fail
        generalize w1.alloc (.cells #[.int .i64 (-100), .string ⟨m.toArray⟩] 42) = Y at *
        go_quiet (fail)
        go_wp2_with fail
        go_roundw
        case rel => exact ⟨k + 1, by omega, by go_num, hide (below_dN BC.out _)⟩
        case measure => simp [intOf]; omega
      · have hk' : k = l.length + 16 := by omega
        subst hk'
        go_wp2_with fail
        go_ret
        exact ⟨rfl, HB.out⟩
set_option maxRecDepth 100000 in
set_option maxHeartbeats 1000000 in
theorem keptLinks_any (v : Value) (l : List Lnk) (B g cap : Nat) (w : World) (hv : RL w v l) (hk : LentL w B g cap l) (hl : l.length ≤ 5864062014805) :
    Calls Tryd.prog 8 #[.slice (some ⟨g, 0, none⟩) l.length cap, v] w fun e w' => e = .returned (.bool true) ∧ Below w.heap.size w w' := by
  have HF := hide (keptFullLinks_any v l B g cap w hv hk hl)
  obtain ⟨_, hcap, _⟩ := hk.parts
  obtain ⟨a, cap0, rfl, _⟩ := hv
  clear hk
  by_cases hq : cap = l.length + 16
  · subst hq
    go_enter Tryd.func8, Tryd.ntmps8
    go_wp2_with fail
    refine HF.out.mono ?_
    rintro e w1 ⟨rfl, hb1⟩
    go_wp2_with fail
    go_ret
    exact ⟨rfl, hb1⟩
  · have hle : ((l.length : Int) + 16) ≤ (cap : Int) := by omega
    go_enter Tryd.func8, Tryd.ntmps8
    go_wp2_with fail
    refine HF.out.mono ?_
    rintro e w1 ⟨rfl, hb1⟩
    go_wp2_with fail
    go_ret
    exact ⟨rfl, hb1⟩
end Go.Proofs.YtbpdjjihimplaaaDoor
