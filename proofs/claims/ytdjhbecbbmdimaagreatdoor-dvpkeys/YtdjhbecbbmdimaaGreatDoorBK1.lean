/-
  My own text: marks lent with marks behind them, and looked at again; positions lent (printed by mkbk1.py).
-/
import Derived.Test.YtdjhbecbbmdimaaGreatDoorB5
import Derived.Deep.DeepAppendWide
import Derived.Laws.StructEq
import Derived.Deep.AppendLies
namespace Go.Proofs.YtdjhbecbbmdimaaGreatDoor.BL
open Go.RowKit

set_option maxRecDepth 100000 in
set_option maxHeartbeats 1000000 in
theorem markM_any (k i : Int) (w : World) (h0 : -1000000 ≤ k) (h1 : k ≤ 1000000) :
    Calls Tryz.prog 161 #[.int .i64 k, .int .i64 i] w fun e w' => e = .returned (.agg #[.int .i64 (-10 - k), .int .i64 i]) ∧ Below w.heap.size w w' := by
  obtain ⟨K, hK⟩ : ∃ K, -10 - k = K := ⟨_, rfl⟩
  have hw : wrap64 (-10 - k) = K := by rw [← hK]; unfold wrap64; omega
  have hw2 : IntKind.i64.wrap (-10 - k) = K := by rw [IntKind.wrap_i64, ← hK]; omega
  rw [hK]
  have N0 := hide (alloc_new w (.cells #[.int .i64 0, .int .i64 0] 142))
  have B0 := hide ((Below.refl w.heap.size w).alloc (Nat.le_refl _) (.cells #[.int .i64 K, .int .i64 i] 142))
  have N1 := alloc_new w (.cells #[.int .i64 K, .int .i64 i] 142)
  obtain ⟨d0, d1⟩ := pair_cells N1 rfl
  clear h0 h1 N1 hK
  go_enter Tryz.func161, Tryz.ntmps161
  go_wp2_with fail
  exact bodyPost_ret (v := .agg #[.int .i64 K, .int .i64 i]) (by simp [results, Tryz.results161, go_sem]) rfl ⟨rfl, B0.out⟩
/-- The number of a mark behind. -/
def mk5 (i : Int) : Int := i
theorem mark90_any (i : Int) (w : World) :
    Calls Tryz.prog 161 #[.int .i64 90, .int .i64 i] w fun e w' => e = .returned (.agg #[.int .i64 (-100), .int .i64 (mk5 i)]) ∧ Below w.heap.size w w' :=
  markM_any 90 i w (by omega) (by omega)
def mkM (i : Int) : Mk := (-100, mk5 i)
def marksM : List Mk := (List.range 16).map fun i : Nat => mkM (i : Int)
theorem marksM_len : marksM.length = 16 := by simp [marksM]
theorem marksM_at {j : Nat} (h : j < 16) : marksM[j]? = some (mkM (j : Int)) := by
  unfold marksM; rw [List.getElem?_map, List.getElem?_range h]; rfl
set_option maxRecDepth 100000 in
set_option maxHeartbeats 2000000 in
theorem fullMarks_any (v : Value) (l : List Mk) (w : World) (hv : RM w v l) (hl : l.length ≤ 8796093022000) :
    Calls Tryz.prog 160 #[v] w fun e w' => ∃ v', e = .returned v' ∧ w'.ownsRow w.heap.size 142 2 v' (l.length + 16) (mc (l ++ marksM)) ∧ Below w.heap.size w w' := by
  obtain ⟨a, cap, rfl, _, hr⟩ := hv
  obtain ⟨i0, hi, hz0, hz1, hz2⟩ := info_parts Tryz.infoMk
  go_enter Tryz.func160, Tryz.ntmps160
  go_wp2_with fail
  go_loopw [3, 4] (fun o i wr => ∃ k : Nat, k ≤ l.length ∧ i = .int .i64 k ∧ wr.ownsRow w.heap.size 142 2 o k (mc (l.take k)) ∧ Below w.heap.size w wr) (fun _ i _ => l.length - (intOf i).toNat)
  case atStart => exact ⟨0, Nat.zero_le _, rfl, World.ownsRow_nil w w.heap.size 142 2, Below.refl _ _⟩
  case round =>
    obtain ⟨k, hk, rfl, hown, hB⟩ := hrel
    by_cases hlt : k < l.length
    · obtain ⟨⟨kd, r⟩, hx⟩ : ∃ p, l[k]? = some p := ⟨_, List.getElem?_eq_getElem hlt⟩
      rcases hr with h0 | ⟨b, off, rfl, hbl, hc⟩
      · rw [h0] at hlt; simp at hlt
      have c0 : wr.cell? ⟨b, off + k * 2, none⟩ = some (.int .i64 kd) := (hB.cell (p := ⟨b, _, none⟩) hbl).trans (hc k _ hx).1
      have c1 : wr.cell? ⟨b, off + k * 2 + 1, none⟩ = some (.int .i64 r) := (hB.cell (p := ⟨b, _, none⟩) hbl).trans (hc k _ hx).2
      have c1' : wr.cell? ⟨b, off + (k * 2 + 1), none⟩ = some (.int .i64 r) := c1
      have HT := hide (mc_take hx)
      clear hc hx
      go_wp2_with (first
        | (at_builtin; refine wpList_append_own_wide _ rfl _ _ 58 rfl w.heap.size 142 i0 (.agg #[.int .i64 0, .int .i64 0]) 2 16 Tryz.underlying58 hi hz0 hz1 hz2 rfl (by decide) _ _ _ rfl (hown.alloc _) ⟨_, 0, none⟩ 1 1 [.int .i64 kd, .int .i64 r] rfl rfl ?c1 ?c2 ?c3 ?c4 ?c5 ?_)
        | go_in)
      case c2 => exact ⟨rfl, rfl⟩
      case c3 => unfold maxLen; omega
      case c4 => omega
      case c5 => have := hB.size; simp; omega
      intro v' w1 hown' hgrow _
      have hB1 : Below w.heap.size w w1 := (hB.alloc hB.size _).grown hgrow (by have := hB.size; simp; omega) (fun k hk => (hown.lt k hk).1)
      clear hown hgrow
      go_wp2_with fail
      go_roundw
      case rel => exact ⟨k + 1, by omega, by go_num, by rw [HT.out]; exact hown', hB1⟩
      case measure => simp [intOf]; omega
    · have hk' : k = l.length := by omega
      subst hk'
      rw [List.take_length] at hown
      clear hr
      go_wp2_with fail
      go_loopw [3, 5] (fun o i wr => ∃ k : Nat, k ≤ 16 ∧ i = .int .i64 k ∧ wr.ownsRow w.heap.size 142 2 o (l.length + k) (mc (l ++ marksM.take k)) ∧ Below w.heap.size w wr) (fun _ i _ => 16 - (intOf i).toNat)
      case atStart => exact ⟨0, Nat.zero_le _, rfl, by rw [List.take_zero, List.append_nil]; exact hown, hB⟩
      case round =>
        clear hown hB
        obtain ⟨k, hk, rfl, hown, hB⟩ := hrel
        by_cases hlt : k < 16
        · have HT : Hid (mc (l ++ marksM.take (k + 1)) = mc (l ++ marksM.take k) ++ [.int .i64 (-100), .int .i64 (mk5 (k : Int))]) := by
            show _ = _
            rw [mc_app, mc_take (marksM_at hlt), ← List.append_assoc, ← mc_app]; rfl
          have HMK := hide (fun W : World => mark90_any (k : Int) W)
          generalize mk5 (k : Int) = m at *
          go_wp2_with fail
          refine (HMK.out _).mono ?_
          rintro e w1 ⟨rfl, hb1⟩
          have hown1 : w1.ownsRow w.heap.size 142 2 u3 (l.length + k) (mc (l ++ marksM.take k)) := owns_later hown hb1
          have hB1 := hB.trans (hb1.mono hB.size)
          clear hown hB hb1
          go_wp2_with (first
            | (at_builtin; refine wpList_append_own_wide _ rfl _ _ 58 rfl w.heap.size 142 i0 (.agg #[.int .i64 0, .int .i64 0]) 2 16 Tryz.underlying58 hi hz0 hz1 hz2 rfl (by decide) _ _ _ rfl (hown1.alloc _) ⟨_, 0, none⟩ 1 1 [.int .i64 (-100), .int .i64 m] rfl rfl ?d1 ?d2 ?d3 ?d4 ?d5 ?_)
            | go_in)
          case d1 =>
            intro j u hj
            match j, hj with
            | 0, hj => simp at hj; subst hj; simp [Addr.add]
            | 1, hj => simp at hj; subst hj; simp [Addr.add]
          case d2 => intro u hu; simp at hu; rcases hu with rfl | rfl <;> rfl
          case d3 => unfold maxLen; omega
          case d4 => omega
          case d5 => have := hB1.size; simp; omega
          intro v' w2 hown' hgrow _
          have hB2 : Below w.heap.size w w2 := (hB1.alloc hB1.size _).grown hgrow (by have := hB1.size; simp; omega) (fun k hk => (hown1.lt k hk).1)
          clear hown1 hgrow
          go_wp2_with fail
          go_roundw
          case rel => exact ⟨k + 1, by omega, by go_num, by rw [HT.out, ← Nat.add_assoc]; exact hown', hB2⟩
          case measure => simp [intOf]; omega
        · have hk' : k = 16 := by omega
          subst hk'
          rw [List.take_of_length_le (by rw [marksM_len]; omega)] at hown
          go_wp2_with fail
          go_ret
          exact ⟨_, rfl, hown, hB⟩

/-- A list of links that was lent, in block g, from B on. -/
structure LentM (w : World) (B g cap : Nat) (l : List Mk) : Prop where
  base : B ≤ g
  own : w.ownsRow B 142 2 (.slice (some ⟨g, 0, none⟩) (l.length + 16) cap) (l.length + 16) (mc (l ++ marksM))
theorem LentM.later {w w' : World} {B g cap : Nat} {l : List Mk} (h : LentM w B g cap l) (hb : Below w.heap.size w w') : LentM w' B g cap l := ⟨h.base, owns_later h.own hb⟩
theorem LentM.parts {w : World} {B g cap : Nat} {l : List Mk} (h : LentM w B g cap l) : g < w.heap.size ∧ l.length + 16 ≤ cap ∧ (∀ (j : Nat) (p : Mk), (l ++ marksM)[j]? = some p → w.cell? ⟨g, j * 2, none⟩ = some (.int .i64 p.1) ∧ w.cell? ⟨g, j * 2 + 1, none⟩ = some (.int .i64 p.2)) := by
  have h' := h.own
  rcases h'.2 with ⟨h0, _⟩ | ⟨g', cap', cur, hv, hb, hh, hn2, _⟩
  · cases h0
  · cases hv
    refine ⟨(Array.getElem?_eq_some_iff.1 hh).1, hn2, fun j p hj => ?_⟩
    have hjl : j < l.length + 16 := by have := (List.getElem?_eq_some_iff.1 hj).1; rw [List.length_append, marksM_len] at this; exact this
    obtain ⟨e0, e1⟩ := mc_at hj
    exact ⟨(h'.cellAt (j * 2) (by omega)).trans e0, (h'.cellAt (j * 2 + 1) (by omega)).trans e1⟩
theorem LentM.rm {w : World} {B g cap : Nat} {l : List Mk} (h : LentM w B g cap l) : RM w (.slice (some ⟨g, 0, none⟩) l.length cap) l := by
  obtain ⟨h1, h2, h3⟩ := h.parts
  refine ⟨_, _, rfl, by omega, .inr ⟨g, 0, rfl, h1, fun j p hj => ?_⟩⟩
  have := h3 j p (by rw [List.getElem?_append_left (List.getElem?_eq_some_iff.1 hj).1]; exact hj)
  rw [Nat.zero_add]; exact this
set_option maxRecDepth 100000 in
set_option maxHeartbeats 1000000 in
theorem lentMarks_any (v : Value) (l : List Mk) (w : World) (hv : RM w v l) (hl : l.length ≤ 8796093022000) :
    Calls Tryz.prog 157 #[v] w fun e w' => ∃ g cap, e = .returned (.slice (some ⟨g, 0, none⟩) l.length cap) ∧ LentM w' w.heap.size g cap l ∧ Below w.heap.size w w' := by
  have HF := hide (fullMarks_any v l w hv hl)
  obtain ⟨a, cap0, rfl, _, _⟩ := hv
  go_enter Tryz.func157, Tryz.ntmps157
  go_wp2_with fail
  refine HF.out.mono ?_
  rintro e w1 ⟨v', rfl, hown, hb1⟩
  obtain ⟨g, cap, hv, hgb, hglt⟩ := World.ownsRow.form hown (by omega)
  subst hv
  have HL : Hid (LentM w1 w.heap.size g cap l) := hide ⟨hgb, hown⟩
  obtain ⟨_, hcap, _⟩ := HL.out.parts
  have hne : ¬ cap = l.length := by omega
  have hle : (l.length : Int) ≤ (cap : Int) := by omega
  have HB := hide hb1
  clear hown hb1
  go_wp2_with fail
  go_ret
  exact ⟨g, cap, rfl, HL.out, HB.out⟩
theorem Tryz.undMk : Tryz.prog.underlying 142 = some (.struct (Tryz.prog.fieldsOf 142)) := by kernel_rfl
theorem Tryz.stoodMk : Tryz.prog.stoodInHeld 142 = false := by kernel_rfl
theorem run_neq_mk (k : Int) (r : Int) (w : World) : (binOp .neq 142 (.agg #[.int .i64 k, .int .i64 r]) (.agg #[.int .i64 k, .int .i64 r])).run Tryz.prog w = .ok (.bool false) w := by
  rw [run_neq_struct, run_equalIn_struct w 9999 _ _ _ Tryz.undMk Tryz.stoodMk]
  simp [Program.fieldsOf, Tryz.underlying142, Op.eqFields, part, isAgg, underlying, Tryz.underlying3, Tryz.underlying2, Result.andThen, run_equalIn_int _ _ _ _ _ _ _ Tryz.underlying3, run_equalIn_int _ _ _ _ _ _ _ Tryz.underlying2]

theorem below_dN {B : Nat} {a w : World} (h : Below B a w) (n : Nat) : Below B a (w.drewN n) := h.trans ⟨rfl, rfl, rfl, Nat.le_refl _, fun _ _ => rfl⟩
set_option maxRecDepth 100000 in
set_option maxHeartbeats 1000000 in
theorem lentPos_any (av : Int) (v : Value) (l : List Mk) (w : World) (hv : RM w v l) (hl : l.length ≤ 8796093022000) :
    Calls Tryz.prog 154 #[.agg #[.int .i64 av, v]] w fun e w' => ∃ g cap, e = .returned (.agg #[.int .i64 av, .slice (some ⟨g, 0, none⟩) l.length cap]) ∧ LentM w' w.heap.size g cap l ∧ Below w.heap.size w w' := by
  have HL := hide (fun (W : World) (hb : Below w.heap.size w W) => lentMarks_any v l W (hv.later hb) hl)
  obtain ⟨a, cap, rfl, _, _⟩ := hv
  have B0 := hide (((Below.refl w.heap.size w).alloc (Nat.le_refl _) (.cells #[.int .i64 av, .slice a l.length cap] 60)).alloc (by simp) (.cells #[.int .i64 0, .slice Option.none 0 0] 60))
  have X0 := hide (alloc_block (o := .cells #[.int .i64 0, .slice Option.none 0 0] 60) (Px.new w av (.slice a l.length cap)))
  have Y0 := hide (alloc_new (w.alloc (.cells #[.int .i64 av, .slice a l.length cap] 60)) (.cells #[.int .i64 0, .slice Option.none 0 0] 60))
  rw [show (w.alloc (.cells #[.int .i64 av, .slice a l.length cap] 60)).heap.size = w.heap.size + 1 by simp] at Y0
  obtain ⟨x0, x1⟩ := pair_cells X0.out rfl
  go_enter Tryz.func154, Tryz.ntmps154
  go_wp2_with fail
  refine (HL.out _ B0.out).mono ?_
  rintro e w1 ⟨g, c4, rfl, hL, hb⟩
  have X1 := hide (blk_later X0.out hb)
  have Y1 := hide (blk_later Y0.out hb)
  have B1 := hide (B0.out.trans (hb.mono B0.out.size))
  have HLM := hide hL
  clear x0 x1
  obtain ⟨x0, x1⟩ := pair_cells X1.out rfl
  obtain ⟨y0, y1⟩ := pair_cells Y1.out rfl
  have hy := Y1.out
  have f0 : w1.frozen? ⟨w.heap.size + 1, 0, none⟩ = false := by unfold World.frozen?; simp [hy]
  have f1 : w1.frozen? ⟨w.heap.size + 1, 1, none⟩ = false := by unfold World.frozen?; simp [hy]
  clear hb hL hy
  go_wp2_with fail
  have e1 := set2 (a := .int .i64 av) (b := .slice (some ⟨g, 0, none⟩) l.length c4) Y1.out
  have e3 := (B1.out.setCell (p := ⟨w.heap.size + 1, 0, none⟩) (Nat.le_succ _) (.int .i64 av)).setCell (p := ⟨w.heap.size + 1, 1, none⟩) (Nat.le_succ _) (.slice (some ⟨g, 0, none⟩) l.length c4)
  have e2 : LentM ((w1.setCell ⟨w.heap.size + 1, 0, none⟩ (.int .i64 av)).setCell ⟨w.heap.size + 1, 1, none⟩ (.slice (some ⟨g, 0, none⟩) l.length c4)) w.heap.size g c4 l := by
    refine ⟨Nat.le_trans B0.out.size HLM.out.base, own_blk (World.ownsRow.mono HLM.out.own B0.out.size) (fun g' c hc => ?_)⟩
    have hne : g' ≠ w.heap.size + 1 := fun e => by
      rw [e, Y1.out] at hc
      injection hc with hc
      injection hc with _ hc _
      exact absurd hc (by decide)
    rw [Below.heap_setCell _ _ _ g' hne, Below.heap_setCell _ _ _ g' hne]
  generalize ((w1.setCell ⟨w.heap.size + 1, 0, none⟩ (.int .i64 av)).setCell ⟨w.heap.size + 1, 1, none⟩ (.slice (some ⟨g, 0, none⟩) l.length c4)) = X at *
  obtain ⟨dd0, dd1⟩ := pair_cells e1 rfl
  exact bodyPost_ret (v := .agg #[.int .i64 av, .slice (some ⟨g, 0, none⟩) l.length c4]) (by simp [results, Tryz.results154, go_sem, dd0, dd1]) rfl ⟨g, c4, rfl, e2, e3⟩
end Go.Proofs.YtdjhbecbbmdimaaGreatDoor.BL
