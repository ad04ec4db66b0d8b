/-
  My own text: MF0, MF1 in one.
-/
import Derived.Test.YtdfhfjkcafchiaaDoorN9
namespace Go.Proofs.YtdfhfjkcafchiaaDoor
open Go.RowKit LC

/-- A list of texts in memory. -/
def RT (w : World) (v : Value) (l : List (List UInt8)) : Prop := ∃ a cap, v = .slice a l.length cap ∧ (l = [] ∨ ∃ b off, a = some ⟨b, off, none⟩ ∧ b < w.heap.size ∧ ∀ (j : Nat) (s : List UInt8), l[j]? = some s → w.cell? ⟨b, off + j, none⟩ = some (.string ⟨s.toArray⟩))
theorem RT.later {w w' : World} {v : Value} {l : List (List UInt8)} (h : RT w v l) (hb : Below w.heap.size w w') : RT w' v l := by
  obtain ⟨a, cap, hv, hr⟩ := h
  refine ⟨a, cap, hv, ?_⟩
  rcases hr with h0 | ⟨b, off, ha, hlt, hc⟩
  · exact .inl h0
  · exact .inr ⟨b, off, ha, Nat.lt_of_lt_of_le hlt hb.size, fun j s hj => (hb.cell (p := ⟨b, off + j, none⟩) hlt).trans (hc j s hj)⟩
def tc (l : List (List UInt8)) : List Value := l.map fun s => .string ⟨s.toArray⟩
theorem tc_app (a b : List (List UInt8)) : tc (a ++ b) = tc a ++ tc b := by unfold tc; rw [List.map_append]
theorem tc_at {a : List (List UInt8)} {j : Nat} {s : List UInt8} (h : a[j]? = some s) : (tc a)[j]? = some (.string ⟨s.toArray⟩) := by unfold tc; rw [List.getElem?_map, h]; rfl
theorem tc_take {l : List (List UInt8)} {k : Nat} {s : List UInt8} (h : l[k]? = some s) : tc (l.take (k + 1)) = tc (l.take k) ++ [.string ⟨s.toArray⟩] := by
  rw [List.take_add_one, h, tc_app]; rfl
def marksT : List (List UInt8) := (List.range 16).map fun i : Nat => mk5 (i : Int)
theorem marksT_len : marksT.length = 16 := by simp [marksT]
theorem marksT_at {j : Nat} (h : j < 16) : marksT[j]? = some (mk5 (j : Int)) := by
  unfold marksT; rw [List.getElem?_map, List.getElem?_range h]; rfl
theorem Tryd.infoStrT : (Tryd.prog.info? 9).map (fun i => (i.zero, i.size, i.bytes)) = some (some (.string ⟨#[]⟩), 1, 16) := by kernel_rfl
theorem markTexts_any (i : Int) (w : World) :
    Calls Tryd.prog 23 #[.int .i64 90, .int .i64 i] w fun e w' => e = .returned (.string ⟨(mk5 i).toArray⟩) ∧ Below w.heap.size w w' := by
  have HMT := hide (markText_any i w)
  generalize mk5 i = m at *
  go_enter Tryd.func23, Tryd.ntmps23
  go_wp2_with fail
  refine HMT.out.mono ?_
  rintro e w1 ⟨rfl, hb1⟩
  have HB := hide hb1
  clear hb1
  go_wp2_with fail
  go_ret
  exact ⟨rfl, HB.out⟩
set_option maxRecDepth 100000 in
set_option maxHeartbeats 2000000 in
theorem fullTexts_any (v : Value) (l : List (List UInt8)) (w : World) (hv : RT w v l) (hl : l.length ≤ 8796093022000) :
    Calls Tryd.prog 13 #[v] w fun e w' => ∃ v', e = .returned v' ∧ w'.ownsRow w.heap.size 9 1 v' (l.length + 16) (tc (l ++ marksT)) ∧ Below w.heap.size w w' := by
  obtain ⟨a, cap, rfl, hr⟩ := hv
  obtain ⟨i0, hi, hz0, hz1, hz2⟩ := info_parts Tryd.infoStrT
  go_enter Tryd.func13, Tryd.ntmps13
  go_wp2_with fail
  go_loopw [3, 4] (fun o i wr => ∃ k : Nat, k ≤ l.length ∧ i = .int .i64 k ∧ wr.ownsRow w.heap.size 9 1 o k (tc (l.take k)) ∧ Below w.heap.size w wr) (fun _ i _ => l.length - (intOf i).toNat)
  case atStart => exact ⟨0, Nat.zero_le _, rfl, World.ownsRow_nil w w.heap.size 9 1, Below.refl _ _⟩
  case round =>
    obtain ⟨k, hk, rfl, hown, hB⟩ := hrel
    by_cases hlt : k < l.length
    · obtain ⟨r, hx⟩ : ∃ p, l[k]? = some p := ⟨_, List.getElem?_eq_getElem hlt⟩
      rcases hr with h0 | ⟨b, off, rfl, hbl, hc⟩
      · rw [h0] at hlt; simp at hlt
      have c0 : wr.cell? ⟨b, off + k, none⟩ = some (.string ⟨r.toArray⟩) := (hB.cell (p := ⟨b, _, none⟩) hbl).trans (hc k _ hx)
      have HT := hide (tc_take hx)
      clear hc hx
      go_wp2_with (first
        | (at_builtin; refine wpList_append_own_wide _ rfl _ _ 29 rfl w.heap.size 9 i0 (.string ⟨#[]⟩) 1 16 Tryd.underlying29 hi hz0 hz1 hz2 rfl (by decide) _ _ _ rfl (hown.alloc _) ⟨_, 0, none⟩ 1 1 [.string ⟨r.toArray⟩] rfl rfl ?c1 ?c2 ?c3 ?c4 ?c5 ?_)
        | go_in)
      case c1 => first | exact cell_one_new _ _ _ | (intro j u hj; match j, hj with | 0, hj => (simp at hj; subst hj; simp [Addr.add]))
      case c2 => first | exact ⟨rfl, trivial⟩ | rfl | (intro u hu; simp at hu; subst hu; rfl)
      case c3 => unfold maxLen; omega
      case c4 => omega
      case c5 => have := hB.size; simp; omega
      intro v' w1 hown' hgrow _
      have hB1 : Below w.heap.size w w1 := (hB.alloc hB.size _).grown hgrow (by have := hB.size; simp; omega) (fun k hk => (hown.lt k hk).1)
      clear hown hgrow
      go_wp2_with fail
      go_roundw
      case rel => exact ⟨k + 1, by omega, by go_num, by rw [HT.out]; exact hown', hB1⟩
      case measure => simp [intOf]; omega
    · have hk' : k = l.length := by omega
      subst hk'
      rw [List.take_length] at hown
      clear hr
      go_wp2_with fail
      go_loopw [3, 5] (fun o i wr => ∃ k : Nat, k ≤ 16 ∧ i = .int .i64 k ∧ wr.ownsRow w.heap.size 9 1 o (l.length + k) (tc (l ++ marksT.take k)) ∧ Below w.heap.size w wr) (fun _ i _ => 16 - (intOf i).toNat)
      case atStart => exact ⟨0, Nat.zero_le _, rfl, by rw [List.take_zero, List.append_nil]; exact hown, hB⟩
      case round =>
        clear hown hB
        obtain ⟨k, hk, rfl, hown, hB⟩ := hrel
        by_cases hlt : k < 16
        · have HT : Hid (tc (l ++ marksT.take (k + 1)) = tc (l ++ marksT.take k) ++ [.string ⟨(mk5 (k : Int)).toArray⟩]) := by
            show _ = _
            rw [tc_app, tc_take (marksT_at hlt), ← List.append_assoc, ← tc_app]
          have HMK := hide (fun W : World => markTexts_any (k : Int) W)
          generalize mk5 (k : Int) = m at *
          go_wp2_with fail
          refine (HMK.out _).mono ?_
          rintro e w1 ⟨rfl, hb1⟩
          have hown1 : w1.ownsRow w.heap.size 9 1 u3 (l.length + k) (tc (l ++ marksT.take k)) := owns_later hown hb1
          have hB1 := hB.trans (hb1.mono hB.size)
          clear hown hB hb1
          go_wp2_with (first
            | (at_builtin; refine wpList_append_own_wide _ rfl _ _ 29 rfl w.heap.size 9 i0 (.string ⟨#[]⟩) 1 16 Tryd.underlying29 hi hz0 hz1 hz2 rfl (by decide) _ _ _ rfl (hown1.alloc _) ⟨_, 0, none⟩ 1 1 [.string ⟨m.toArray⟩] rfl rfl ?d1 ?d2 ?d3 ?d4 ?d5 ?_)
            | go_in)
          case d1 => first | exact cell_one_new _ _ _ | (intro j u hj; match j, hj with | 0, hj => (simp at hj; subst hj; simp [Addr.add]))
          case d2 => first | exact ⟨rfl, trivial⟩ | rfl | (intro u hu; simp at hu; subst hu; rfl)
          case d3 => unfold maxLen; omega
          case d4 => omega
          case d5 => have := hB1.size; simp; omega
          intro v' w2 hown' hgrow _
          have hB2 : Below w.heap.size w w2 := (hB1.alloc hB1.size _).grown hgrow (by have := hB1.size; simp; omega) (fun k hk => (hown1.lt k hk).1)
          clear hown1 hgrow
          go_wp2_with fail
          go_roundw
          case rel => exact ⟨k + 1, by omega, by go_num, by rw [HT.out, ← Nat.add_assoc]; exact hown', hB2⟩
          case measure => simp [intOf]; omega
        · have hk' : k = 16 := by omega
          subst hk'
          rw [List.take_of_length_le (by rw [marksT_len]; omega)] at hown
          go_wp2_with fail
          go_ret
          exact ⟨_, rfl, hown, hB⟩
/-- A list of texts that was lent, in block g, from B on. -/
structure LentT (w : World) (B g cap : Nat) (l : List (List UInt8)) : Prop where
  base : B ≤ g
  own : w.ownsRow B 9 1 (.slice (some ⟨g, 0, none⟩) (l.length + 16) cap) (l.length + 16) (tc (l ++ marksT))
theorem LentT.later {w w' : World} {B g cap : Nat} {l : List (List UInt8)} (h : LentT w B g cap l) (hb : Below w.heap.size w w') : LentT w' B g cap l := ⟨h.base, owns_later h.own hb⟩
theorem LentT.parts {w : World} {B g cap : Nat} {l : List (List UInt8)} (h : LentT w B g cap l) : g < w.heap.size ∧ l.length + 16 ≤ cap ∧ (∀ (j : Nat) (s : List UInt8), (l ++ marksT)[j]? = some s → w.cell? ⟨g, j, none⟩ = some (.string ⟨s.toArray⟩)) := by
  have h' := h.own
  rcases h'.2 with ⟨h0, _⟩ | ⟨g', cap', cur, hv, hb, hh, hn2, _⟩
  · cases h0
  · cases hv
    refine ⟨(Array.getElem?_eq_some_iff.1 hh).1, hn2, fun j s hj => ?_⟩
    have hjl : j < l.length + 16 := by have := (List.getElem?_eq_some_iff.1 hj).1; rw [List.length_append, marksT_len] at this; exact this
    exact (h'.cellAt j (by omega)).trans (tc_at hj)
theorem LentT.rt {w : World} {B g cap : Nat} {l : List (List UInt8)} (h : LentT w B g cap l) : RT w (.slice (some ⟨g, 0, none⟩) l.length cap) l := by
  obtain ⟨h1, h2, h3⟩ := h.parts
  refine ⟨_, _, rfl, .inr ⟨g, 0, rfl, h1, fun j s hj => ?_⟩⟩
  have := h3 j s (by rw [List.getElem?_append_left (List.getElem?_eq_some_iff.1 hj).1]; exact hj)
  rw [Nat.zero_add]; exact this
set_option maxRecDepth 100000 in
set_option maxHeartbeats 1000000 in
theorem lentTexts_any (v : Value) (l : List (List UInt8)) (w : World) (hv : RT w v l) (hl : l.length ≤ 8796093022000) :
    Calls Tryd.prog 6 #[v] w fun e w' => ∃ g cap, e = .returned (.slice (some ⟨g, 0, none⟩) l.length cap) ∧ LentT w' w.heap.size g cap l ∧ Below w.heap.size w w' := by
  have HF := hide (fullTexts_any v l w hv hl)
  obtain ⟨a, cap0, rfl, _⟩ := hv
  go_enter Tryd.func6, Tryd.ntmps6
  go_wp2_with fail
  refine HF.out.mono ?_
  rintro e w1 ⟨v', rfl, hown, hb1⟩
  obtain ⟨g, cap, hv, hgb, hglt⟩ := World.ownsRow.form hown (by omega)
  subst hv
  have HL : Hid (LentT w1 w.heap.size g cap l) := hide ⟨hgb, hown⟩
  obtain ⟨_, hcap, _⟩ := HL.out.parts
  have hne : ¬ cap = l.length := by omega
  have hle : (l.length : Int) ≤ (cap : Int) := by omega
  have HB := hide hb1
  clear hown hb1
  go_wp2_with fail
  go_ret
  exact ⟨g, cap, rfl, HL.out, HB.out⟩
set_option maxRecDepth 100000 in
set_option maxHeartbeats 4000000 in
theorem keptFullTexts_any (v : Value) (l : List (List UInt8)) (B g cap : Nat) (w : World) (hv : RT w v l) (hk : LentT w B g cap l) (hl : l.length ≤ 8796093022000) :
    Calls Tryd.prog 19 #[.slice (some ⟨g, 0, none⟩) (l.length + 16) cap, v] w fun e w' => e = .returned (.bool true) ∧ Below w.heap.size w w' := by
  have HK := hide hk
  obtain ⟨hglt, hgcap, hcells⟩ := hk.parts
  have HC := hide hcells
  have HG := hide hglt
  obtain ⟨a, cap0, rfl, hr⟩ := hv
  have HR := hide hr
  clear hk hcells hglt hr
  go_enter Tryd.func19, Tryd.ntmps19
  go_wp2_with fail
  go_loopw [5] (fun i wr => ∃ k : Nat, k ≤ l.length + 16 ∧ i = .int .i64 k ∧ Hid (Below w.heap.size w wr)) (fun i _ => l.length + 16 - (intOf i).toNat)
  case atStart => exact ⟨0, Nat.zero_le _, rfl, hide (Below.refl _ _)⟩
  case round =>
    obtain ⟨k, hk, rfl, HB⟩ := hrel
    have HMK := hide (fun W : World => markTexts_any ((k : Int) - (l.length : Int)) W)
    by_cases hlt : k < l.length
    · obtain ⟨r, hp⟩ : ∃ p, l[k]? = some p := ⟨_, List.getElem?_eq_getElem hlt⟩
      obtain ⟨b, off, ha, hbl, hc⟩ := HR.out.resolve_left (fun h => by rw [h] at hlt; simp at hlt)
      have HP1 := hide (hc k _ hp)
      have HP2 := hide (HC.out k _ (by rw [List.getElem?_append_left hlt]; exact hp))
      have HBL := hide hbl
      subst ha
      clear hc hp hbl
      generalize mk5 ((k : Int) - (l.length : Int)) = m at *
      go_wp2_with fail
      refine (HMK.out _).mono ?_
      rintro e w1 ⟨rfl, hb1⟩
      have B1 := hide (HB.out.trans (hb1.mono HB.out.size))
      clear hb1
      have c0 := (B1.out.cell (p := ⟨b, off + k, none⟩) HBL.out).trans HP1.out
      have d0 := (B1.out.cell (p := ⟨g, k, none⟩) HG.out).trans HP2.out
      go_wp2_with fail
      go_roundw
      case rel => exact ⟨k + 1, by omega, by go_num, B1⟩
      case measure => simp [intOf]; omega
    · by_cases hend : k < l.length + 16
      · have HP2 := hide (HC.out k (mk5 ((k : Int) - (l.length : Int))) (by
          rw [List.getElem?_append_right (by omega), marksT_at (by omega)]
          congr 2; omega))
        generalize mk5 ((k : Int) - (l.length : Int)) = m at *
        go_wp2_with fail
        refine (HMK.out _).mono ?_
        rintro e w1 ⟨rfl, hb1⟩
        have B1 := hide (HB.out.trans (hb1.mono HB.out.size))
        clear hb1
        have d0 := (B1.out.cell (p := ⟨g, k, none⟩) HG.out).trans HP2.out
        go_wp2_with fail
        go_roundw
        case rel => exact ⟨k + 1, by omega, by go_num, B1⟩
        case measure => simp [intOf]; omega
      · have hk' : k = l.length + 16 := by omega
        subst hk'
        go_wp2_with fail
        go_ret
        exact ⟨rfl, HB.out⟩
set_option maxRecDepth 100000 in
set_option maxHeartbeats 1000000 in
theorem keptTexts_any (v : Value) (l : List (List UInt8)) (B g cap : Nat) (w : World) (hv : RT w v l) (hk : LentT w B g cap l) (hl : l.length ≤ 8796093022000) :
    Calls Tryd.prog 8 #[.slice (some ⟨g, 0, none⟩) l.length cap, v] w fun e w' => e = .returned (.bool true) ∧ Below w.heap.size w w' := by
  have HF := hide (keptFullTexts_any v l B g cap w hv hk hl)
  obtain ⟨_, hcap, _⟩ := hk.parts
  obtain ⟨a, cap0, rfl, _⟩ := hv
  clear hk
  by_cases hq : cap = l.length + 16
  · subst hq
    go_enter Tryd.func8, Tryd.ntmps8
    go_wp2_with fail
    refine HF.out.mono ?_
    rintro e w1 ⟨rfl, hb1⟩
    go_wp2_with fail
    go_ret
    exact ⟨rfl, hb1⟩
  · have hle : ((l.length : Int) + 16) ≤ (cap : Int) := by omega
    go_enter Tryd.func8, Tryd.ntmps8
    go_wp2_with fail
    refine HF.out.mono ?_
    rintro e w1 ⟨rfl, hb1⟩
    go_wp2_with fail
    go_ret
    exact ⟨rfl, hb1⟩
end Go.Proofs.YtdfhfjkcafchiaaDoor
namespace Go.Proofs.YtdfhfjkcafchiaaDoor
open Go.RowKit LC

/-- The four parts of a BIC; of one that is refused none. -/
def bq (l : List UInt8) : List UInt8 × List UInt8 × List UInt8 × List UInt8 := if (LC.formR l (LC.bicF l)).1 = 0 then (l.take 4, (l.drop 4).take 2, (l.drop 6).take 2, LC.bicB l) else ([], [], [], [])
def q4 (q : List UInt8 × List UInt8 × List UInt8 × List UInt8) : Array Value := #[.string ⟨q.1.toArray⟩, .string ⟨q.2.1.toArray⟩, .string ⟨q.2.2.1.toArray⟩, .string ⟨q.2.2.2.toArray⟩]
theorem bicV_q (l : List UInt8) : LC.bicV l = q4 (bq l) := by
  unfold LC.bicV bq
  split <;> rfl
def oZ : Array Value := #[.string ⟨#[]⟩, .string ⟨#[]⟩, .string ⟨#[]⟩, .string ⟨#[]⟩]
theorem Tryd.sizeOff : (Tryd.prog.info? 41).map (·.size) = some 4 := by kernel_rfl
theorem blk4 {W : World} {b : Nat} {t : TypeId} {x0 x1 x2 x3 : Value} (h : W.heap[b]? = some (.cells #[x0, x1, x2, x3] t (0, 0))) : W.cell? ⟨b, 0, none⟩ = some x0 ∧ W.cell? ⟨b, 1, none⟩ = some x1 ∧ W.cell? ⟨b, 2, none⟩ = some x2 ∧ W.cell? ⟨b, 3, none⟩ = some x3 ∧ W.frozen? ⟨b, 0, none⟩ = false ∧ W.frozen? ⟨b, 1, none⟩ = false ∧ W.frozen? ⟨b, 2, none⟩ = false ∧ W.frozen? ⟨b, 3, none⟩ = false :=
  ⟨by rw [cell_of_row _ _ 0 _ _ _ h]; rfl, by rw [cell_of_row _ _ 1 _ _ _ h]; rfl, by rw [cell_of_row _ _ 2 _ _ _ h]; rfl, by rw [cell_of_row _ _ 3 _ _ _ h]; rfl, by simp [World.frozen?, h], by simp [World.frozen?, h], by simp [World.frozen?, h], by simp [World.frozen?, h]⟩
/-- Four cells written. -/
def s4 (W : World) (b : Nat) (y0 y1 y2 y3 : Value) : World := (((W.setCell ⟨b, 0, none⟩ y0).setCell ⟨b, 1, none⟩ y1).setCell ⟨b, 2, none⟩ y2).setCell ⟨b, 3, none⟩ y3
theorem s4_blk {W : World} {b : Nat} {t : TypeId} {x0 x1 x2 x3 : Value} (h : W.heap[b]? = some (.cells #[x0, x1, x2, x3] t (0, 0))) (y0 y1 y2 y3 : Value) : (s4 W b y0 y1 y2 y3).heap[b]? = some (.cells #[y0, y1, y2, y3] t (0, 0)) := by
  unfold s4
  rw [heap_setCell_same _ _ _ _ _ _ (by rw [heap_setCell_same _ _ _ _ _ _ (by rw [heap_setCell_same _ _ _ _ _ _ (by rw [heap_setCell_same _ _ _ _ _ _ h])])])]
  rfl
theorem s4_other {W : World} {b c : Nat} (hc : c ≠ b) (y0 y1 y2 y3 : Value) : (s4 W b y0 y1 y2 y3).heap[c]? = W.heap[c]? := by
  unfold s4
  rw [Below.heap_setCell _ _ _ c hc, Below.heap_setCell _ _ _ c hc, Below.heap_setCell _ _ _ c hc, Below.heap_setCell _ _ _ c hc]
theorem s4_below {w W : World} {B b : Nat} (h : Below B w W) (hb : B ≤ b) (y0 y1 y2 y3 : Value) : Below B w (s4 W b y0 y1 y2 y3) :=
  (((h.setCell (p := ⟨b, 0, none⟩) hb _).setCell (p := ⟨b, 1, none⟩) hb _).setCell (p := ⟨b, 2, none⟩) hb _).setCell (p := ⟨b, 3, none⟩) hb _
set_option maxRecDepth 100000 in
set_option maxHeartbeats 2000000 in
theorem officeOf_any (l : List UInt8) (w : World) (hO : LC.HeadOffice w) (hl : l.length ≤ 140737488355328) :
    Calls Tryd.prog 24 #[.string ⟨l.toArray⟩] w fun e w' => e = .returned (.agg (q4 (bq l))) ∧ Below w.heap.size w w' := by
  obtain ⟨W1, hW1⟩ : ∃ W, w.alloc (.cells #[.string ⟨#[]⟩, .string ⟨#[]⟩, .string ⟨#[]⟩, .string ⟨#[]⟩] 41) = W := ⟨_, rfl⟩
  have hb1 : Below w.heap.size w W1 := by rw [← hW1]; exact (Below.refl _ _).alloc (Nat.le_refl _) _
  have N1 : Hid (W1.heap[w.heap.size]? = some (.cells #[.string ⟨#[]⟩, .string ⟨#[]⟩, .string ⟨#[]⟩, .string ⟨#[]⟩] 41 (0, 0))) := hide (by rw [← hW1]; exact LC.alloc_new w _)
  have HC := LC.bic_any l W1 (hO.below hb1) hl
  rw [bicV_q] at HC
  obtain ⟨⟨qa, qb, qc, qd⟩, hq⟩ : ∃ q, bq l = q := ⟨_, rfl⟩
  rw [hq] at HC ⊢
  obtain ⟨ev, hev⟩ : ∃ ev, LC.errF (LC.formR l (LC.bicF l)) = ev := ⟨_, rfl⟩
  rw [hev] at HC
  have HB := hide HC
  have B1 := hide hb1
  dsimp only [q4] at HB ⊢
  clear HC hq hev hb1 hO
  go_enter Tryd.func24, Tryd.ntmps24
  go_wp2_with fail
  refine HB.out.mono ?_
  rintro e w2 ⟨rfl, hb2⟩
  have N2 : Hid (w2.heap[w.heap.size]? = some (.cells #[.string ⟨#[]⟩, .string ⟨#[]⟩, .string ⟨#[]⟩, .string ⟨#[]⟩] 41 (0, 0))) := hide ((hb2.block _ (Array.getElem?_eq_some_iff.1 N1.out).1).trans N1.out)
  have B2 := hide (B1.out.trans (hb2.mono B1.out.size))
  obtain ⟨W3, hW3⟩ : ∃ W, w2.alloc (.cells #[.string ⟨#[]⟩, .string ⟨#[]⟩, .string ⟨#[]⟩, .string ⟨#[]⟩] 40) = W := ⟨_, rfl⟩
  have hb3 : Below w2.heap.size w2 W3 := by rw [← hW3]; exact (Below.refl _ _).alloc (Nat.le_refl _) _
  have n3 : W3.heap[w2.heap.size]? = some (.cells #[.string ⟨#[]⟩, .string ⟨#[]⟩, .string ⟨#[]⟩, .string ⟨#[]⟩] 40 (0, 0)) := by rw [← hW3]; exact LC.alloc_new w2 _
  have B3 := hide (B2.out.trans (hb3.mono B2.out.size))
  have N3 := hide ((hb3.block _ (Array.getElem?_eq_some_iff.1 N2.out).1).trans N2.out)
  have hlt2 := (Array.getElem?_eq_some_iff.1 N2.out).1
  obtain ⟨x0, x1, x2, x3, f0, f1, f2, f3⟩ := blk4 n3
  obtain ⟨W4, hW4⟩ : ∃ W, (((W3.setCell ⟨w2.heap.size, 0, none⟩ (.string ⟨qa.toArray⟩)).setCell ⟨w2.heap.size, 1, none⟩ (.string ⟨qb.toArray⟩)).setCell ⟨w2.heap.size, 2, none⟩ (.string ⟨qc.toArray⟩)).setCell ⟨w2.heap.size, 3, none⟩ (.string ⟨qd.toArray⟩) = W := ⟨_, rfl⟩
  have n4 : W4.heap[w2.heap.size]? = some (.cells #[.string ⟨qa.toArray⟩, .string ⟨qb.toArray⟩, .string ⟨qc.toArray⟩, .string ⟨qd.toArray⟩] 40 (0, 0)) := by rw [← hW4]; exact s4_blk n3 _ _ _ _
  have m4 : W4.heap[w.heap.size]? = some (.cells #[.string ⟨#[]⟩, .string ⟨#[]⟩, .string ⟨#[]⟩, .string ⟨#[]⟩] 41 (0, 0)) := by rw [← hW4]; exact (s4_other (W := W3) (by omega) _ _ _ _).trans N3.out
  have B4 : Hid (Below w.heap.size w W4) := hide (by rw [← hW4]; exact s4_below B3.out (by omega) _ _ _ _)
  obtain ⟨y0, y1, y2, y3, -, -, -, -⟩ := blk4 n4
  obtain ⟨z0, z1, z2, z3, g0, g1, g2, g3⟩ := blk4 m4
  have M4 := hide m4
  clear hb2 hb3 n3 n4 m4 HB N1 N2 N3 B1 B2 B3 hlt2
  go_wp2_with fail
  exact bodyPost_ret (results_cell_row rfl _ _ w.heap.size 41 _ (0, 0) _ rfl (s4_blk M4.out _ _ _ _) Tryd.underlying41 rfl Tryd.sizeOff) rfl ⟨rfl, s4_below B4.out (Nat.le_refl _) _ _ _ _⟩
/-- Whom one of the parties is. -/
def oA (bs : List (List UInt8)) (p : Int) : List UInt8 × List UInt8 × List UInt8 × List UInt8 := if p < 0 then ([], [], [], []) else match bs[p.toNat]? with
  | some s => bq s
  | none => ([], [], [], [])
theorem oA_at {bs : List (List UInt8)} {j : Nat} {s : List UInt8} (h : bs[j]? = some s) : oA bs (j : Int) = bq s := by
  unfold oA
  rw [if_neg (by omega), Int.toNat_natCast, h]
theorem oA_out {bs : List (List UInt8)} {p : Int} (h : p < 0 ∨ (bs.length : Int) ≤ p) : oA bs p = ([], [], [], []) := by
  unfold oA
  by_cases h0 : p < 0
  · rw [if_pos h0]
  · rw [if_neg h0, List.getElem?_eq_none (by omega)]
set_option maxRecDepth 100000 in
set_option maxHeartbeats 2000000 in
theorem officeAt_any (v : Value) (bs : List (List UInt8)) (p : Int) (w : World) (hv : RT w v bs) (hO : LC.HeadOffice w) (hs : ∀ s ∈ bs, s.length ≤ 140737488355328) :
    Calls Tryd.prog 15 #[v, .int .i64 p] w fun e w' => e = .returned (.agg (q4 (oA bs p))) ∧ Below w.heap.size w w' := by
  obtain ⟨a, cap, rfl, hr⟩ := hv
  obtain ⟨W1, hW1⟩ : ∃ W, w.alloc (.cells #[.string ⟨#[]⟩, .string ⟨#[]⟩, .string ⟨#[]⟩, .string ⟨#[]⟩] 41) = W := ⟨_, rfl⟩
  have hb1 : Below w.heap.size w W1 := by rw [← hW1]; exact (Below.refl _ _).alloc (Nat.le_refl _) _
  have n1 : W1.heap[w.heap.size]? = some (.cells #[.string ⟨#[]⟩, .string ⟨#[]⟩, .string ⟨#[]⟩, .string ⟨#[]⟩] 41 (0, 0)) := by rw [← hW1]; exact LC.alloc_new w _
  have N1 := hide n1
  have B1 := hide hb1
  by_cases hin : 0 ≤ p ∧ p < (bs.length : Int)
  · obtain ⟨j, rfl⟩ : ∃ j : Nat, p = (j : Int) := ⟨p.toNat, by omega⟩
    have hj : j < bs.length := by omega
    obtain ⟨s, hsj⟩ : ∃ s, bs[j]? = some s := ⟨_, List.getElem?_eq_getElem hj⟩
    obtain ⟨b, off, rfl, hbl, hc⟩ := hr.resolve_left (fun h => by rw [h] at hj; simp at hj)
    have c0 : W1.cell? ⟨b, off + j, none⟩ = some (.string ⟨s.toArray⟩) := (hb1.cell (p := ⟨b, _, none⟩) hbl).trans (hc j s hsj)
    have HC := officeOf_any s W1 (hO.below hb1) (hs s (List.mem_of_getElem? hsj))
    rw [oA_at hsj]
    obtain ⟨⟨qa, qb, qc, qd⟩, hq⟩ : ∃ q, bq s = q := ⟨_, rfl⟩
    rw [hq] at HC ⊢
    have HB := hide HC
    dsimp only [q4] at HB ⊢
    have d0 : decide ((j : Int) < 0) = false := decide_eq_false (by omega)
    have d1 : decide ((j : Int) ≥ (bs.length : Int)) = false := decide_eq_false (by omega)
    have e0 : (0 : Int) ≤ (j : Int) := by omega
    have e1 : (j : Int) < (bs.length : Int) := by omega
    clear HC hq hb1 hO n1 hc hbl hsj hr hin
    go_enter Tryd.func15, Tryd.ntmps15
    go_wp2_with fail
    refine HB.out.mono ?_
    rintro e w2 ⟨rfl, hb2⟩
    have n2 : w2.heap[w.heap.size]? = some (.cells #[.string ⟨#[]⟩, .string ⟨#[]⟩, .string ⟨#[]⟩, .string ⟨#[]⟩] 41 (0, 0)) := (hb2.block _ (Array.getElem?_eq_some_iff.1 N1.out).1).trans N1.out
    have B2 := hide (B1.out.trans (hb2.mono B1.out.size))
    obtain ⟨x0, x1, x2, x3, f0, f1, f2, f3⟩ := blk4 n2
    have N2 := hide n2
    clear n2 hb2 HB
    go_wp2_with fail
    exact bodyPost_ret (results_cell_row rfl _ _ w.heap.size 41 _ (0, 0) _ rfl (s4_blk N2.out _ _ _ _) Tryd.underlying41 rfl Tryd.sizeOff) rfl ⟨rfl, s4_below B2.out (Nat.le_refl _) _ _ _ _⟩
  · rw [oA_out (by omega)]
    dsimp only [q4]
    obtain ⟨x0, x1, x2, x3, f0, f1, f2, f3⟩ := blk4 n1
    by_cases h0 : p < 0
    · have d0 : decide (p < 0) = true := decide_eq_true h0
      clear hr hb1 hO n1 hin
      go_enter Tryd.func15, Tryd.ntmps15
      go_wp2_with fail
      exact bodyPost_ret (results_cell_row rfl _ _ w.heap.size 41 _ (0, 0) _ rfl (s4_blk N1.out _ _ _ _) Tryd.underlying41 rfl Tryd.sizeOff) rfl ⟨rfl, s4_below B1.out (Nat.le_refl _) _ _ _ _⟩
    · have d0 : decide (p < 0) = false := decide_eq_false h0
      have d1 : decide (p ≥ (bs.length : Int)) = true := decide_eq_true (by omega)
      have d2 : (bs.length : Int) ≤ p := by omega
      clear hr hb1 hO n1 hin
      go_enter Tryd.func15, Tryd.ntmps15
      go_wp2_with fail
      exact bodyPost_ret (results_cell_row rfl _ _ w.heap.size 41 _ (0, 0) _ rfl (s4_blk N1.out _ _ _ _) Tryd.underlying41 rfl Tryd.sizeOff) rfl ⟨rfl, s4_below B1.out (Nat.le_refl _) _ _ _ _⟩
end Go.Proofs.YtdfhfjkcafchiaaDoor
