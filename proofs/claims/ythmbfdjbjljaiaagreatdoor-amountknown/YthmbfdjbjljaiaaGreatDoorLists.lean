/-
  My own text: lists lent with marks behind them, and looked at again.
-/
import Derived.Test.YthmbfdjbjljaiaaGreatDoorInts
import Derived.Deep.AppendLies
namespace Go.Proofs.YthmbfdjbjljaiaaGreatDoor
open Go.RowKit

theorem Tryz.infoLong : (Tryz.prog.info? 2).map (fun i => (i.zero, i.size, i.bytes)) = some (some (.int .i64 0), 1, 8) := by kernel_rfl
/-- The marks behind a list that is lent. -/
def marks : List Int := (List.range 16).map (fun i : Nat => (91000273 : Int) + (i : Int))
theorem marks_len : marks.length = 16 := by simp [marks]
theorem marks_at {j : Nat} (h : j < 16) : marks[j]? = some (91000273 + (j : Int)) := by
  unfold marks; rw [List.getElem?_map, List.getElem?_range h]; rfl
/-- A list of numbers of a kind, as cells. -/
def lv (K : IntKind) (l : List Int) : List Value := l.map (Value.int K)
theorem lv_nil (K : IntKind) : lv K [] = [] := rfl
theorem lv_len (K : IntKind) (l : List Int) : (lv K l).length = l.length := by simp [lv]
theorem lv_snoc {K : IntKind} {l : List Int} {k : Nat} {x : Int} (h : l[k]? = some x) : lv K (l.take (k + 1)) = lv K (l.take k) ++ [.int K x] := by
  unfold lv; rw [List.take_add_one, h]; simp
theorem lv_app (K : IntKind) (l m : List Int) : lv K (l ++ m) = lv K l ++ lv K m := by simp [lv]
theorem len_take {l : List Int} {k : Nat} (h : k ≤ l.length) : (l.take k).length = k := by simp; omega

theorem markLongs_any (k i : Int) (w : World) (h1 : 0 ≤ k) (h2 : k ≤ 1000000) (h3 : -281474976710656 ≤ i) (h4 : i ≤ 281474976710656) :
    Calls Tryz.prog 70 #[.int .i64 k, .int .i64 i] w fun e w' => e = .returned (.int .i64 (1000003 * (k + 1) + i)) ∧ w' = w := by
  go_enter Tryz.func70, Tryz.ntmps70
  go_wp2
  go_ret
  exact ⟨rfl, rfl⟩

set_option maxRecDepth 100000 in
set_option maxHeartbeats 1000000 in
theorem fullLongs_any (v : Value) (l : List Int) (w : World) (hv : RI w .i64 v l) (hl : l.length ≤ 17592186043904) :
    Calls Tryz.prog 58 #[v] w fun e w' => ∃ v', e = .returned v' ∧ w'.ownsRow w.heap.size 2 1 v' (l.length + 16) (lv .i64 (l ++ marks)) ∧ Below w.heap.size w w' := by
  obtain ⟨a, cap, rfl, hr⟩ := hv
  obtain ⟨i0, hi, hz0, hz1, hz2⟩ := info_parts Tryz.infoLong
  go_enter Tryz.func58, Tryz.ntmps58
  go_wp2
  go_loopw [3, 4] (fun o i wr => ∃ k : Nat, k ≤ l.length ∧ i = .int .i64 k ∧ wr.ownsRow w.heap.size 2 1 o k (lv .i64 (l.take k)) ∧ Below w.heap.size w wr) (fun _ i _ => l.length - (intOf i).toNat)
  case atStart => exact ⟨0, Nat.zero_le _, rfl, World.ownsRow_nil w w.heap.size 2 1, Below.refl _ _⟩
  case round =>
    obtain ⟨k, hk, rfl, hown, hB⟩ := hrel
    by_cases hlt : k < l.length
    · obtain ⟨x, hx⟩ := some_at hlt
      rcases hr with h0 | ⟨b, off, rfl, hbl, hc⟩
      · rw [h0] at hlt; simp at hlt
      have hcell := (hB.cell (p := ⟨b, off + k, none⟩) hbl).trans (hc k x hx)
      have HT := hide (lv_snoc (K := .i64) hx)
      clear hc hx
      go_wp2_with (first
        | (at_builtin; refine wpList_append_own _ rfl _ _ 23 rfl w.heap.size 2 i0 (.int .i64 0) 1 8 Tryz.underlying23 hi hz0 hz1 hz2 rfl (by decide) _ _ _ rfl (hown.alloc _) ⟨_, 0, none⟩ 1 1 [.int .i64 x] rfl rfl ?c1 ?c2 ?c3 ?c4 ?c5 ?_)
        | go_in)
      case c1 =>
        intro j u hj
        match j, hj with
        | 0, hj => simp at hj; subst hj; simp [Addr.add]
      case c2 => intro u hu; simp at hu; subst hu; rfl
      case c3 => unfold maxLen; omega
      case c4 => omega
      case c5 => have := hB.size; simp; omega
      intro v' w1 hown' hgrow _
      have hB1 : Below w.heap.size w w1 := (hB.alloc hB.size _).grown hgrow (by have := hB.size; simp; omega) (fun k hk => (hown.lt k hk).1)
      clear hown hgrow
      go_wp2
      go_roundw
      case rel => exact ⟨k + 1, by omega, by go_num, by rw [HT.out]; exact hown', hB1⟩
      case measure => simp [intOf]; omega
    · have hk' : k = l.length := by omega
      subst hk'
      rw [List.take_length] at hown
      clear hr
      go_wp2
      go_loopw [3, 5] (fun o i wr => ∃ k : Nat, k ≤ 16 ∧ i = .int .i64 k ∧ wr.ownsRow w.heap.size 2 1 o (l.length + k) (lv .i64 (l ++ marks.take k)) ∧ Below w.heap.size w wr) (fun _ i _ => 16 - (intOf i).toNat)
      case atStart => exact ⟨0, Nat.zero_le _, rfl, by rw [List.take_zero, List.append_nil]; exact hown, hB⟩
      case round =>
        clear hown hB
        obtain ⟨k, hk, rfl, hown, hB⟩ := hrel
        by_cases hlt : k < 16
        · have HT : Hid (lv .i64 (l ++ marks.take (k + 1)) = lv .i64 (l ++ marks.take k) ++ [.int .i64 (91000273 + (k : Int))]) := by
            rw [lv_app, lv_snoc (marks_at hlt), ← List.append_assoc, ← lv_app]
            rfl
          go_wp2_with (first
            | (go_at_call 70; refine (markLongs_any _ _ _ (by omega) (by omega) (by omega) (by omega)).mono ?_; rintro e w' ⟨rfl, rfl⟩)
            | (at_builtin; refine wpList_append_own _ rfl _ _ 23 rfl w.heap.size 2 i0 (.int .i64 0) 1 8 Tryz.underlying23 hi hz0 hz1 hz2 rfl (by decide) _ _ _ rfl (hown.alloc _) ⟨_, 0, none⟩ 1 1 [.int .i64 (91000273 + (k : Int))] rfl rfl ?d1 ?d2 ?d3 ?d4 ?d5 ?_)
            | go_in)
          case d1 =>
            intro j u hj
            match j, hj with
            | 0, hj => simp at hj; subst hj; simp [Addr.add]
          case d2 => intro u hu; simp at hu; subst hu; rfl
          case d3 => unfold maxLen; omega
          case d4 => omega
          case d5 => have := hB.size; simp; omega
          intro v' w1 hown' hgrow _
          have hB1 : Below w.heap.size w w1 := (hB.alloc hB.size _).grown hgrow (by have := hB.size; simp; omega) (fun k hk => (hown.lt k hk).1)
          clear hown hgrow
          go_wp2
          go_roundw
          case rel => exact ⟨k + 1, by omega, by go_num, by rw [HT.out, ← Nat.add_assoc]; exact hown', hB1⟩
          case measure => simp [intOf]; omega
        · have hk' : k = 16 := by omega
          subst hk'
          rw [List.take_of_length_le (by rw [marks_len]; omega)] at hown
          go_wp2
          go_ret
          exact ⟨_, rfl, hown, hB⟩

/-- A list that was lent: its cells and its marks. -/
structure Lent (w : World) (B g cap : Nat) (l : List Int) : Prop where
  base : B ≤ g
  lt : g < w.heap.size
  cap : l.length + 16 ≤ cap
  cell : ∀ j x, (l ++ marks)[j]? = some x → w.cell? ⟨g, j, none⟩ = some (.int .i64 x)
theorem Lent.later {w w1 : World} {B g cap : Nat} {l : List Int} (h : Lent w B g cap l) (hb : Below w.heap.size w w1) : Lent w1 B g cap l :=
  ⟨h.base, Nat.lt_of_lt_of_le h.lt hb.size, h.cap, fun j x hx => (hb.cell (p := ⟨g, j, none⟩) h.lt).trans (h.cell j x hx)⟩
theorem Lent.ri {w : World} {B g cap : Nat} {l : List Int} (h : Lent w B g cap l) : RI w .i64 (.slice (some ⟨g, 0, none⟩) l.length cap) l :=
  ⟨_, _, rfl, .inr ⟨g, 0, rfl, h.lt, fun j x hx => by rw [Nat.zero_add]; exact h.cell j x (by rw [List.getElem?_append_left (by have := List.getElem?_eq_some_iff.1 hx; exact this.1)]; exact hx)⟩⟩
theorem lent_of_owns {w : World} {B : Nat} {v : Value} {l : List Int} (h : w.ownsRow B 2 1 v (l.length + 16) (lv .i64 (l ++ marks))) :
    ∃ g cap, v = .slice (some ⟨g, 0, none⟩) (l.length + 16) cap ∧ Lent w B g cap l := by
  obtain ⟨g, cap, rfl, hb, hlt⟩ := h.form (by omega)
  refine ⟨g, cap, rfl, hb, hlt, ?_, fun j x hx => ?_⟩
  · rcases h.2 with ⟨_, h0⟩ | ⟨g', cap', cur, hv, _, _, hn, _⟩
    · omega
    · cases hv; exact hn
  · have hj : j < l.length + 16 := by have := (List.getElem?_eq_some_iff.1 hx).1; rw [List.length_append, marks_len] at this; exact this
    rw [World.ownsRow.cellAt h j (by omega)]
    unfold lv; rw [List.getElem?_map, hx]; rfl

set_option maxHeartbeats 1000000 in
theorem lentLongs_any (v : Value) (l : List Int) (w : World) (hv : RI w .i64 v l) (hl : l.length ≤ 17592186043904) :
    Calls Tryz.prog 29 #[v] w fun e w' => ∃ g cap, e = .returned (.slice (some ⟨g, 0, none⟩) l.length cap) ∧ Lent w' w.heap.size g cap l ∧ Below w.heap.size w w' := by
  have hf := hide (fullLongs_any v l w hv hl)
  obtain ⟨a, c0, rfl, hr⟩ := hv
  clear hr
  go_enter Tryz.func29, Tryz.ntmps29
  go_wp2_with fail
  refine (unhide hf).mono ?_
  rintro e w1 ⟨v', rfl, hown, hB⟩
  obtain ⟨g, cap, hv', hL⟩ := lent_of_owns hown
  rw [hv']
  have hc := hL.cap
  have hc2 : l.length ≤ cap := by omega
  clear hown hv'
  go_wp2_with fail
  go_ret
  exact ⟨g, cap, rfl, hL, hB⟩

set_option maxRecDepth 100000 in
set_option maxHeartbeats 1000000 in
theorem keptFullLongs_any (g cap B : Nat) (v : Value) (l : List Int) (w : World) (hL : Lent w B g cap l) (hv : RI w .i64 v l) (hl : l.length ≤ 17592186043904) :
    Calls Tryz.prog 59 #[.slice (some ⟨g, 0, none⟩) (l.length + 16) cap, v] w fun e w' => e = .returned (.bool true) ∧ w' = w := by
  obtain ⟨a, c0, rfl, hr⟩ := hv
  have hne : (((l.length + 16 : Nat) : Int) != (l.length : Int) + 16) = false := by simp
  go_enter Tryz.func59, Tryz.ntmps59
  go_wp2
  go_loop [5] (fun i => ∃ k : Nat, k ≤ l.length + 16 ∧ i = .int .i64 k) (fun i => l.length + 16 - (intOf i).toNat)
  case atStart => exact ⟨0, Nat.zero_le _, rfl⟩
  case round =>
    obtain ⟨k, hk, rfl⟩ := hrel
    by_cases hlt : k < l.length + 16
    · by_cases hin : k < l.length
      · obtain ⟨x, hx⟩ := some_at hin
        have hx2 := hL.cell k x (by rw [List.getElem?_append_left hin]; exact hx)
        rcases hr with h0 | ⟨b, off, rfl, hbl, hc⟩
        · rw [h0] at hin; simp at hin
        have hx1 := hc k x hx
        clear hc hx
        go_wp2_with (go_at_call 70; refine (markLongs_any _ _ _ (by omega) (by omega) (by omega) (by omega)).mono ?_; rintro e w' ⟨rfl, rfl⟩)
        go_round
        case rel => exact ⟨k + 1, by omega, by go_num⟩
        case measure => simp [intOf]; omega
      · have hx2 := hL.cell k (91000273 + ((k : Int) - (l.length : Int))) (by
          rw [List.getElem?_append_right (by omega), marks_at (by omega)]; congr 2; omega)
        go_wp2_with (go_at_call 70; refine (markLongs_any _ _ _ (by omega) (by omega) (by omega) (by omega)).mono ?_; rintro e w' ⟨rfl, rfl⟩)
        go_round
        case rel => exact ⟨k + 1, by omega, by go_num⟩
        case measure => simp [intOf]; omega
    · go_wp2
      go_ret
      exact ⟨rfl, rfl⟩

set_option maxHeartbeats 1000000 in
theorem keptLongs_any (g cap B : Nat) (v : Value) (l : List Int) (w : World) (hL : Lent w B g cap l) (hv : RI w .i64 v l) (hl : l.length ≤ 17592186043904) :
    Calls Tryz.prog 30 #[.slice (some ⟨g, 0, none⟩) l.length cap, v] w fun e w' => e = .returned (.bool true) ∧ w' = w := by
  have hf := hide (keptFullLongs_any g cap B v l w hL hv hl)
  obtain ⟨a, c0, rfl, hr⟩ := hv
  have hc := hL.cap
  clear hr
  go_enter Tryz.func30, Tryz.ntmps30
  go_wp2_with fail
  refine (unhide hf).mono ?_
  rintro e w1 ⟨rfl, rfl⟩
  go_wp2_with fail
  go_ret
  exact ⟨rfl, rfl⟩
end Go.Proofs.YthmbfdjbjljaiaaGreatDoor
