/-
  My own text: numbers lent with marks behind them, and looked at again (printed by mkrowI.py).
-/
import Derived.Test.YtieinnhiaomliaaDoorQIR
namespace Go.Proofs.YtieinnhiaomliaaDoor.IN
open Go.RowKit Go.Extern

/-- A mark. -/
def mkB (k i : Int) : Int := 1000003 * (k + 1) + i
def marksB : List Int := (List.range 16).map fun i : Nat => mkB 90 (i : Int)
theorem marksB_len : marksB.length = 16 := by simp [marksB]
theorem marksB_at {j : Nat} (h : j < 16) : marksB[j]? = some (mkB 90 (j : Int)) := by
  unfold marksB; rw [List.getElem?_map, List.getElem?_range h]; rfl
theorem mc_take {l : List Int} {k : Nat} {c : Int} (h : l[k]? = some c) : mc (l.take (k + 1)) = mc (l.take k) ++ [.int .i64 c] := by rw [List.take_add_one, h]; rw [mc_app]; rfl

theorem markInts_any (k i : Int) (w : World) (h1 : 0 ≤ k) (h2 : k ≤ 1000000) (h3 : -1125899906842624 ≤ i) (h4 : i ≤ 1125899906842624) :
    Calls Tryd.prog 26 #[.int .i64 k, .int .i64 i] w fun e w' => e = .returned (.int .i64 (mkB k i)) ∧ w' = w := by
  have HM : Hid (1000003 * (k + 1) + i = mkB k i) := rfl
  go_enter Tryd.func26, Tryd.ntmps26
  go_wp2
  go_ret
  exact ⟨ret_i (by rw [← HM.out]), rfl⟩
set_option maxRecDepth 100000 in
set_option maxHeartbeats 1000000 in
theorem fullInts_any (v : Value) (l : List Int) (w : World) (hv : RB w v l) (hl : l.length ≤ 17592186044100) :
    Calls Tryd.prog 18 #[v] w fun e w' => ∃ v', e = .returned v' ∧ OM w' w.heap.size v' (l ++ marksB) ∧ Below w.heap.size w w' := by
  obtain ⟨b, a, cap, rfl, hcap, hr⟩ := hv
  obtain ⟨i0, hi, hz0, hz1, hz2⟩ := info_parts Tryd.infoB
  go_enter Tryd.func18, Tryd.ntmps18
  go_wp2
  go_loopw [3, 4] (fun o i wr => ∃ k : Nat, k ≤ l.length ∧ i = .int .i64 k ∧ wr.ownsRow w.heap.size 3 1 o k (mc (l.take k)) ∧ Below w.heap.size w wr) (fun _ i _ => l.length - (intOf i).toNat)
  case atStart => exact ⟨0, Nat.zero_le _, rfl, World.ownsRow_nil w w.heap.size 3 1, Below.refl _ _⟩
  case round =>
    obtain ⟨k, hk, rfl, hown, hB⟩ := hrel
    by_cases hlt : k < l.length
    · obtain ⟨x, hx⟩ := some_at hlt
      rcases hr with h0 | ⟨off, rfl, hbl, hc⟩
      · rw [h0] at hlt; simp at hlt
      have hcell := (hB.cell (p := ⟨b, off + k, none⟩) hbl).trans (hc k x hx)
      have HT := hide (mc_take hx)
      clear hc hx
      go_wp2_with (first
        | (at_builtin; refine wpList_append_own _ rfl _ _ 23 rfl w.heap.size 3 i0 (.int .i64 0) 1 8 Tryd.underlying23 hi hz0 hz1 hz2 rfl (by decide) _ _ _ rfl (hown.alloc _) ⟨_, 0, none⟩ 1 1 [.int .i64 x] rfl rfl ?c1 ?c2 ?c3 ?c4 ?c5 ?_)
        | go_in)
      case c1 =>
        intro j u hj
        match j, hj with
        | 0, hj => simp at hj; subst hj; simp [Addr.add]
      case c2 => intro u hu; simp at hu; subst hu; rfl
      case c3 => unfold maxLen; omega
      case c4 => omega
      case c5 => have := hB.size; simp; omega
      intro v' w1 hown' hgrow _
      have hB1 : Below w.heap.size w w1 := (hB.alloc hB.size _).grown hgrow (by have := hB.size; simp; omega) (fun k hk => (hown.lt k hk).1)
      clear hown hgrow
      go_wp2
      go_roundw
      case rel => exact ⟨k + 1, by omega, by go_num, by rw [HT.out]; exact hown', hB1⟩
      case measure => simp [intOf]; omega
    · have hk' : k = l.length := by omega
      subst hk'
      rw [List.take_length] at hown
      clear hr
      go_wp2
      go_loopw [3, 5] (fun o i wr => ∃ k : Nat, k ≤ 16 ∧ i = .int .i64 k ∧ wr.ownsRow w.heap.size 3 1 o (l.length + k) (mc (l ++ marksB.take k)) ∧ Below w.heap.size w wr) (fun _ i _ => 16 - (intOf i).toNat)
      case atStart => exact ⟨0, Nat.zero_le _, rfl, by rw [List.take_zero, List.append_nil]; exact hown, hB⟩
      case round =>
        clear hown hB
        obtain ⟨k, hk, rfl, hown, hB⟩ := hrel
        by_cases hlt : k < 16
        · have HT : Hid (mc (l ++ marksB.take (k + 1)) = mc (l ++ marksB.take k) ++ [.int .i64 (mkB 90 (k : Int))]) := by
            rw [mc_app, mc_take (marksB_at hlt), ← List.append_assoc, ← mc_app]
            rfl
          obtain ⟨m, hm⟩ : ∃ m : Int, Hid ((mkB 90 (k : Int)) = m) := ⟨_, hide rfl⟩
          have HMK := hide (fun W : World => markInts_any 90 (k : Int) W (by omega) (by omega) (by omega) (by omega))
          rw [hm.out] at HT HMK
          go_wp2_with (first
            | (go_at_call 26; refine (HMK.out _).mono ?_; rintro e w' ⟨rfl, rfl⟩)
            | (at_builtin; refine wpList_append_own _ rfl _ _ 23 rfl w.heap.size 3 i0 (.int .i64 0) 1 8 Tryd.underlying23 hi hz0 hz1 hz2 rfl (by decide) _ _ _ rfl (hown.alloc _) ⟨_, 0, none⟩ 1 1 [.int .i64 m] rfl rfl ?d1 ?d2 ?d3 ?d4 ?d5 ?_)
            | go_in)
          case d1 =>
            intro j u hj
            match j, hj with
            | 0, hj => simp at hj; subst hj; simp [Addr.add]
          case d2 => intro u hu; simp at hu; subst hu; rfl
          case d3 => unfold maxLen; omega
          case d4 => omega
          case d5 => have := hB.size; simp; omega
          intro v' w1 hown' hgrow _
          have hB1 : Below w.heap.size w w1 := (hB.alloc hB.size _).grown hgrow (by have := hB.size; simp; omega) (fun k hk => (hown.lt k hk).1)
          clear hown hgrow
          go_wp2
          go_roundw
          case rel => exact ⟨k + 1, by omega, by go_num, by rw [HT.out, ← Nat.add_assoc]; exact hown', hB1⟩
          case measure => simp [intOf]; omega
        · have hk' : k = 16 := by omega
          subst hk'
          rw [List.take_of_length_le (by rw [marksB_len]; omega)] at hown
          go_wp2
          go_ret
          exact ⟨_, rfl, by unfold OM; rw [List.length_append, marksB_len]; exact hown, hB⟩
/-- A list that was lent, in block g, from B on. -/
structure LentB (w : World) (B g cap : Nat) (l : List Int) : Prop where
  base : B ≤ g
  own : OM w B (.slice (some ⟨g, 0, none⟩) (l.length + 16) cap) (l ++ marksB)
theorem lent_of {w : World} {B : Nat} {v : Value} {l : List Int} (h : OM w B v (l ++ marksB)) : ∃ g cap, v = .slice (some ⟨g, 0, none⟩) (l.length + 16) cap ∧ LentB w B g cap l := by
  have hn : (l ++ marksB).length = l.length + 16 := by rw [List.length_append, marksB_len]
  have h' := h
  unfold OM at h'
  obtain ⟨g, cap, hv, hb, hlt⟩ := World.ownsRow.form h' (by rw [hn]; omega)
  rw [hn] at hv
  subst hv
  exact ⟨g, cap, rfl, hb, h⟩
theorem LentB.later {w w' : World} {B g cap : Nat} {l : List Int} (h : LentB w B g cap l) (hb : Below w.heap.size w w') : LentB w' B g cap l := ⟨h.base, h.own.later hb⟩
theorem LentB.parts {w : World} {B g cap : Nat} {l : List Int} (h : LentB w B g cap l) : g < w.heap.size ∧ l.length + 16 ≤ cap ∧ (∀ j c, (l ++ marksB)[j]? = some c → w.cell? ⟨g, j, none⟩ = some (.int .i64 c)) ∧ (∀ j, w.frozen? ⟨g, j, none⟩ = false) := by
  have hn : (l ++ marksB).length = l.length + 16 := by rw [List.length_append, marksB_len]
  have h' := h.own
  unfold OM at h'
  rw [hn] at h'
  rcases h'.2 with ⟨h0, _⟩ | ⟨g', cap', cur, hv, hb, hh, hn2, _⟩
  · cases h0
  · cases hv
    refine ⟨(Array.getElem?_eq_some_iff.1 hh).1, hn2, fun j c hj => ?_, fun j => h'.frozenAt j⟩
    have hjl : j < (l ++ marksB).length := (List.getElem?_eq_some_iff.1 hj).1
    rw [h'.cellAt j (by omega)]
    exact mc_at hj
theorem LentB.rg {w : World} {B g cap : Nat} {l : List Int} (h : LentB w B g cap l) : RG w g (.slice (some ⟨g, 0, none⟩) l.length cap) l := by
  obtain ⟨h1, h2, h3, _⟩ := h.parts
  refine ⟨_, _, rfl, by omega, .inr ⟨0, rfl, h1, fun j c hj => ?_⟩⟩
  rw [Nat.zero_add]
  exact h3 j c (by rw [List.getElem?_append_left (List.getElem?_eq_some_iff.1 hj).1]; exact hj)

theorem mc_set (l : List Int) (k : Nat) (c : Int) : mc (l.set k c) = (mc l).set k (.int .i64 c) := by unfold mc; rw [List.map_set]
theorem LentB.set {w : World} {B g cap : Nat} {l : List Int} (h : LentB w B g cap l) {k : Nat} {c : Int} (hk : k < l.length) : LentB (w.setCell ⟨g, k, none⟩ (.int .i64 c)) B g cap (l.set k c) := by
  refine ⟨h.base, ?_⟩
  have hn : (l ++ marksB).length = l.length + 16 := by rw [List.length_append, marksB_len]
  have h' := h.own
  unfold OM at h' ⊢
  rw [hn] at h'
  have h2 := (h'.stored k (.int .i64 c)).1
  rw [← mc_set, List.set_append_left _ _ hk] at h2
  rw [List.length_set, List.length_append, List.length_set, marksB_len]
  exact h2
set_option maxHeartbeats 1000000 in
theorem lentInts_any (v : Value) (l : List Int) (w : World) (hv : RB w v l) (hl : l.length ≤ 17592186044100) :
    Calls Tryd.prog 6 #[v] w fun e w' => ∃ g cap, e = .returned (.slice (some ⟨g, 0, none⟩) l.length cap) ∧ LentB w' w.heap.size g cap l ∧ Below w.heap.size w w' := by
  have HF := hide (fullInts_any v l w hv hl)
  obtain ⟨b, a, c0, rfl, _, hr⟩ := hv
  clear hr
  go_enter Tryd.func6, Tryd.ntmps6
  go_wp2_with fail
  refine HF.out.mono ?_
  rintro e w1 ⟨v', rfl, hown, hB⟩
  obtain ⟨g, cap, hv', hL⟩ := lent_of hown
  rw [hv']
  have hc := hL.parts.2.1
  have hc2 : l.length ≤ cap := by omega
  have HL := hide hL
  have HB := hide hB
  clear hown hv' hL hB
  go_wp2_with fail
  go_ret
  exact ⟨g, cap, rfl, HL.out, HB.out⟩
set_option maxRecDepth 100000 in
set_option maxHeartbeats 1000000 in
theorem keptFullInts_any (g cap B : Nat) (v : Value) (l : List Int) (w : World) (hL : LentB w B g cap l) (hv : RB w v l) (hl : l.length ≤ 17592186044100) :
    Calls Tryd.prog 28 #[.slice (some ⟨g, 0, none⟩) (l.length + 16) cap, v] w fun e w' => e = .returned (.bool true) ∧ w' = w := by
  obtain ⟨b, a, c0, rfl, _, hr⟩ := hv
  obtain ⟨_, _, hcell, _⟩ := hL.parts
  have HC := hide hcell
  clear hcell hL
  have hne : (((l.length + 16 : Nat) : Int) != (l.length : Int) + 16) = false := by simp
  go_enter Tryd.func28, Tryd.ntmps28
  go_wp2
  go_loop [5] (fun i => ∃ k : Nat, k ≤ l.length + 16 ∧ i = .int .i64 k) (fun i => l.length + 16 - (intOf i).toNat)
  case atStart => exact ⟨0, Nat.zero_le _, rfl⟩
  case round =>
    obtain ⟨k, hk, rfl⟩ := hrel
    by_cases hlt : k < l.length + 16
    · have HM := hide (fun W : World => markInts_any 90 ((k : Int) - (l.length : Int)) W (by omega) (by omega) (by omega) (by omega))
      by_cases hin : k < l.length
      · obtain ⟨x, hx⟩ := some_at hin
        have hx2 := HC.out k x (by rw [List.getElem?_append_left hin]; exact hx)
        rcases hr with h0 | ⟨off, rfl, hbl, hc⟩
        · rw [h0] at hin; simp at hin
        have hx1 := hc k x hx
        clear hc hx
        go_wp2_with (go_at_call 26; refine (HM.out _).mono ?_; rintro e w' ⟨rfl, rfl⟩)
        go_round
        case rel => exact ⟨k + 1, by omega, by go_num⟩
        case measure => simp [intOf]; omega
      · have hx2 := HC.out k (mkB 90 ((k : Int) - (l.length : Int))) (by
          rw [List.getElem?_append_right (by omega), marksB_at (by omega)]; congr 2; omega)
        go_wp2_with (go_at_call 26; refine (HM.out _).mono ?_; rintro e w' ⟨rfl, rfl⟩)
        go_round
        case rel => exact ⟨k + 1, by omega, by go_num⟩
        case measure => simp [intOf]; omega
    · go_wp2
      go_ret
      exact ⟨rfl, rfl⟩
set_option maxHeartbeats 1000000 in
theorem keptInts_any (g cap B : Nat) (v : Value) (l : List Int) (w : World) (hL : LentB w B g cap l) (hv : RB w v l) (hl : l.length ≤ 17592186044100) :
    Calls Tryd.prog 13 #[.slice (some ⟨g, 0, none⟩) l.length cap, v] w fun e w' => e = .returned (.bool true) ∧ w' = w := by
  have HF := hide (keptFullInts_any g cap B v l w hL hv hl)
  obtain ⟨b, a, c0, rfl, _, hr⟩ := hv
  have hc := hL.parts.2.1
  clear hr hL
  go_enter Tryd.func13, Tryd.ntmps13
  go_wp2_with fail
  refine HF.out.mono ?_
  rintro e w1 ⟨rfl, hw⟩
  obtain rfl := hw.symm
  go_wp2_with fail
  go_ret
  exact ⟨rfl, rfl⟩
end Go.Proofs.YtieinnhiaomliaaDoor.IN
