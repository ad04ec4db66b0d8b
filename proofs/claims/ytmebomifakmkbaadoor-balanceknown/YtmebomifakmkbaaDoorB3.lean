/-
  My own text: where a mark stands, by the program: slices.BinarySearchFunc; what stands under a name.
-/
import Derived.Test.YtmebomifakmkbaaDoorB2
namespace Go.Proofs.YtmebomifakmkbaaDoor
open Go.RowKit

def cmpI (x y : Int) : Int := if x < y then -1 else if y < x then 1 else 0
set_option maxHeartbeats 1000000 in
theorem compare_any (x y : Int) (w : World) :
    Calls Tryd.prog 73 #[.int .i64 x, .int .i64 y] w fun e w' => e = .returned (.int .i64 (cmpI x y)) ∧ w' = w := by
  have hx : (x != x) = false := by simp
  have hy : (y != y) = false := by simp
  by_cases h1 : x < y
  · have HE : Hid (cmpI x y = -1) := hide (if_pos h1)
    have d1 : decide (x < y) = true := decide_eq_true h1
    clear h1
    go_enter Tryd.func73, Tryd.ntmps73
    go_wp2
    go_ret
    exact ⟨by rw [HE.out]; rfl, rfl⟩
  · have d1 : decide (x < y) = false := decide_eq_false h1
    by_cases h2 : y < x
    · have HE : Hid (cmpI x y = 1) := hide (by unfold cmpI; rw [if_neg h1, if_pos h2])
      have d2 : decide (y < x) = true := decide_eq_true h2
      clear h1 h2
      go_enter Tryd.func73, Tryd.ntmps73
      go_wp2
      go_ret
      exact ⟨by rw [HE.out]; rfl, rfl⟩
    · have HE : Hid (cmpI x y = 0) := hide (by unfold cmpI; rw [if_neg h1, if_neg h2])
      have d2 : decide (y < x) = false := decide_eq_false h2
      clear h1 h2
      go_enter Tryd.func73, Tryd.ntmps73
      go_wp2
      go_ret
      exact ⟨by rw [HE.out]; rfl, rfl⟩
set_option maxRecDepth 100000 in
set_option maxHeartbeats 1000000 in
theorem place1_any (x y z : Int) (w : World) :
    Calls Tryd.prog 72 #[.agg #[.int .i64 x, .int .i64 y], .int .i64 z] w fun e w' => e = .returned (.int .i64 (cmpI x z)) ∧ Below w.heap.size w w' := by
  have HC := hide (fun W => compare_any x z W)
  generalize cmpI x z = c at *
  have B0 := hide ((Below.refl w.heap.size w).alloc (Nat.le_refl _) (.cells #[.int .i64 x, .int .i64 y] 36))
  obtain ⟨x0, x1⟩ := pair_cells (alloc_new w (.cells #[.int .i64 x, .int .i64 y] 36)) rfl
  go_enter Tryd.func72, Tryd.ntmps72
  go_wp2_with (go_at_call 73; refine (HC.out _).mono ?_; rintro e w' ⟨rfl, rfl⟩)
  go_ret
  exact ⟨rfl, B0.out⟩
theorem lo_has {n : Int} {L : List Mk} {a : Int} (hr : Ri a L) (h : ¬ lo n L < L.length) : hasN n L = false := by
  cases hb : hasN n L with
  | false => rfl
  | true =>
    have := (lo_at hr).1 hb
    exact absurd (List.getElem?_eq_some_iff.1 this).1 h
set_option maxRecDepth 100000 in
set_option maxHeartbeats 2000000 in
theorem search_any (v : Value) (L : List Mk) (n : Int) (w : World) (h : RM w v L) (hr : Ri 0 L) (h8 : L.length ≤ 8) :
    Calls Tryd.prog 71 #[v, .int .i64 n, .func (Fn.func 72) #[] #[]] w fun e w' => e = .returned (.tuple #[.int .i64 (lo n L : Int), .bool (hasN n L)]) ∧ Below w.heap.size w w' := by
  obtain ⟨a, cap, rfl, _, hc⟩ := h
  have HC := hide hc
  have HR := hide hr
  have H8 := hide h8
  have HLO := hide (lo_le n L)
  clear hc hr h8
  obtain ⟨M, HM⟩ : ∃ M : Nat, Hid (lo n L = M) := ⟨_, hide rfl⟩
  rw [HM.out] at HLO ⊢
  obtain ⟨F, HF⟩ : ∃ F : Bool, Hid (hasN n L = F) := ⟨_, hide rfl⟩
  rw [HF.out]
  go_enter Tryd.func71, Tryd.ntmps71
  go_wp2_with fail
  go_loopw [9, 10] (fun i j wr => ∃ x y : Nat, i = .int .i64 (x : Int) ∧ j = .int .i64 (y : Int) ∧ x ≤ M ∧ M ≤ y ∧ y ≤ L.length ∧ Hid (Below w.heap.size w wr)) (fun i j _ => (intOf j).toNat - (intOf i).toNat)
  case atStart => exact ⟨0, L.length, rfl, rfl, Nat.zero_le _, HLO.out, Nat.le_refl _, hide (Below.refl _ _)⟩
  case round =>
    obtain ⟨x, y, rfl, rfl, h1, h2, h3, HB⟩ := hrel
    have hl8 := H8.out
    by_cases hab : x < y
    · have hd1 : decide ((x : Int) < (y : Int)) = true := by rw [decide_eq_true_eq]; omega
      have w1 : wrap64 ((x : Int) + (y : Int)) = (x : Int) + (y : Int) := by unfold wrap64; omega
      obtain ⟨h, eh⟩ : ∃ h : Nat, (h : Int) = ((x : Int) + (y : Int)) / 2 := ⟨(x + y) / 2, by omega⟩
      have h4 : x ≤ h := by omega
      have h5 : h < y := by omega
      have hlt : h < L.length := by omega
      obtain ⟨⟨N, Q⟩, hp⟩ : ∃ p, L[h]? = some p := ⟨_, List.getElem?_eq_getElem hlt⟩
      obtain ⟨b, off, ha, hbl, hc⟩ := HC.out.resolve_left (fun h => by rw [h] at hlt; simp at hlt)
      have hh : (x + y) / 2 = h := by omega
      have c0 : wr.cell? ⟨b, off + (x + y) / 2 * 2, none⟩ = some (.int .i64 N) := by rw [hh]; exact (HB.out.cell (p := ⟨b, _, none⟩) hbl).trans (hc h _ hp).1
      have c1 : wr.cell? ⟨b, off + (x + y) / 2 * 2 + 1, none⟩ = some (.int .i64 Q) := by rw [hh]; exact (HB.out.cell (p := ⟨b, _, none⟩) hbl).trans (hc h _ hp).2
      have c1' : wr.cell? ⟨b, off + ((x + y) / 2 * 2 + 1), none⟩ = some (.int .i64 Q) := c1
      clear hh
      subst ha
      have HP := hide hp
      have H := hide (place1_any N Q n wr)
      have k0 : (0 : Int) ≤ (h : Int) := by omega
      have k1 : (h : Int) < (L.length : Int) := by omega
      clear hc hp
      by_cases hN : N < n
      · have HK : Hid (h + 1 ≤ M) := hide (by
          rw [← HM.out]
          rcases Nat.lt_or_ge h (lo n L) with hq | hq
          · omega
          · have := lo_hi HR.out hq HP.out; dsimp only at this; omega)
        have e : cmpI N n = -1 := if_pos hN
        rw [e] at H
        clear e hN
        go_wp2_with fail
        refine H.out.mono ?_
        rintro e w2 ⟨rfl, hb2⟩
        rw [← eh]
        clear eh w1 c0 c1 c1'
        have HB2 := hide (HB.out.trans (hb2.mono HB.out.size))
        clear hb2 H HB
        go_wp2_with fail
        go_roundw
        case rel => exact ⟨h + 1, y, by go_num, rfl, HK.out, h2, h3, HB2⟩
        case measure => simp [intOf]; omega
      · have HK : Hid (M ≤ h) := hide (by
          rw [← HM.out]
          rcases Nat.lt_or_ge h (lo n L) with hq | hq
          · have := lo_lo hq HP.out; dsimp only at this; omega
          · exact hq)
        obtain ⟨c, e, hcp⟩ : ∃ c : Int, cmpI N n = c ∧ decide (c < 0) = false := ⟨_, rfl, by
          rw [decide_eq_false_iff_not]; unfold cmpI; rw [if_neg hN]; split <;> omega⟩
        rw [e] at H
        clear e hN
        go_wp2_with fail
        refine H.out.mono ?_
        rintro e w2 ⟨rfl, hb2⟩
        rw [← eh]
        clear eh w1 c0 c1 c1'
        have HB2 := hide (HB.out.trans (hb2.mono HB.out.size))
        clear hb2 H HB
        go_wp2_with fail
        go_roundw
        case rel => exact ⟨x, h, rfl, rfl, h1, HK.out, by omega, HB2⟩
        case measure => simp [intOf]; omega
    · have hd1 : decide ((x : Int) < (y : Int)) = false := by rw [decide_eq_false_iff_not]; omega
      have e1 : x = M := by omega
      have e2 : y = M := by omega
      subst e1
      subst e2
      by_cases hlt : y < L.length
      · obtain ⟨⟨N, Q⟩, hp⟩ : ∃ p, L[y]? = some p := ⟨_, List.getElem?_eq_getElem hlt⟩
        obtain ⟨b, off, ha, hbl, hc⟩ := HC.out.resolve_left (fun h => by rw [h] at hlt; simp at hlt)
        have c0 : wr.cell? ⟨b, off + y * 2, none⟩ = some (.int .i64 N) := (HB.out.cell (p := ⟨b, _, none⟩) hbl).trans (hc y _ hp).1
        have c1 : wr.cell? ⟨b, off + y * 2 + 1, none⟩ = some (.int .i64 Q) := (HB.out.cell (p := ⟨b, _, none⟩) hbl).trans (hc y _ hp).2
        have c1' : wr.cell? ⟨b, off + (y * 2 + 1), none⟩ = some (.int .i64 Q) := c1
        subst ha
        have H := hide (place1_any N Q n wr)
        have k0 : (0 : Int) ≤ (y : Int) := by omega
        have k1 : (y : Int) < (L.length : Int) := by omega
        have hd2 : decide ((y : Int) < (L.length : Int)) = true := by rw [decide_eq_true_eq]; omega
        have HLA := lo_at (n := n) HR.out
        rw [HM.out] at HLA
        have hb := HF.out
        cases F with
        | true =>
          have e3 := HLA.1 hb
          rw [hp] at e3
          have e4 : N = n := by injection e3 with e3; injection e3
          have e : cmpI N n = 0 := by subst e4; unfold cmpI; rw [if_neg (by omega), if_neg (by omega)]
          rw [e] at H
          clear e e3 e4 hp hc HLA hb
          go_wp2_with fail
          refine H.out.mono ?_
          rintro e w2 ⟨rfl, hb2⟩
          have HB2 := hide (HB.out.trans (hb2.mono HB.out.size))
          clear hb2 H HB
          go_wp2_with fail
          go_ret2
          exact ⟨rfl, HB2.out⟩
        | false =>
          have e3 := HLA.2 hb _ hp
          dsimp only at e3
          have e : cmpI N n = 1 := by unfold cmpI; rw [if_neg (by omega), if_pos e3]
          rw [e] at H
          clear e e3 hp hc HLA hb
          go_wp2_with fail
          refine H.out.mono ?_
          rintro e w2 ⟨rfl, hb2⟩
          have HB2 := hide (HB.out.trans (hb2.mono HB.out.size))
          clear hb2 H HB
          go_wp2_with fail
          go_ret2
          exact ⟨rfl, HB2.out⟩
      · have hf := lo_has (n := n) HR.out (by rw [HM.out]; exact hlt)
        rw [HF.out] at hf
        subst hf
        have hd2 : decide ((y : Int) < (L.length : Int)) = false := by rw [decide_eq_false_iff_not]; omega
        go_wp2_with fail
        go_ret2
        exact ⟨rfl, HB.out⟩
set_option maxHeartbeats 1000000 in
theorem placeM_any (v : Value) (L : List Mk) (n : Int) (w : World) (h : RM w v L) (hr : Ri 0 L) (h8 : L.length ≤ 8) :
    Calls Tryd.prog 61 #[v, .int .i64 n] w fun e w' => e = .returned (.tuple #[.int .i64 (lo n L : Int), .bool (hasN n L)]) ∧ Below w.heap.size w w' := by
  have HS := hide (search_any v L n w h hr h8)
  obtain ⟨a, cap, rfl, _, hc⟩ := h
  clear hc
  go_enter Tryd.func61, Tryd.ntmps61
  go_wp2_with fail
  refine HS.out.mono ?_
  rintro e w1 ⟨rfl, hb⟩
  have HB := hide hb
  clear hb
  go_wp2_with fail
  go_ret2
  exact ⟨rfl, HB.out⟩
theorem mq_no {n : Int} {L : List Mk} {a : Int} (hr : Ri a L) (h : hasN n L = false) : mq n L = 0 := by
  have ⟨h1, h2, _⟩ := mq_ge (n := n) hr
  rw [h] at h2
  have : ¬ 1 ≤ mq n L := fun e => by have := h2.2 e; cases this
  omega
set_option maxRecDepth 100000 in
set_option maxHeartbeats 1000000 in
theorem under_any (v : Value) (L : List Mk) (n : Int) (w : World) (h : RM w v L) (hr : Ri 0 L) (h8 : L.length ≤ 8) :
    Calls Tryd.prog 38 #[v, .int .i64 n] w fun e w' => e = .returned (.int .i64 (mq n L)) ∧ Below w.heap.size w w' := by
  have HS := hide (placeM_any v L n w h hr h8)
  obtain ⟨a, cap, rfl, _, hc⟩ := h
  cases hb : hasN n L with
  | true =>
    rw [hb] at HS
    have hp := (lo_at hr).1 hb
    have hlt := (List.getElem?_eq_some_iff.1 hp).1
    obtain ⟨b, off, ha, hbl, hc⟩ := hc.resolve_left (fun h => by rw [h] at hlt; simp at hlt)
    have HC1 := hide (hc _ _ hp).2
    have HBL := hide hbl
    subst ha
    dsimp only at HC1
    generalize mq n L = q at *
    generalize lo n L = M at *
    have k0 : (0 : Int) ≤ (M : Int) := by omega
    have k1 : (M : Int) < (L.length : Int) := by omega
    clear hc hb hp hbl
    go_enter Tryd.func38, Tryd.ntmps38
    go_wp2_with fail
    refine HS.out.mono ?_
    rintro e w1 ⟨rfl, hb⟩
    have HB := hide hb
    have c1 : w1.cell? ⟨b, off + M * 2 + 1, none⟩ = some (.int .i64 q) := (hb.cell (p := ⟨b, _, none⟩) HBL.out).trans HC1.out
    have c1' : w1.cell? ⟨b, off + (M * 2 + 1), none⟩ = some (.int .i64 q) := c1
    clear hb
    go_wp2_with fail
    go_ret
    exact ⟨rfl, HB.out⟩
  | false =>
    rw [hb] at HS
    rw [mq_no hr hb]
    clear hb hc
    generalize lo n L = M at *
    go_enter Tryd.func38, Tryd.ntmps38
    go_wp2_with fail
    refine HS.out.mono ?_
    rintro e w1 ⟨rfl, hb⟩
    have HB := hide hb
    clear hb
    go_wp2_with fail
    go_ret
    exact ⟨rfl, HB.out⟩
end Go.Proofs.YtmebomifakmkbaaDoor
