/-
  My own text: B3, B4 in one.
-/
import Derived.Test.YtdjhbecbbmdimaaGreatDoorB2
import Derived.Lib.AppendZeros
import Derived.ArgAppend
namespace Go.Proofs.YtdjhbecbbmdimaaGreatDoor.BL
open Go.RowKit

def cmpI (x y : Int) : Int := if x < y then -1 else if y < x then 1 else 0
set_option maxHeartbeats 1000000 in
theorem compare_any (x y : Int) (w : World) :
    Calls Tryz.prog 45 #[.int .i64 x, .int .i64 y] w fun e w' => e = .returned (.int .i64 (cmpI x y)) ∧ w' = w := by
  have hx : (x != x) = false := by simp
  have hy : (y != y) = false := by simp
  by_cases h1 : x < y
  · have HE : Hid (cmpI x y = -1) := hide (if_pos h1)
    have d1 : decide (x < y) = true := decide_eq_true h1
    clear h1
    go_enter Tryz.func45, Tryz.ntmps45
    go_wp2
    go_ret
    exact ⟨by rw [HE.out]; rfl, rfl⟩
  · have d1 : decide (x < y) = false := decide_eq_false h1
    by_cases h2 : y < x
    · have HE : Hid (cmpI x y = 1) := hide (by unfold cmpI; rw [if_neg h1, if_pos h2])
      have d2 : decide (y < x) = true := decide_eq_true h2
      clear h1 h2
      go_enter Tryz.func45, Tryz.ntmps45
      go_wp2
      go_ret
      exact ⟨by rw [HE.out]; rfl, rfl⟩
    · have HE : Hid (cmpI x y = 0) := hide (by unfold cmpI; rw [if_neg h1, if_neg h2])
      have d2 : decide (y < x) = false := decide_eq_false h2
      clear h1 h2
      go_enter Tryz.func45, Tryz.ntmps45
      go_wp2
      go_ret
      exact ⟨by rw [HE.out]; rfl, rfl⟩
set_option maxRecDepth 100000 in
set_option maxHeartbeats 1000000 in
theorem place1_any (x y z : Int) (w : World) :
    Calls Tryz.prog 130 #[.agg #[.int .i64 x, .int .i64 y], .int .i64 z] w fun e w' => e = .returned (.int .i64 (cmpI x z)) ∧ Below w.heap.size w w' := by
  have HC := hide (fun W => compare_any x z W)
  generalize cmpI x z = c at *
  have B0 := hide ((Below.refl w.heap.size w).alloc (Nat.le_refl _) (.cells #[.int .i64 x, .int .i64 y] 142))
  obtain ⟨x0, x1⟩ := pair_cells (alloc_new w (.cells #[.int .i64 x, .int .i64 y] 142)) rfl
  go_enter Tryz.func130, Tryz.ntmps130
  go_wp2_with (go_at_call 45; refine (HC.out _).mono ?_; rintro e w' ⟨rfl, rfl⟩)
  go_ret
  exact ⟨rfl, B0.out⟩
theorem lo_has {n : Int} {L : List Mk} {a : Int} (hr : Ri a L) (h : ¬ lo n L < L.length) : hasN n L = false := by
  cases hb : hasN n L with
  | false => rfl
  | true =>
    have := (lo_at hr).1 hb
    exact absurd (List.getElem?_eq_some_iff.1 this).1 h
set_option maxRecDepth 100000 in
set_option maxHeartbeats 2000000 in
theorem search_any (v : Value) (L : List Mk) (n : Int) (w : World) (h : RM w v L) (hr : Ri 0 L) (h8 : L.length ≤ 8) :
    Calls Tryz.prog 129 #[v, .int .i64 n, .func (Fn.func 130) #[] #[]] w fun e w' => e = .returned (.tuple #[.int .i64 (lo n L : Int), .bool (hasN n L)]) ∧ Below w.heap.size w w' := by
  obtain ⟨a, cap, rfl, _, hc⟩ := h
  have HC := hide hc
  have HR := hide hr
  have H8 := hide h8
  have HLO := hide (lo_le n L)
  clear hc hr h8
  obtain ⟨M, HM⟩ : ∃ M : Nat, Hid (lo n L = M) := ⟨_, hide rfl⟩
  rw [HM.out] at HLO ⊢
  obtain ⟨F, HF⟩ : ∃ F : Bool, Hid (hasN n L = F) := ⟨_, hide rfl⟩
  rw [HF.out]
  go_enter Tryz.func129, Tryz.ntmps129
  go_wp2_with fail
  go_loopw [9, 10] (fun i j wr => ∃ x y : Nat, i = .int .i64 (x : Int) ∧ j = .int .i64 (y : Int) ∧ x ≤ M ∧ M ≤ y ∧ y ≤ L.length ∧ Hid (Below w.heap.size w wr)) (fun i j _ => (intOf j).toNat - (intOf i).toNat)
  case atStart => exact ⟨0, L.length, rfl, rfl, Nat.zero_le _, HLO.out, Nat.le_refl _, hide (Below.refl _ _)⟩
  case round =>
    obtain ⟨x, y, rfl, rfl, h1, h2, h3, HB⟩ := hrel
    have hl8 := H8.out
    by_cases hab : x < y
    · have hd1 : decide ((x : Int) < (y : Int)) = true := by rw [decide_eq_true_eq]; omega
      have w1 : wrap64 ((x : Int) + (y : Int)) = (x : Int) + (y : Int) := by unfold wrap64; omega
      obtain ⟨h, eh⟩ : ∃ h : Nat, (h : Int) = ((x : Int) + (y : Int)) / 2 := ⟨(x + y) / 2, by omega⟩
      have h4 : x ≤ h := by omega
      have h5 : h < y := by omega
      have hlt : h < L.length := by omega
      obtain ⟨⟨N, Q⟩, hp⟩ : ∃ p, L[h]? = some p := ⟨_, List.getElem?_eq_getElem hlt⟩
      obtain ⟨b, off, ha, hbl, hc⟩ := HC.out.resolve_left (fun h => by rw [h] at hlt; simp at hlt)
      have hh : (x + y) / 2 = h := by omega
      have c0 : wr.cell? ⟨b, off + (x + y) / 2 * 2, none⟩ = some (.int .i64 N) := by rw [hh]; exact (HB.out.cell (p := ⟨b, _, none⟩) hbl).trans (hc h _ hp).1
      have c1 : wr.cell? ⟨b, off + (x + y) / 2 * 2 + 1, none⟩ = some (.int .i64 Q) := by rw [hh]; exact (HB.out.cell (p := ⟨b, _, none⟩) hbl).trans (hc h _ hp).2
      have c1' : wr.cell? ⟨b, off + ((x + y) / 2 * 2 + 1), none⟩ = some (.int .i64 Q) := c1
      clear hh
      subst ha
      have HP := hide hp
      have H := hide (place1_any N Q n wr)
      have k0 : (0 : Int) ≤ (h : Int) := by omega
      have k1 : (h : Int) < (L.length : Int) := by omega
      clear hc hp
      by_cases hN : N < n
      · have HK : Hid (h + 1 ≤ M) := hide (by
          rw [← HM.out]
          rcases Nat.lt_or_ge h (lo n L) with hq | hq
          · omega
          · have := lo_hi HR.out hq HP.out; dsimp only at this; omega)
        have e : cmpI N n = -1 := if_pos hN
        rw [e] at H
        clear e hN
        go_wp2_with fail
        refine H.out.mono ?_
        rintro e w2 ⟨rfl, hb2⟩
        rw [← eh]
        clear eh w1 c0 c1 c1'
        have HB2 := hide (HB.out.trans (hb2.mono HB.out.size))
        clear hb2 H HB
        go_wp2_with fail
        go_roundw
        case rel => exact ⟨h + 1, y, by go_num, rfl, HK.out, h2, h3, HB2⟩
        case measure => simp [intOf]; omega
      · have HK : Hid (M ≤ h) := hide (by
          rw [← HM.out]
          rcases Nat.lt_or_ge h (lo n L) with hq | hq
          · have := lo_lo hq HP.out; dsimp only at this; omega
          · exact hq)
        obtain ⟨c, e, hcp⟩ : ∃ c : Int, cmpI N n = c ∧ decide (c < 0) = false := ⟨_, rfl, by
          rw [decide_eq_false_iff_not]; unfold cmpI; rw [if_neg hN]; split <;> omega⟩
        rw [e] at H
        clear e hN
        go_wp2_with fail
        refine H.out.mono ?_
        rintro e w2 ⟨rfl, hb2⟩
        rw [← eh]
        clear eh w1 c0 c1 c1'
        have HB2 := hide (HB.out.trans (hb2.mono HB.out.size))
        clear hb2 H HB
        go_wp2_with fail
        go_roundw
        case rel => exact ⟨x, h, rfl, rfl, h1, HK.out, by omega, HB2⟩
        case measure => simp [intOf]; omega
    · have hd1 : decide ((x : Int) < (y : Int)) = false := by rw [decide_eq_false_iff_not]; omega
      have e1 : x = M := by omega
      have e2 : y = M := by omega
      subst e1
      subst e2
      by_cases hlt : y < L.length
      · obtain ⟨⟨N, Q⟩, hp⟩ : ∃ p, L[y]? = some p := ⟨_, List.getElem?_eq_getElem hlt⟩
        obtain ⟨b, off, ha, hbl, hc⟩ := HC.out.resolve_left (fun h => by rw [h] at hlt; simp at hlt)
        have c0 : wr.cell? ⟨b, off + y * 2, none⟩ = some (.int .i64 N) := (HB.out.cell (p := ⟨b, _, none⟩) hbl).trans (hc y _ hp).1
        have c1 : wr.cell? ⟨b, off + y * 2 + 1, none⟩ = some (.int .i64 Q) := (HB.out.cell (p := ⟨b, _, none⟩) hbl).trans (hc y _ hp).2
        have c1' : wr.cell? ⟨b, off + (y * 2 + 1), none⟩ = some (.int .i64 Q) := c1
        subst ha
        have H := hide (place1_any N Q n wr)
        have k0 : (0 : Int) ≤ (y : Int) := by omega
        have k1 : (y : Int) < (L.length : Int) := by omega
        have hd2 : decide ((y : Int) < (L.length : Int)) = true := by rw [decide_eq_true_eq]; omega
        have HLA := lo_at (n := n) HR.out
        rw [HM.out] at HLA
        have hb := HF.out
        cases F with
        | true =>
          have e3 := HLA.1 hb
          rw [hp] at e3
          have e4 : N = n := by injection e3 with e3; injection e3
          have e : cmpI N n = 0 := by subst e4; unfold cmpI; rw [if_neg (by omega), if_neg (by omega)]
          rw [e] at H
          clear e e3 e4 hp hc HLA hb
          go_wp2_with fail
          refine H.out.mono ?_
          rintro e w2 ⟨rfl, hb2⟩
          have HB2 := hide (HB.out.trans (hb2.mono HB.out.size))
          clear hb2 H HB
          go_wp2_with fail
          go_ret2
          exact ⟨rfl, HB2.out⟩
        | false =>
          have e3 := HLA.2 hb _ hp
          dsimp only at e3
          have e : cmpI N n = 1 := by unfold cmpI; rw [if_neg (by omega), if_pos e3]
          rw [e] at H
          clear e e3 hp hc HLA hb
          go_wp2_with fail
          refine H.out.mono ?_
          rintro e w2 ⟨rfl, hb2⟩
          have HB2 := hide (HB.out.trans (hb2.mono HB.out.size))
          clear hb2 H HB
          go_wp2_with fail
          go_ret2
          exact ⟨rfl, HB2.out⟩
      · have hf := lo_has (n := n) HR.out (by rw [HM.out]; exact hlt)
        rw [HF.out] at hf
        subst hf
        have hd2 : decide ((y : Int) < (L.length : Int)) = false := by rw [decide_eq_false_iff_not]; omega
        go_wp2_with fail
        go_ret2
        exact ⟨rfl, HB.out⟩
set_option maxHeartbeats 1000000 in
theorem placeM_any (v : Value) (L : List Mk) (n : Int) (w : World) (h : RM w v L) (hr : Ri 0 L) (h8 : L.length ≤ 8) :
    Calls Tryz.prog 124 #[v, .int .i64 n] w fun e w' => e = .returned (.tuple #[.int .i64 (lo n L : Int), .bool (hasN n L)]) ∧ Below w.heap.size w w' := by
  have HS := hide (search_any v L n w h hr h8)
  obtain ⟨a, cap, rfl, _, hc⟩ := h
  clear hc
  go_enter Tryz.func124, Tryz.ntmps124
  go_wp2_with fail
  refine HS.out.mono ?_
  rintro e w1 ⟨rfl, hb⟩
  have HB := hide hb
  clear hb
  go_wp2_with fail
  go_ret2
  exact ⟨rfl, HB.out⟩
theorem mq_no {n : Int} {L : List Mk} {a : Int} (hr : Ri a L) (h : hasN n L = false) : mq n L = 0 := by
  have ⟨h1, h2, _⟩ := mq_ge (n := n) hr
  rw [h] at h2
  have : ¬ 1 ≤ mq n L := fun e => by have := h2.2 e; cases this
  omega
set_option maxRecDepth 100000 in
set_option maxHeartbeats 1000000 in
theorem under_any (v : Value) (L : List Mk) (n : Int) (w : World) (h : RM w v L) (hr : Ri 0 L) (h8 : L.length ≤ 8) :
    Calls Tryz.prog 118 #[v, .int .i64 n] w fun e w' => e = .returned (.int .i64 (mq n L)) ∧ Below w.heap.size w w' := by
  have HS := hide (placeM_any v L n w h hr h8)
  obtain ⟨a, cap, rfl, _, hc⟩ := h
  cases hb : hasN n L with
  | true =>
    rw [hb] at HS
    have hp := (lo_at hr).1 hb
    have hlt := (List.getElem?_eq_some_iff.1 hp).1
    obtain ⟨b, off, ha, hbl, hc⟩ := hc.resolve_left (fun h => by rw [h] at hlt; simp at hlt)
    have HC1 := hide (hc _ _ hp).2
    have HBL := hide hbl
    subst ha
    dsimp only at HC1
    generalize mq n L = q at *
    generalize lo n L = M at *
    have k0 : (0 : Int) ≤ (M : Int) := by omega
    have k1 : (M : Int) < (L.length : Int) := by omega
    clear hc hb hp hbl
    go_enter Tryz.func118, Tryz.ntmps118
    go_wp2_with fail
    refine HS.out.mono ?_
    rintro e w1 ⟨rfl, hb⟩
    have HB := hide hb
    have c1 : w1.cell? ⟨b, off + M * 2 + 1, none⟩ = some (.int .i64 q) := (hb.cell (p := ⟨b, _, none⟩) HBL.out).trans HC1.out
    have c1' : w1.cell? ⟨b, off + (M * 2 + 1), none⟩ = some (.int .i64 q) := c1
    clear hb
    go_wp2_with fail
    go_ret
    exact ⟨rfl, HB.out⟩
  | false =>
    rw [hb] at HS
    rw [mq_no hr hb]
    clear hb hc
    generalize lo n L = M at *
    go_enter Tryz.func118, Tryz.ntmps118
    go_wp2_with fail
    refine HS.out.mono ?_
    rintro e w1 ⟨rfl, hb⟩
    have HB := hide hb
    clear hb
    go_wp2_with fail
    go_ret
    exact ⟨rfl, HB.out⟩
end Go.Proofs.YtdjhbecbbmdimaaGreatDoor.BL
namespace Go.Proofs.YtdjhbecbbmdimaaGreatDoor.BL
open Go.RowKit

theorem Tryz.infoMk : (Tryz.prog.info? 142).map (fun i => (i.zero, i.size, i.bytes)) = some (some (.agg #[.int .i64 0, .int .i64 0]), 2, 16) := by kernel_rfl
theorem owns_later {B : Nat} {e : TypeId} {k : Nat} {v : Value} {n : Nat} {xs : List Value} {w w' : World} (h : w.ownsRow B e k v n xs) (hb : Below w.heap.size w w') : w'.ownsRow B e k v n xs := by
  refine ⟨h.1, ?_⟩
  rcases h.2 with h2 | ⟨g, cap, cur, hv, hg, hh, h3⟩
  · exact .inl h2
  · exact .inr ⟨g, cap, cur, hv, hg, (hb.block g (Array.getElem?_eq_some_iff.1 hh).1).trans hh, h3⟩
/-- A row of marks of one's own. -/
abbrev OM (w : World) (B : Nat) (v : Value) (L : List Mk) : Prop := w.ownsRow B 142 2 v L.length (mc L)
theorem OM.rm {w : World} {B : Nat} {v : Value} {L : List Mk} (h : OM w B v L) : RM w v L := by
  have h' := h
  rcases h.2 with ⟨rfl, h0⟩ | ⟨g, cap, cur, rfl, hb, hh, hn, h3⟩
  · exact ⟨none, 0, by rw [h0], by omega, .inl (List.eq_nil_of_length_eq_zero h0)⟩
  · refine ⟨_, cap, rfl, hn, .inr ⟨g, 0, rfl, (Array.getElem?_eq_some_iff.1 hh).1, fun j p hj => ?_⟩⟩
    have hjl := (List.getElem?_eq_some_iff.1 hj).1
    obtain ⟨e0, e1⟩ := mc_at hj
    rw [Nat.zero_add]
    exact ⟨(h'.cellAt (j * 2) (by omega)).trans e0, (h'.cellAt (j * 2 + 1) (by omega)).trans e1⟩
theorem mc_cells : ∀ {L : List Mk} {j : Nat} {u : Value}, (mc L)[j]? = some u → ∃ (i : Nat) (p : Mk), L[i]? = some p ∧ ((j = i * 2 ∧ u = .int .i64 p.1) ∨ (j = i * 2 + 1 ∧ u = .int .i64 p.2))
  | p :: t, 0, u, h => by cases h; exact ⟨0, p, rfl, .inl ⟨rfl, rfl⟩⟩
  | p :: t, 1, u, h => by cases h; exact ⟨0, p, rfl, .inr ⟨rfl, rfl⟩⟩
  | p :: t, j + 2, u, h => by
    obtain ⟨i, q, h1, h2⟩ := mc_cells (L := t) (j := j) (u := u) h
    refine ⟨i + 1, q, h1, ?_⟩
    rcases h2 with ⟨h2, h3⟩ | ⟨h2, h3⟩
    · exact .inl ⟨by omega, h3⟩
    · exact .inr ⟨by omega, h3⟩
/-- append(row, marks..). -/
theorem run_append_rm (w : World) (B : Nat) (ty : TypeId) (v : Value) (M : List Mk) (hown : OM w B v M) (x : Value) (L : List Mk) (hx : RM w x L) (hn : M.length + L.length ≤ 8796093022208) (hB : B ≤ w.heap.size) :
    ∃ v' w', (Builtin.append_ #[58, 58] ty #[v, x]).run Tryz.prog w = .ok v' w' ∧ OM w' B v' (M ++ L) ∧ w.grownBy w' v.ownBlock := by
  obtain ⟨i0, hi, hz0, hz1, hz2⟩ := info_parts Tryz.infoMk
  obtain ⟨a, cap, rfl, _, hc⟩ := hx
  cases a with
  | none =>
    obtain rfl : L = [] := hc.resolve_right (fun ⟨b, off, h, _⟩ => by cases h)
    refine ⟨v, w, ?_, by rw [List.append_nil]; exact hown, ⟨rfl, rfl, rfl, Nat.le_refl _, fun _ _ _ => rfl⟩⟩
    rcases hown.2 with ⟨rfl, h0⟩ | ⟨g, cap', cur, rfl, _, _, hnc, _⟩
    · simp [Builtin.append_, run_underlying Tryz.underlying58, sizeOf, typeInfo, hi, Builtin.lenOf, Builtin.firstCells]
    · simp [Builtin.append_, run_underlying Tryz.underlying58, sizeOf, typeInfo, hi, Builtin.lenOf, Builtin.firstCells, hnc, storeCells]
  | some ad =>
    have hnews : ∀ j u, (mc L)[j]? = some u → w.cell? (ad.add j) = some u := fun j u hj => by
      obtain ⟨i, p, h1, h2⟩ := mc_cells hj
      have hne : ¬ L = [] := fun e => by rw [e] at h1; simp at h1
      obtain ⟨b, off, ha, _, hcc⟩ := hc.resolve_left hne
      cases ha
      rcases h2 with ⟨rfl, rfl⟩ | ⟨rfl, rfl⟩
      · rw [Addr.add_lit]; exact (hcc i p h1).1
      · have := (hcc i p h1).2
        rw [Addr.add_lit, ← Nat.add_assoc]; exact this
    obtain ⟨v', w', hrun, r1, r2, _⟩ := run_append_own (P := Tryz.prog) w B 58 ty 142 i0 _ 2 16 Tryz.underlying58 hi hz0 hz1 hz2 rfl (by decide) v M.length (mc M) hown ad L.length cap (mc L) (mc_len L) hnews (mc_one L) (by unfold maxLen; omega) (by omega) hB
    refine ⟨v', w', hrun, ?_, r2⟩
    unfold OM
    rw [List.length_append, mc_app]; exact r1
theorem drew_below {B : Nat} {w : World} : Below B w w.drew := ⟨rfl, rfl, rfl, Nat.le_refl _, fun _ _ => rfl⟩
set_option maxRecDepth 100000 in
set_option maxHeartbeats 1000000 in
theorem grow_any (n : Nat) (w : World) (hn : n ≤ 8796093022208) :
    Calls Tryz.prog 131 #[.slice none 0 0, .int .i64 (n : Int)] w fun e w' => ∃ v, e = .returned v ∧ OM w' w.heap.size v [] ∧ Below w.heap.size w w' := by
  obtain ⟨i0, hi, hz0, hz1, hz2⟩ := info_parts Tryz.infoMk
  by_cases h0 : 0 < n
  · have hrun := fun ty => Lib.run_append_nil_zeros (P := Tryz.prog) w 58 3 ty 142 i0 _ .i64 .i64 Tryz.underlying58 Tryz.underlying3 hi hz0 n h0 (by rw [hz1]; decide) (by omega) (by rw [hz2]; omega)
    have hge := grownCap_ge w n 0 142
    have hle : grownCap w n 0 142 ≤ maxLen := grownCap_le_maxLen w n 0 _ (by unfold maxLen; omega)
    obtain ⟨W, HW⟩ : ∃ W, Hid (w.drew.alloc (.cells (Builtin.zeroCells (Value.agg #[.int .i64 0, .int .i64 0]).cells n ++ Builtin.zeroCells (Value.agg #[.int .i64 0, .int .i64 0]).cells (grownCap w n 0 142 - n)) 142) = W) := ⟨_, hide rfl⟩
    have HO : Hid (OM W w.heap.size (.slice (some ⟨w.heap.size, 0, none⟩) 0 (grownCap w n 0 142)) []) := hide ⟨rfl, .inr ⟨w.heap.size, _, _, rfl, Nat.le_refl _, by rw [← HW.out]; exact alloc_new w.drew _, Nat.zero_le _, hle, by
      rw [Array.size_append, size_zeroCells, size_zeroCells, ← Nat.add_mul]
      rw [show n + (grownCap w n 0 142 - n) = grownCap w n 0 142 by omega]
      rfl, by simp [mc]⟩⟩
    have HB : Hid (Below w.heap.size w W) := hide (by rw [← HW.out]; exact (drew_below (w := w)).alloc (Nat.le_refl _) _)
    rw [HW.out] at hrun
    have HR := hide hrun
    generalize grownCap w n 0 142 = C at *
    have d1 : decide ((n : Int) < 0) = false := by rw [decide_eq_false_iff_not]; omega
    have d2 : decide (0 < (n : Int)) = true := by rw [decide_eq_true_eq]; omega
    have hw0 : wrap64 (n : Int) = (n : Int) := by unfold wrap64; omega
    have hc0 : ¬ C = 0 := by omega
    clear hrun hi hz0 hz1 hz2 HW hle
    go_enter Tryz.func131, Tryz.ntmps131
    go_wp2_with (at_builtin; refine Lib.wpList_append_run _ rfl _ _ _ _ rfl _ _ rfl rfl _ _ (HR.out _) ?_)
    go_ret
    exact ⟨_, rfl, HO.out, HB.out⟩
  · have h1 : n = 0 := by omega
    subst h1
    have HO : Hid (OM w w.heap.size (.slice none 0 0) []) := hide (World.ownsRow_nil w _ _ 2)
    go_enter Tryz.func131, Tryz.ntmps131
    go_wp2_with fail
    go_ret
    exact ⟨_, rfl, HO.out, Below.refl _ _⟩
theorem rm_lt {w : World} {v : Value} {L : List Mk} (h : RM w v L) : ∃ a cap, v = .slice a L.length cap := ⟨_, _, h.choose_spec.choose_spec.1⟩
theorem grown_om {w W W' : World} {B : Nat} {v : Value} {M : List Mk} (hB : Below B w W) (hw : B ≤ w.heap.size) (hO : OM W B v M) (hg : W.grownBy W' v.ownBlock) : Below B w W' :=
  hB.grown hg (Nat.le_trans hw hB.size) (fun k hk => (hO.lt k hk).1)
set_option maxRecDepth 100000 in
set_option maxHeartbeats 4000000 in
theorem concat_any (g : Nat) (v1 v2 v3 : Value) (L1 L2 L3 : List Mk) (w : World) (h1 : RM w v1 L1) (h2 : RM w v2 L2) (h3 : RM w v3 L3) (hg : w.heap[g]? = some (.cells #[v1, v2, v3] 58 (0, 0))) (hl : L1.length + L2.length + L3.length ≤ 1000) :
    Calls Tryz.prog 125 #[.slice (some ⟨g, 0, none⟩) 3 3] w fun e w' => ∃ v, e = .returned v ∧ OM w' w.heap.size v (L1 ++ L2 ++ L3) ∧ Below w.heap.size w w' := by
  have HG := hide hg
  have H1 := hide h1
  have H2 := hide h2
  have H3 := hide h3
  obtain ⟨a1, c1, rfl⟩ := rm_lt h1
  obtain ⟨a2, c2, rfl⟩ := rm_lt h2
  obtain ⟨a3, c3, rfl⟩ := rm_lt h3
  have x0 : w.cell? ⟨g, 0, none⟩ = some (.slice a1 L1.length c1) := by rw [cell_of_row _ _ 0 _ _ _ hg]; rfl
  have x1 : w.cell? ⟨g, 1, none⟩ = some (.slice a2 L2.length c2) := by rw [cell_of_row _ _ 1 _ _ _ hg]; rfl
  have x2 : w.cell? ⟨g, 2, none⟩ = some (.slice a3 L3.length c3) := by rw [cell_of_row _ _ 2 _ _ _ hg]; rfl
  have HGL := hide (blk_lt hg)
  clear hg h1 h2 h3
  obtain ⟨n1, HN1⟩ : ∃ n1, Hid (L1.length = n1) := ⟨_, hide rfl⟩
  obtain ⟨n2, HN2⟩ : ∃ n2, Hid (L2.length = n2) := ⟨_, hide rfl⟩
  obtain ⟨n3, HN3⟩ : ∃ n3, Hid (L3.length = n3) := ⟨_, hide rfl⟩
  rw [HN1.out] at H1 x0
  rw [HN2.out] at H2 x1
  rw [HN3.out] at H3 x2
  rw [HN1.out, HN2.out, HN3.out] at hl
  have w1 : wrap64 (n1 : Int) = (n1 : Int) := by unfold wrap64; omega
  have w2 : wrap64 ((n1 : Int) + (n2 : Int)) = (n1 : Int) + (n2 : Int) := by unfold wrap64; omega
  have w3 : wrap64 ((n1 : Int) + (n2 : Int) + (n3 : Int)) = (n1 : Int) + (n2 : Int) + (n3 : Int) := by unfold wrap64; omega
  have d1 : decide ((n1 : Int) < 0) = false := by rw [decide_eq_false_iff_not]; omega
  have d2 : decide ((n1 : Int) + (n2 : Int) < 0) = false := by rw [decide_eq_false_iff_not]; omega
  have d3 : decide ((n1 : Int) + (n2 : Int) + (n3 : Int) < 0) = false := by rw [decide_eq_false_iff_not]; omega
  have HGR := hide (grow_any (n1 + n2 + n3) w (by omega))
  rw [show ((n1 + n2 + n3 : Nat) : Int) = (n1 : Int) + (n2 : Int) + (n3 : Int) by omega] at HGR
  go_enter Tryz.func125, Tryz.ntmps125
  go_wp2_with fail
  refine wp_loop_rounds 4 ?_
  rw [rounds_succ]
  go_wp2_with fail
  rw [rounds_succ]
  go_wp2_with fail
  rw [rounds_succ]
  go_wp2_with fail
  rw [rounds_succ]
  go_wp2_with fail
  refine HGR.out.mono ?_
  rintro e W0 ⟨v0, rfl, hO0, hB0⟩
  clear HGR
  have HB0 := hide hB0
  have HO0 := hide hO0
  have q1 : RM w (.slice a1 n1 c1) L1 := H1.out
  have q2 : RM w (.slice a2 n2 c2) L2 := H2.out
  have q3 : RM w (.slice a3 n3 c3) L3 := H3.out
  have y0 := (hB0.cell (p := ⟨g, 0, none⟩) HGL.out).trans x0
  obtain ⟨V1, W1, hr1, hO1, hg1⟩ := run_append_rm W0 w.heap.size 58 v0 [] hO0 (.slice a1 n1 c1) L1 (q1.later hB0) (by have := HN1.out; simp; omega) hB0.size
  have hB1 := grown_om hB0 (Nat.le_refl _) hO0 hg1
  have y1 := (hB1.cell (p := ⟨g, 1, none⟩) HGL.out).trans x1
  obtain ⟨V2, W2, hr2, hO2, hg2⟩ := run_append_rm W1 w.heap.size 58 V1 _ hO1 (.slice a2 n2 c2) L2 (q2.later hB1) (by have := HN1.out; have := HN2.out; simp; omega) hB1.size
  have hB2 := grown_om hB1 (Nat.le_refl _) hO1 hg2
  have y2 := (hB2.cell (p := ⟨g, 2, none⟩) HGL.out).trans x2
  obtain ⟨V3, W3, hr3, hO3, hg3⟩ := run_append_rm W2 w.heap.size 58 V2 _ hO2 (.slice a3 n3 c3) L3 (q3.later hB2) (by have := HN1.out; have := HN2.out; have := HN3.out; simp; omega) hB2.size
  have HB3 := hide (grown_om hB2 (Nat.le_refl _) hO2 hg3)
  rw [List.nil_append] at hO3
  have HO3 := hide hO3
  have HR1 := hide hr1
  have HR2 := hide hr2
  have HR3 := hide hr3
  clear hr1 hr2 hr3 hO0 hO1 hO2 hO3 hB0 hB1 hB2 hg1 hg2 hg3 q1 q2 q3 H1 H2 H3 HG HB0 HO0 x0 x1 x2 w1 w2 w3 d1 d2 d3
  go_wp2_with fail
  refine wp_loop_rounds 4 ?_
  rw [rounds_succ]
  go_wp2_with (at_builtin; refine Lib.wpList_append_run _ rfl _ _ _ _ rfl _ _ rfl rfl _ _ HR1.out ?_)
  rw [rounds_succ]
  go_wp2_with (at_builtin; refine Lib.wpList_append_run _ rfl _ _ _ _ rfl _ _ rfl rfl _ _ HR2.out ?_)
  rw [rounds_succ]
  go_wp2_with (at_builtin; refine Lib.wpList_append_run _ rfl _ _ _ _ rfl _ _ rfl rfl _ _ HR3.out ?_)
  rw [rounds_succ]
  go_wp2_with fail
  go_ret
  exact ⟨_, rfl, HO3.out, HB3.out⟩
end Go.Proofs.YtdjhbecbbmdimaaGreatDoor.BL
