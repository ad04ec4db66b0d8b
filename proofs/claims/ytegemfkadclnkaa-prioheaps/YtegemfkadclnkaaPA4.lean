/-
  My own text: the first of three places; an entry sinks.
-/
import Derived.Test.YtegemfkadclnkaaPA3
namespace Go.Proofs.Ytegemfkadclnkaa
open Go.RowKit

/-- m is the first of p and the t places from 2p + 1 on. -/
structure Bst {ε : Type} (lt : ε → ε → Bool) (E : List ε) (p t m : Nat) : Prop where
  at_ : m = p ∨ (2 * p + 1 ≤ m ∧ m < 2 * p + 1 + t)
  len : m < E.length
  low : ∀ j x y, 2 * p + 1 ≤ j → j < 2 * p + 1 + t → E[j]? = some x → E[m]? = some y → lt x y = false
  top : ∀ x y, E[p]? = some x → E[m]? = some y → lt x y = false
  ahead : m ≠ p → ∀ x y, E[p]? = some x → E[m]? = some y → lt y x = true
theorem Bst.zero {ε : Type} {lt : ε → ε → Bool} (ho : SO lt) {E : List ε} {p : Nat} (hp : p < E.length) : Bst lt E p 0 p :=
  ⟨.inl rfl, hp, fun j _ _ h1 h2 => by omega, fun x y hx hy => by rw [hx] at hy; cases hy; exact ho.irr _, fun h => absurd rfl h⟩
theorem Bst.same {ε : Type} {lt : ε → ε → Bool} {E : List ε} {p t m : Nat} (h : Bst lt E p t m) (hn : ∀ x y, E[2 * p + 1 + t]? = some x → E[m]? = some y → lt x y = false) : Bst lt E p (t + 1) m :=
  ⟨by have := h.at_; omega, h.len, fun j x y h1 h2 hx hy => by
    by_cases hj : j = 2 * p + 1 + t
    · subst hj; exact hn x y hx hy
    · exact h.low j x y h1 (by omega) hx hy, h.top, h.ahead⟩
theorem Bst.next {ε : Type} {lt : ε → ε → Bool} (ho : SO lt) {E : List ε} {p t m : Nat} (h : Bst lt E p t m) {c y : ε} (hc : E[2 * p + 1 + t]? = some c) (hy : E[m]? = some y) (hl : lt c y = true) : Bst lt E p (t + 1) (2 * p + 1 + t) := by
  refine ⟨by omega, (List.getElem?_eq_some_iff.1 hc).1, fun j x z h1 h2 hx hz => ?_, fun x z hx hz => ?_, fun _ x z hx hz => ?_⟩
  · rw [hc] at hz; cases hz
    by_cases hj : j = 2 * p + 1 + t
    · subst hj; rw [hc] at hx; cases hx; exact ho.irr _
    · exact ho.lt_neg (h.low j x y h1 (by omega) hx hy) hl
  · rw [hc] at hz; cases hz
    exact ho.lt_neg (h.top x y hx hy) hl
  · rw [hc] at hz; cases hz
    by_cases hm : m = p
    · subst hm; rw [hx] at hy; cases hy; exact hl
    · have h2 := h.ahead hm x y hx hy
      cases e : lt c x with
      | true => rfl
      | false => have := ho.neg c x y e (ho.asym y x h2); rw [hl] at this; cases this
set_option maxRecDepth 100000 in
set_option maxHeartbeats 4000000 in
theorem firstOf_any {lf : FuncId} {k : Pr → Int} (hl : LOk lf k) (p ob : Nat) (B hb lb : Nat) (v : Value) (E : List En) (N : Nat) (w : World) (h : HP w B hb lb lf v E N) (hp : p < E.length) (hlen : E.length ≤ 1152921504606846976)
    (ho : ob < w.heap.size) (hc : ∀ t : Nat, t < 2 → w.cell? ⟨ob, t, none⟩ = some (.int .i64 ((2 * p + 1 + t : Nat) : Int))) :
    Calls Try.prog 33 #[.pointer (some ⟨hb, 0, none⟩), .int .i64 (p : Int), .slice (some ⟨ob, 0, none⟩) 2 2] w fun e w' => ∃ m : Nat, e = .returned (.int .i64 (m : Int)) ∧ Bst (ltE k) E p 2 m ∧ Below w.heap.size w w' := by
  have HL := hide hl
  have HLE := hide hlen
  have HC := hide hc
  have HP0 := hide h
  have H0 : Hid (Bst (ltE k) E p 0 p ∧ Below w.heap.size w w) := hide ⟨Bst.zero (ltE_so k) hp, Below.refl _ _⟩
  have HOB := hide ho
  obtain ⟨g, cap, cur, rfl, hB, hh, hq⟩ := h.row.parts (by omega)
  clear hB hh hq h hl hlen cur hc ho
  go_enter Try.func33, Try.ntmps33
  go_wp2_with fail
  go_loopw [1, 11] (fun i j wr => ∃ (m t : Nat), i = .int .i64 (m : Int) ∧ j = .int .i64 (t : Int) ∧ t ≤ 2 ∧ Hid (Bst (ltE k) E p t m ∧ Below w.heap.size w wr)) (fun _ j _ => 2 - (intOf j).toNat)
  case atStart => exact ⟨p, 0, rfl, rfl, by omega, H0⟩
  case round =>
    obtain ⟨m, t, rfl, rfl, ht, HR⟩ := hrel
    by_cases ht2 : t = 2
    · subst ht2
      go_wp2_with fail
      go_ret
      exact ⟨m, rfl, HR.out.1, HR.out.2⟩
    · have d1 : decide ((t : Int) < 2) = true := by rw [decide_eq_true_eq]; omega
      have d1' : t < 2 := by omega
      obtain ⟨c, HCC⟩ : ∃ c : Nat, Hid (c = 2 * p + 1 + t) := ⟨_, hide rfl⟩
      have q0 : wr.cell? ⟨ob, t, none⟩ = some (.int .i64 (c : Int)) := by rw [HCC.out]; exact (HR.out.2.cell (p := ⟨ob, t, none⟩) HOB.out).trans (HC.out t d1')
      have k0 : (0 : Int) ≤ (t : Int) := by omega
      have k1 : (t : Int) < 2 := by omega
      have wt : wrap64 ((t : Int) + 1) = (t : Int) + 1 := by unfold wrap64; omega
      have hml := HR.out.1.len
      obtain ⟨y, hy⟩ : ∃ y, E[m]? = some y := ⟨_, List.getElem?_eq_getElem hml⟩
      have HY := hide hy
      go_wp2_with fail
      have hpw := HP0.out.later HR.out.2
      have bg := blk_lt hpw.hdr
      have gg : g < wr.heap.size := (hpw.row.lt g rfl).2
      have c0 : ∀ W : Gr wr, W.1.cell? ⟨hb, 0, none⟩ = some (.slice (some ⟨g, 0, none⟩) E.length cap) := fun W => (W.2.cell (p := ⟨hb, 0, none⟩) bg).trans hpw.c0
      have c1 : ∀ W : Gr wr, W.1.cell? ⟨hb, 1, none⟩ = some (.func (Fn.func 23) #[] #[.pointer (some ⟨lb, 0, none⟩)]) := fun W => (W.2.cell (p := ⟨hb, 1, none⟩) bg).trans hpw.c1
      have ry := OE.range hpw.row HY.out
      have y0 : ∀ W : Gr wr, W.1.cell? ⟨g, m * 3, none⟩ = some (.int .i64 y.1.1) := fun W => (W.2.cell (p := ⟨g, _, none⟩) gg).trans (ry 0 _ rfl)
      have y1 : ∀ W : Gr wr, W.1.cell? ⟨g, m * 3 + 1, none⟩ = some (.int .i64 y.1.2) := fun W => (W.2.cell (p := ⟨g, _, none⟩) gg).trans (ry 1 _ rfl)
      have y2 : ∀ W : Gr wr, W.1.cell? ⟨g, m * 3 + 2, none⟩ = some (.int .i64 (y.2 : Int)) := fun W => (W.2.cell (p := ⟨g, _, none⟩) gg).trans (ry 2 _ rfl)
      have HG0 := hide (drew_below (B := wr.heap.size) (w := wr))
      have hne : Nonempty (Gr wr) := ⟨⟨_, HG0.out⟩⟩
      have k2 : (0 : Int) ≤ (m : Int) := by omega
      have k3 : (m : Int) < (E.length : Int) := by omega
      have HPW := hide hpw
      by_cases hcl : c < E.length
      · have d2 : decide ((c : Int) < (E.length : Int)) = true := by rw [decide_eq_true_eq]; omega
        obtain ⟨x, hx⟩ : ∃ x, E[c]? = some x := ⟨_, List.getElem?_eq_getElem hcl⟩
        have HX := hide hx
        have rx := OE.range hpw.row HX.out
        have x0 : ∀ W : Gr wr, W.1.cell? ⟨g, c * 3, none⟩ = some (.int .i64 x.1.1) := fun W => (W.2.cell (p := ⟨g, _, none⟩) gg).trans (rx 0 _ rfl)
        have x1 : ∀ W : Gr wr, W.1.cell? ⟨g, c * 3 + 1, none⟩ = some (.int .i64 x.1.2) := fun W => (W.2.cell (p := ⟨g, _, none⟩) gg).trans (rx 1 _ rfl)
        have x2 : ∀ W : Gr wr, W.1.cell? ⟨g, c * 3 + 2, none⟩ = some (.int .i64 (x.2 : Int)) := fun W => (W.2.cell (p := ⟨g, _, none⟩) gg).trans (rx 2 _ rfl)
        have k4 : (0 : Int) ≤ (c : Int) := by omega
        have k5 : (c : Int) < (E.length : Int) := by omega
        have HA := hide (fun W : Gr wr => ahead_any HL.out x y lb W.1 (blk_later hpw.les W.2))
        unfold ev at HA
        clear rx ry bg gg hx hy hpw
        refine region_class (C := fun w' => ∃ x : Gr wr, w' = x.1) (by kernel_rfl) (by kernel_rfl) ⟨⟨_, HG0.out⟩, rfl⟩ ?_
        repeat (first
          | go_big_quiet_skip
          | (go_big_quiet_want; (go_big_quiet_op; first
              | go_big_quiet_on
              | (apply Exists.intro; refine ⟨fun x => ?_, ?_⟩; (go_at_call 23; exact x.call (HA.out x)); go_big_quiet_on))))
        refine wpQuiet_nil ?_
        rintro w8 ⟨X, rfl⟩
        obtain ⟨w8, hx8⟩ := X
        dsimp only
        have HW8 := hide hx8
        clear x0 x1 x2 y0 y1 y2 c0 c1 hx8 HA HG0 hne q0
        have H8 := hide (HR.out.2.trans (HW8.out.mono HR.out.2.size))
        cases hb8 : ltE k x y with
        | false =>
          have HB8 := hide hb8
          clear hb8
          go_wp2_with fail
          go_roundw
          case rel => exact ⟨m, t + 1, rfl, by go_num, by omega, hide ⟨HR.out.1.same (fun a b ha hb' => by rw [← HCC.out, HX.out] at ha; rw [HY.out] at hb'; cases ha; cases hb'; exact HB8.out), H8.out⟩⟩
          case measure => simp [intOf]; omega
        | true =>
          have HB8 := hide hb8
          clear hb8
          go_wp2_with fail
          go_roundw
          case rel => exact ⟨c, t + 1, rfl, by go_num, by omega, hide ⟨by rw [HCC.out]; exact HR.out.1.next (ltE_so k) (by rw [← HCC.out]; exact HX.out) HY.out HB8.out, H8.out⟩⟩
          case measure => simp [intOf]; omega
      · have d2 : decide ((c : Int) < (E.length : Int)) = false := by rw [decide_eq_false_iff_not]; omega
        clear ry bg gg hy hpw y0 y1 y2 c1
        refine region_class (C := fun w' => ∃ x : Gr wr, w' = x.1) (by kernel_rfl) (by kernel_rfl) ⟨⟨_, HG0.out⟩, rfl⟩ ?_
        repeat (first
          | go_big_quiet_skip
          | (go_big_quiet_want; (go_big_quiet_op; go_big_quiet_on)))
        refine wpQuiet_nil ?_
        rintro w8 ⟨X, rfl⟩
        obtain ⟨w8, hx8⟩ := X
        dsimp only
        have HW8 := hide hx8
        clear c0 hx8 HG0 hne q0
        have H8 := hide (HR.out.2.trans (HW8.out.mono HR.out.2.size))
        go_wp2_with fail
        go_roundw
        case rel => exact ⟨m, t + 1, rfl, by go_num, by omega, hide ⟨HR.out.1.same (fun a b ha _ => by have := (List.getElem?_eq_some_iff.1 ha).1; have := HCC.out; omega), H8.out⟩⟩
        case measure => simp [intOf]; omega
end Go.Proofs.Ytegemfkadclnkaa
