/-
  My own text: an entry rises.
-/
import Derived.Test.YtegemfkadclnkaaPA2
namespace Go.Proofs.Ytegemfkadclnkaa
open Go.RowKit

theorem drew_below {B : Nat} {w : World} : Below B w w.drew := ⟨rfl, rfl, rfl, Nat.le_refl _, fun _ _ => rfl⟩
set_option maxRecDepth 100000 in
set_option maxHeartbeats 4000000 in
theorem rise_any {lf : FuncId} {k : Pr → Int} (hl : LOk lf k) (p : Nat) (B hb lb : Nat) (v : Value) (E : List En) (N : Nat) (w : World) (h : HP w B hb lb lf v E N) (hp : p < E.length) (ho : Hole (ltE k) E p) (hlen : E.length ≤ 1152921504606846976) :
    Calls Try.prog 27 #[.pointer (some ⟨hb, 0, none⟩), .int .i64 (p : Int)] w fun e w' => ∃ (q : Nat) (E' : List En), e = .returned (.int .i64 (q : Int)) ∧ q ≤ p ∧ E'.Perm E ∧ Sink (ltE k) E' q ∧ (Ch (ltE k) E p → HeapOk (ltE k) E') ∧ HP w' B hb lb lf v E' N ∧ w.grownBy w' v.ownBlock := by
  have HL := hide hl
  have H0 : Hid (E.Perm E ∧ Hole (ltE k) E p ∧ (Ch (ltE k) E p → Ch (ltE k) E p) ∧ HP w B hb lb lf v E N ∧ w.grownBy w v.ownBlock) := hide ⟨List.Perm.refl _, ho, id, h, gb_refl _ _⟩
  have HLE := hide hlen
  obtain ⟨g, cap, cur, rfl, hB, hh, hq⟩ := h.row.parts (by omega)
  clear hB hh hq h ho hl hlen cur
  go_enter Try.func27, Try.ntmps27
  go_wp2_with fail
  go_loopw [1] (fun i wr => ∃ (r : Nat) (E' : List En), i = .int .i64 (r : Int) ∧ r ≤ p ∧ Hid (E'.Perm E ∧ Hole (ltE k) E' r ∧ (Ch (ltE k) E p → Ch (ltE k) E' r) ∧ HP wr B hb lb lf (.slice (some ⟨g, 0, none⟩) E.length cap) E' N ∧ w.grownBy wr (some g))) (fun i _ => (intOf i).toNat)
  case atStart => exact ⟨p, E, rfl, Nat.le_refl _, H0⟩
  case round =>
    obtain ⟨r, E', rfl, hrp, HR⟩ := hrel
    by_cases hr0 : r = 0
    · subst hr0
      go_wp2_with fail
      go_ret
      obtain ⟨h1, h2, h3, h4, h5⟩ := HR.out
      have hs := h2.sink (fun x y h0 => by omega)
      exact ⟨0, E', rfl, hrp, h1, hs, fun hc => hs.heap (h3 hc), h4, h5⟩
    · have hEl := HR.out.1.length_eq
      obtain ⟨q, HQ⟩ : ∃ q : Nat, Hid (q = (r - 1) / 2) := ⟨_, hide rfl⟩
      have hql : q < r := by have := HQ.out; omega
      obtain ⟨x, hx⟩ : ∃ x, E'[r]? = some x := ⟨_, List.getElem?_eq_getElem (by omega)⟩
      obtain ⟨y, hy⟩ : ∃ y, E'[q]? = some y := ⟨_, List.getElem?_eq_getElem (by omega)⟩
      have d1 : decide ((0 : Int) < (r : Int)) = true := by rw [decide_eq_true_eq]; omega
      have d1' : 0 < r := by omega
      obtain ⟨z, HZ⟩ : ∃ z : Int, Hid (z = (r : Int) - 1) := ⟨_, hide rfl⟩
      have w1 : wrap64 ((r : Int) - 1) = z := by have := HLE.out; have := HZ.out; unfold wrap64; omega
      have w2 : z.tdiv 2 = (q : Int) := by have := HZ.out; have := HQ.out; rw [Int.tdiv_eq_ediv_of_nonneg (by omega)]; omega
      have w3 : wrap64 (q : Int) = (q : Int) := by have := HLE.out; unfold wrap64; omega
      have HX := hide hx
      have HY := hide hy
      have k0 : (0 : Int) ≤ (r : Int) := by omega
      have k1 : (r : Int) < (E.length : Int) := by omega
      have k2 : (0 : Int) ≤ (q : Int) := by omega
      have k3 : (q : Int) < (E.length : Int) := by omega
      clear hx hy hr0
      go_wp2_with fail
      rw [w3]
      clear w1 w2 w3
      have hpw := HR.out.2.2.2.1
      have hro : OE wr B (.slice (some ⟨g, 0, none⟩) E'.length cap) E' := by rw [hEl]; exact hpw.row
      have rx := hro.range HX.out
      have ry := hro.range HY.out
      have bg := blk_lt hpw.hdr
      have gg : g < wr.heap.size := (hpw.row.lt g rfl).2
      have c0 : ∀ W : Gr wr, W.1.cell? ⟨hb, 0, none⟩ = some (.slice (some ⟨g, 0, none⟩) E.length cap) := fun W => (W.2.cell (p := ⟨hb, 0, none⟩) bg).trans hpw.c0
      have c1 : ∀ W : Gr wr, W.1.cell? ⟨hb, 1, none⟩ = some (.func (Fn.func 23) #[] #[.pointer (some ⟨lb, 0, none⟩)]) := fun W => (W.2.cell (p := ⟨hb, 1, none⟩) bg).trans hpw.c1
      have x0 : ∀ W : Gr wr, W.1.cell? ⟨g, r * 3, none⟩ = some (.int .i64 x.1.1) := fun W => (W.2.cell (p := ⟨g, _, none⟩) gg).trans (rx 0 _ rfl)
      have x1 : ∀ W : Gr wr, W.1.cell? ⟨g, r * 3 + 1, none⟩ = some (.int .i64 x.1.2) := fun W => (W.2.cell (p := ⟨g, _, none⟩) gg).trans (rx 1 _ rfl)
      have x2 : ∀ W : Gr wr, W.1.cell? ⟨g, r * 3 + 2, none⟩ = some (.int .i64 (x.2 : Int)) := fun W => (W.2.cell (p := ⟨g, _, none⟩) gg).trans (rx 2 _ rfl)
      have y0 : ∀ W : Gr wr, W.1.cell? ⟨g, q * 3, none⟩ = some (.int .i64 y.1.1) := fun W => (W.2.cell (p := ⟨g, _, none⟩) gg).trans (ry 0 _ rfl)
      have y1 : ∀ W : Gr wr, W.1.cell? ⟨g, q * 3 + 1, none⟩ = some (.int .i64 y.1.2) := fun W => (W.2.cell (p := ⟨g, _, none⟩) gg).trans (ry 1 _ rfl)
      have y2 : ∀ W : Gr wr, W.1.cell? ⟨g, q * 3 + 2, none⟩ = some (.int .i64 (y.2 : Int)) := fun W => (W.2.cell (p := ⟨g, _, none⟩) gg).trans (ry 2 _ rfl)
      have HA := hide (fun W : Gr wr => ahead_any HL.out x y lb W.1 (blk_later hpw.les W.2))
      unfold ev at HA
      have HG0 := hide (drew_below (B := wr.heap.size) (w := wr))
      clear hpw hro rx ry bg gg
      have hne : Nonempty (Gr wr) := ⟨⟨_, HG0.out⟩⟩
      refine region_class (C := fun w' => ∃ x : Gr wr, w' = x.1) (by kernel_rfl) (by kernel_rfl) ⟨⟨_, HG0.out⟩, rfl⟩ ?_
      repeat (first
        | go_big_quiet_skip
        | (go_big_quiet_want; (go_big_quiet_op; first
            | go_big_quiet_on
            | (apply Exists.intro; refine ⟨fun x => ?_, ?_⟩; (go_at_call 23; exact x.call (HA.out x)); go_big_quiet_on))))
      refine wpQuiet_nil ?_
      rintro w8 ⟨X, rfl⟩
      obtain ⟨w8, hx8⟩ := X
      dsimp only
      have HW8 := hide hx8
      clear x0 x1 x2 y0 y1 y2 c0 c1 hx8 HA HG0 hne
      cases hb8 : ltE k x y with
      | false =>
        go_wp2_with fail
        go_ret
        obtain ⟨h1, h2, h3, h4, h5⟩ := HR.out
        have hs := h2.sink (fun a b _ ha hb' => by
          rw [HX.out] at ha; rw [← HQ.out, HY.out] at hb'; cases ha; cases hb'; exact hb8)
        exact ⟨r, E', rfl, hrp, h1, hs, fun hc => hs.heap (h3 hc), h4.later HW8.out, gb_trans h5 (gb_below _ HW8.out)⟩
      | true =>
        have HB8 := hide hb8
        have HSW := hide (swap_any r q x y B hb lb lf (.slice (some ⟨g, 0, none⟩) E.length cap) E' N w8 (HR.out.2.2.2.1.later HW8.out) HX.out HY.out)
        clear hb8
        go_wp2_with fail
        refine HSW.out.mono ?_
        rintro e w9 ⟨⟨u, rfl⟩, hs1, hs2⟩
        have H9 : Hid (_ ∧ _ ∧ _ ∧ _ ∧ _) := hide (And.intro ((sw_perm HX.out HY.out).trans HR.out.1) (And.intro (by have := HR.out.2.1.up (ltE_so k) d1' HX.out (by rw [← HQ.out]; exact HY.out) HB8.out; rw [← HQ.out] at this; exact this.1) (And.intro (fun _ : Ch (ltE k) E p => by have := HR.out.2.1.up (ltE_so k) d1' HX.out (by rw [← HQ.out]; exact HY.out) HB8.out; rw [← HQ.out] at this; exact this.2) (And.intro hs1 (gb_trans HR.out.2.2.2.2 (gb_trans (gb_below _ HW8.out) hs2))))))
        clear hs1 hs2
        go_wp2_with fail
        go_roundw
        case rel => exact ⟨q, _, rfl, by omega, H9⟩
        case measure => simp [intOf]; omega
end Go.Proofs.Ytegemfkadclnkaa
