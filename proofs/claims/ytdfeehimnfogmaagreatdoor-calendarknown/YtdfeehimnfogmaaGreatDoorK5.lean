/-
  My own text: what the closed law asks of a calendar that is free for more than a year: its walk.
-/
import Derived.Test.YtdfeehimnfogmaaGreatDoorK4
namespace Go.Proofs.YtdfeehimnfogmaaGreatDoor
open Go.RowKit

def no7 (_ : Nat) : Bool := false
theorem rcellsN {W : World} {D : Nat} {v : Value} {t : TypeId} (h : Blk W D (dcells no7 v) t) :
    W.cell? ⟨D, 0, none⟩ = some (.bool false) ∧ W.cell? ⟨D, 1, none⟩ = some (.bool false) ∧ W.cell? ⟨D, 2, none⟩ = some (.bool false) ∧ W.cell? ⟨D, 3, none⟩ = some (.bool false) ∧ W.cell? ⟨D, 4, none⟩ = some (.bool false) ∧ W.cell? ⟨D, 5, none⟩ = some (.bool false) ∧ W.cell? ⟨D, 6, none⟩ = some (.bool false) ∧ W.cell? ⟨D, 7, none⟩ = some v := rcells h
theorem Held2.askN {w5 : World} {p b R : Nat} {a : Option Addr} {n cap : Nat} {l : List Int} (h : Held2 w5 p b R no7 a n cap l) (o kd x y : Int) (W : World) (hW : Below w5.heap.size w5 W) (y1 : -9223372036854775808 ≤ y) (y2 : y ≤ 9223372036854775807) :
    Calls Tryz.prog 28 #[.pointer (some ⟨p, 0, none⟩), .agg #[.bool false, .bool false, .bool false, .bool false, .bool false, .bool false, .bool false, .slice a n cap], .agg #[.int .i64 o, .int .i64 kd, .int .i64 x, .int .i64 y]] W fun e w' => e = .returned (.bool true) ∧ Below W.heap.size W w' := h.ask o kd x y W hW y1 y2
theorem held_N (a : Option Addr) (n cap : Nat) (l : List Int) (w : World) (hn : l.length = n) (HV : Hid (RI w .i64 (.slice a n cap) l)) (hl : n ≤ 17592186043904) (hb : ∀ x ∈ l, -9223372036854775808 ≤ x ∧ x ≤ 9223372036854775807) :
    Calls Tryz.prog 27 #[.agg #[.bool false, .bool false, .bool false, .bool false, .bool false, .bool false, .bool false, .slice a n cap]] w fun e w' => (∃ p b, e = .returned (.tuple #[.pointer (some ⟨p, 0, none⟩), .agg #[.bool false, .bool false, .bool false, .bool false, .bool false, .bool false, .bool false, .slice a n cap], .bool true]) ∧ Cal w' p b no7 (FL no7 l)) ∧ Below w.heap.size w w' := by
  subst hn
  exact held_any no7 a cap l w HV hl hb
set_option maxRecDepth 100000 in
set_option maxHeartbeats 4000000 in
theorem year_known (w : World) (hL : Lies w) :
    Calls Tryz.prog 9 #[] w fun e w' => e = .returned (.bool true) ∧ Below w.heap.size w w' := by
  have HL := hide hL
  obtain ⟨i0, hi, hz0, hz1, hz2⟩ := info_parts Tryz.infoI
  have HD0 : Hid (Blk (w.alloc (.cells (dcells no7 (.slice none 0 0)) 50)) w.heap.size (dcells no7 (.slice none 0 0)) 50) := hide (Blk.new _ _ _)
  have HB0 : Hid (Below w.heap.size w (w.alloc (.cells (dcells no7 (.slice none 0 0)) 50))) := hide ((Below.refl _ _).alloc (Nat.le_refl _) _)
  have HO0 : Hid ((w.alloc (.cells (dcells no7 (.slice none 0 0)) 50)).ownsRow (w.heap.size + 1) 3 1 (.slice none 0 0) 0 (lv .i64 (sl 738521 0))) := hide (World.ownsRow_nil _ _ _ _)
  clear hL
  go_enter Tryz.func9, Tryz.ntmps9
  go_wp2_with fail
  go_loopw [2] (fun m wr => ∃ (j : Nat) (v : Value), j ≤ 381 ∧ m = .int .i64 j ∧ Hid (Below w.heap.size w wr) ∧ Hid (Blk wr w.heap.size (dcells no7 v) 50) ∧ Hid (wr.ownsRow (w.heap.size + 1) 3 1 v j (lv .i64 (sl 738521 j)))) (fun m _ => (381 - intOf m).toNat)
  case atStart => exact ⟨0, .slice none 0 0, by omega, rfl, HB0, HD0, HO0⟩
  case round =>
    clear HB0 HD0 HO0
    obtain ⟨j, v, hj, rfl, HB3, HD, HO⟩ := hrel
    obtain ⟨ad, cap, rfl⟩ := own_slice HO.out
    by_cases hjl : j < 381
    · have hd3 : decide ((j : Int) < 381) = true := by rw [decide_eq_true_eq]; omega
      have b7 : wr.cell? ⟨w.heap.size, 7, none⟩ = some (.slice ad j cap) := HD.out.cell 7
      have f7 := HD.out.free 7
      have hs1 : w.heap.size < wr.heap.size := HD.out.lt
      go_wp2_with (first
        | (at_builtin; refine wpList_append_own _ rfl _ _ 40 rfl _ 3 i0 (.int .i64 0) 1 8 Tryz.underlying40 hi hz0 hz1 hz2 rfl (by decide) _ _ _ rfl (HO.out.alloc _) ⟨_, 0, none⟩ 1 1 [.int .i64 (738521 + (j : Int))] rfl rfl ?c1 ?c2 ?c3 ?c4 ?c5 ?_)
        | go_in)
      case c1 =>
        intro j u hj
        match j, hj with
        | 0, hj => simp at hj; subst hj; simp [Addr.add]
      case c2 => first | exact ⟨rfl, rfl⟩ | (intro u hu; simp at hu; subst hu; rfl)
      case c3 => unfold maxLen; omega
      case c4 => omega
      case c5 => simp; omega
      intro v2 w4 hown2 hgrow2 _
      have HB4 := hide ((HB3.out.alloc HB3.out.size (.cells #[.int .i64 (738521 + (j : Int))] 3)).grown hgrow2 (by simp; omega) (fun j hj => by have := (HO.out.lt j hj).1; omega))
      have HD4 := hide ((HD.out.alloc (.cells #[.int .i64 (738521 + (j : Int))] 3)).kept hgrow2 (ownKind (HO.out.alloc _)) (by decide))
      have HO4 : Hid (w4.ownsRow (w.heap.size + 1) 3 1 v2 (j + 1) (lv .i64 (sl 738521 (j + 1)))) := by rw [sl_succ]; exact hide hown2
      obtain ⟨ad2, cap2, rfl⟩ := own_slice HO4.out
      clear hown2 hgrow2 HB3 HO HD b7 f7
      have b7 : w4.cell? ⟨w.heap.size, 7, none⟩ = some (.slice ad j cap) := HD4.out.cell 7
      have f7 := HD4.out.free 7
      have HD5 : Hid (Blk (w4.setCell ⟨w.heap.size, 7, none⟩ (.slice ad2 (j + 1) cap2)) w.heap.size (dcells no7 (.slice ad2 (j + 1) cap2)) 50) := hide (HD4.out.set 7 _)
      go_wp2_with fail
      go_roundw
      case rel => exact ⟨j + 1, .slice ad2 (j + 1) cap2, by omega, by go_num, hide (HB4.out.setCell (p := ⟨w.heap.size, 7, none⟩) (Nat.le_refl _) _), HD5, hide (ownsRow_setCell_below HO4.out (a := ⟨w.heap.size, 7, none⟩) (by simp) _)⟩
      case measure => simp [intOf]; omega
    · have hj' : j = 381 := by omega
      subst hj'
      rw [show ((381 : Nat) : Int) = 381 from rfl]
      obtain ⟨w4, hw4⟩ : ∃ x, x = wr := ⟨_, rfl⟩
      subst hw4
      have HR4 : Hid (RI w4 .i64 (.slice ad 381 cap) (sl 738521 381)) := hide (ri_of_owns HO.out)
      have HH := hide (held_N ad 381 cap (sl 738521 381) w4 (sl_len _ _) HR4 (by omega) (sl_in _ _ (by omega) (by omega) (by omega)))
      obtain ⟨b0, b1, b2, b3, b4, b5, b6, b7⟩ := rcellsN HD.out
      clear HO HD
      go_wp2_with fail
      clear b0 b1 b2 b3 b4 b5 b6 b7
      refine HH.out.mono ?_
      rintro e w5 ⟨⟨p, b, rfl, hcal⟩, hb5⟩
      have HQ : Hid (Held2 (w5.alloc (.cells (dcells no7 (.slice ad 381 cap)) 51)) p b w5.heap.size no7 ad 381 cap (sl 738521 381)) := hide (by
        have h0 : Below w5.heap.size w5 (w5.alloc (.cells (dcells no7 (.slice ad 381 cap)) 51)) := (Below.refl _ _).alloc (Nat.le_refl _) _
        exact ⟨HL.out.below (below_on (below_on HB3.out hb5 (Nat.le_refl _)) h0 (Nat.le_refl _)), sl_len _ _, by omega, hcal.later h0, (HR4.out.later hb5).later h0, Blk.new _ _ _⟩)
      have HB6 := hide (below_new (below_on HB3.out hb5 (Nat.le_refl _)) (Nat.le_refl _) (.cells (dcells no7 (.slice ad 381 cap)) 51))
      clear HH HR4 hcal hb5
      go_wp2_with fail
      obtain ⟨w6, hw6⟩ : ∃ x, x = (w5.alloc (.cells (dcells no7 (.slice ad 381 cap)) 51)) := ⟨_, rfl⟩
      rw [← hw6] at HQ HB6
      go_loopw [6] (fun m wr => ∃ t : Int, 738515 ≤ t ∧ t ≤ 738914 ∧ m = .int .i64 t ∧ Hid (Below w6.heap.size w6 wr)) (fun m _ => (738915 - intOf m).toNat)
      case atStart => exact ⟨738515, by omega, by omega, rfl, hide (by rw [hw6]; exact Below.refl _ _)⟩
      case round =>
        obtain ⟨t, t0, t1, rfl, HB7⟩ := hrel
        by_cases htl : t < 738910
        · have hd4 : decide (t < 738910) = true := by rw [decide_eq_true_eq]; omega
          go_wp2_with fail
          go_loopw [7] (fun m wr => ∃ s : Int, 0 ≤ s ∧ s ≤ 4 ∧ m = .int .i64 s ∧ Hid (Below w6.heap.size w6 wr)) (fun m _ => (4 - intOf m).toNat)
          case atStart => exact ⟨0, by omega, by omega, rfl, HB7⟩
          case round =>
            clear HB7
            obtain ⟨s, s0, s1, rfl, HB7⟩ := hrel
            by_cases hsl : s < 4
            · have hd5 : decide (s < 4) = true := by rw [decide_eq_true_eq]; omega
              obtain ⟨b0, b1, b2, b3, b4, b5, b6, b7⟩ := rcellsN (HQ.out.blk.later HB7.out)
              go_wp2_with fail
              clear b0 b1 b2 b3 b4 b5 b6 b7
              refine (HQ.out.askN _ _ _ _ _ HB7.out (by omega) (by omega)).mono ?_
              rintro e v1 ⟨rfl, hb⟩
              have hB8 := below_on HB7.out hb (Nat.le_refl _)
              clear hb
              obtain ⟨b0, b1, b2, b3, b4, b5, b6, b7⟩ := rcellsN (HQ.out.blk.later hB8)
              go_wp2_with fail
              clear b0 b1 b2 b3 b4 b5 b6 b7
              refine (HQ.out.askN _ _ _ _ _ hB8 (by omega) (by omega)).mono ?_
              rintro e v2 ⟨rfl, hb⟩
              have hB9 := below_on hB8 hb (Nat.le_refl _)
              clear hb
              go_wp2_with fail
              go_roundw
              case rel => exact ⟨s + 1, by omega, by omega, by go_num, hide hB9⟩
              case measure => simp [intOf]; omega
            · have hs' : s = 4 := by omega
              subst hs'
              go_wp2_with fail
              go_roundw
              case rel => exact ⟨t + 5, by omega, by omega, by go_num, HB7⟩
              case measure => simp [intOf]; omega
        · have hd4 : decide (t < 738910) = false := by rw [decide_eq_false_iff_not]; omega
          obtain ⟨b0, b1, b2, b3, b4, b5, b6, b7⟩ := rcellsN (HQ.out.blk.later HB7.out)
          go_wp2_with fail
          clear b0 b1 b2 b3 b4 b5 b6 b7
          refine (HQ.out.askN _ _ _ _ _ HB7.out (by omega) (by omega)).mono ?_
          rintro e v1 ⟨rfl, hb⟩
          have hB8 := below_on HB6.out (below_on HB7.out hb (Nat.le_refl _)) (Nat.le_refl _)
          clear hb
          go_wp2_with fail
          refine (stretches_known _ (HL.out.below hB8)).mono ?_
          rintro e v2 ⟨rfl, hb⟩
          go_wp2_with fail
          go_ret
          exact ⟨rfl, below_on hB8 hb (Nat.le_refl _)⟩
end Go.Proofs.YtdfeehimnfogmaaGreatDoor
