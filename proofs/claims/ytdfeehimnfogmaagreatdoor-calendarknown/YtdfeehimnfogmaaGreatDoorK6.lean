/-
  My own text: what the closed law asks about TARGET: its walk.
-/
import Derived.Test.YtdfeehimnfogmaaGreatDoorK5
import Derived.Deep.RegionHeld3
namespace Go.Proofs.YtdfeehimnfogmaaGreatDoor
open Go.RowKit

/-- Questions in a row of cells, four each. -/
def AskRow (xs : List Value) (n : Nat) : Prop := ∀ j, j < n → ∃ o kd x y : Int, xs[4 * j]? = some (.int .i64 o) ∧ xs[4 * j + 1]? = some (.int .i64 kd) ∧ xs[4 * j + 2]? = some (.int .i64 x) ∧ xs[4 * j + 3]? = some (.int .i64 y) ∧ -9223372036854775808 ≤ y ∧ y ≤ 9223372036854775807
theorem AskRow.two {xs : List Value} {n : Nat} (h : AskRow xs n) (hl : xs.length = n * 4) (q r : Int) (r0 : -9223372036854775808 ≤ r) (r1 : r ≤ 9223372036854775807) :
    AskRow (xs ++ [.int .i64 0, .int .i64 0, .int .i64 q, .int .i64 0, .int .i64 0, .int .i64 2, .int .i64 q, .int .i64 r]) (n + 2) := by
  intro j hj
  have ht : ∀ i, (xs ++ [.int .i64 0, .int .i64 0, .int .i64 q, .int .i64 0, .int .i64 0, .int .i64 2, .int .i64 q, .int .i64 r])[xs.length + i]? = ([.int .i64 0, .int .i64 0, .int .i64 q, .int .i64 0, .int .i64 0, .int .i64 2, .int .i64 q, .int .i64 r] : List Value)[i]? := fun i => by rw [List.getElem?_append_right (by omega), Nat.add_sub_cancel_left]
  by_cases h1 : j < n
  · obtain ⟨o, kd, x, y, c0, c1, c2, c3, y1, y2⟩ := h j h1
    exact ⟨o, kd, x, y, by rw [List.getElem?_append_left (by omega)]; exact c0, by rw [List.getElem?_append_left (by omega)]; exact c1, by rw [List.getElem?_append_left (by omega)]; exact c2, by rw [List.getElem?_append_left (by omega)]; exact c3, y1, y2⟩
  · by_cases h2 : j = n
    · subst h2
      exact ⟨0, 0, q, 0, by rw [show 4 * j = xs.length + 0 by omega, ht]; rfl, by rw [show 4 * j + 1 = xs.length + 1 by omega, ht]; rfl, by rw [show 4 * j + 2 = xs.length + 2 by omega, ht]; rfl, by rw [show 4 * j + 3 = xs.length + 3 by omega, ht]; rfl, by omega, by omega⟩
    · have h3 : j = n + 1 := by omega
      subst h3
      exact ⟨0, 2, q, r, by rw [show 4 * (n + 1) = xs.length + 4 by omega, ht]; rfl, by rw [show 4 * (n + 1) + 1 = xs.length + 5 by omega, ht]; rfl, by rw [show 4 * (n + 1) + 2 = xs.length + 6 by omega, ht]; rfl, by rw [show 4 * (n + 1) + 3 = xs.length + 7 by omega, ht]; rfl, r0, r1⟩
theorem ra_of_row {w : World} {B n : Nat} {e : TypeId} {v : Value} {xs : List Value} (h : w.ownsRow B e 4 v n xs) (ha : AskRow xs n) : ∃ a cap, v = .slice a n cap ∧ RA w a n := by
  have h0 := h
  rcases h.2 with ⟨rfl, rfl⟩ | ⟨g, cap, cur, rfl, hb, hh, _⟩
  · exact ⟨none, 0, rfl, .inl rfl⟩
  · refine ⟨_, cap, rfl, .inr ⟨g, 0, rfl, ?_, fun j hj => ?_⟩⟩
    · by_cases hc : g < w.heap.size
      · exact hc
      · rw [Array.getElem?_eq_none (by omega)] at hh; cases hh
    · obtain ⟨o, kd, x, y, c0, c1, c2, c3, y1, y2⟩ := ha j hj
      exact ⟨o, kd, x, y, by rw [Nat.zero_add, h0.cellAt _ (by omega)]; exact c0, by rw [Nat.zero_add, h0.cellAt _ (by omega)]; exact c1, by rw [Nat.zero_add, h0.cellAt _ (by omega)]; exact c2, by rw [Nat.zero_add, h0.cellAt _ (by omega)]; exact c3, y1, y2⟩
theorem Tryz.infoAsk : (Tryz.prog.info? 56).map (fun i => (i.zero, i.size, i.bytes)) = some (some (.agg #[.int .i64 0, .int .i64 0, .int .i64 0, .int .i64 0]), 4, 32) := by kernel_rfl
theorem first_b {t : Int} (t0 : 2020 ≤ t) (t1 : t ≤ 2030) : 737425 ≤ numV t 1 1 ∧ numV t 1 1 ≤ 3652059 := by
  have hr : rightB t 1 1 = true := right_first (by omega) (by omega)
  rw [(num_ok hr).1]
  have h1 := num_b ((rightB_iff t 1 1).1 hr).1 ((rightB_iff t 1 1).1 hr).2
  have h2 := aheadY_mono t0
  have h3 : aheadY 2020 = 737424 := by decide
  rw [num_first] at h1 ⊢
  omega
theorem RA.new4 (w : World) (t : TypeId) : RA (w.alloc (.cells #[.int .i64 0, .int .i64 0, .int .i64 1, .int .i64 0, .int .i64 0, .int .i64 0, .int .i64 3652058, .int .i64 0, .int .i64 0, .int .i64 1, .int .i64 100, .int .i64 3, .int .i64 0, .int .i64 2, .int .i64 3652059, .int .i64 1] t)) (some ⟨w.heap.size, 0, none⟩) 4 := by
  have h := (MapKept.heap_alloc w (.cells #[.int .i64 0, .int .i64 0, .int .i64 1, .int .i64 0, .int .i64 0, .int .i64 0, .int .i64 3652058, .int .i64 0, .int .i64 0, .int .i64 1, .int .i64 100, .int .i64 3, .int .i64 0, .int .i64 2, .int .i64 3652059, .int .i64 1] t)).1
  refine .inr ⟨w.heap.size, 0, rfl, by simp, fun j hj => ?_⟩
  unfold World.cell?
  simp only [h]
  match j, hj with
  | 0, _ => exact ⟨0, 0, 1, 0, rfl, rfl, rfl, rfl, by omega, by omega⟩
  | 1, _ => exact ⟨0, 0, 3652058, 0, rfl, rfl, rfl, rfl, by omega, by omega⟩
  | 2, _ => exact ⟨0, 1, 100, 3, rfl, rfl, rfl, rfl, by omega, by omega⟩
  | 3, _ => exact ⟨0, 2, 3652059, 1, rfl, rfl, rfl, rfl, by omega, by omega⟩
set_option maxRecDepth 100000 in
set_option maxHeartbeats 4000000 in
theorem targets_known (w : World) (hL : Lies w) :
    Calls Tryz.prog 10 #[] w fun e w' => e = .returned (.bool true) ∧ Below w.heap.size w w' := by
  have HL := hide hL
  obtain ⟨i0, hi, hz0, hz1, hz2⟩ := info_parts Tryz.infoAsk
  have HA := hide (IA.new w [-9223372036854775808, -1, 0, 1, 2, 3, 9998, 9999, 10000, 9223372036854775807] 3)
  have HB0 := hide (below_new (Below.refl w.heap.size w) (Nat.le_refl _) (.cells (([-9223372036854775808, -1, 0, 1, 2, 3, 9998, 9999, 10000, 9223372036854775807] : List Int).map (Value.int .i64)).toArray 3))
  clear hL
  go_enter Tryz.func10, Tryz.ntmps10
  go_wp2_with fail
  go_loopw [2] (fun i wr => ∃ k : Nat, k ≤ 10 ∧ i = .int .i64 k ∧ Hid (Below w.heap.size w wr) ∧ Hid (IA wr w.heap.size 10)) (fun i _ => 10 - (intOf i).toNat)
  case atStart => exact ⟨0, Nat.zero_le _, rfl, HB0, HA⟩
  case round =>
    clear HA HB0
    obtain ⟨k, hk, rfl, HB, HI⟩ := hrel
    by_cases hlt : k < 10
    · have hd : decide ((k : Int) < 10) = true := by rw [decide_eq_true_eq]; omega
      go_wp2_with fail
      go_loopw [3] (fun i wr => ∃ j : Nat, j ≤ 10 ∧ i = .int .i64 j ∧ Hid (Below w.heap.size w wr) ∧ Hid (IA wr w.heap.size 10)) (fun i _ => 10 - (intOf i).toNat)
      case atStart => exact ⟨0, Nat.zero_le _, rfl, HB, HI⟩
      case round =>
        clear HB HI
        obtain ⟨j, hj, rfl, HB, HI⟩ := hrel
        by_cases hjl : j < 10
        · have hd2 : decide ((j : Int) < 10) = true := by rw [decide_eq_true_eq]; omega
          obtain ⟨x, hx⟩ := HI.out.2 k hlt
          obtain ⟨y, hy⟩ := HI.out.2 j hjl
          have hlx : w.heap.size < wr.heap.size := HI.out.1
          have k0 : (0 : Int) ≤ (k : Int) := by omega
          have k1 : (k : Int) < 10 := by omega
          have j0 : (0 : Int) ≤ (j : Int) := by omega
          have j1 : (j : Int) < 10 := by omega
          by_cases hc : IntKind.i64.wrap (y - x) < 100
          · have d1 : decide (IntKind.i64.wrap (y - x) < 100) = true := decide_eq_true hc
            have HW : Hid (Below w.heap.size w (wr.alloc (.cells #[.int .i64 0, .int .i64 0, .int .i64 1, .int .i64 0, .int .i64 0, .int .i64 0, .int .i64 3652058, .int .i64 0, .int .i64 0, .int .i64 1, .int .i64 100, .int .i64 3, .int .i64 0, .int .i64 2, .int .i64 3652059, .int .i64 1] 56)).drew) := hide (below_new HB.out (Nat.le_refl _) _).drew
            have HI' : Hid (IA (wr.alloc (.cells #[.int .i64 0, .int .i64 0, .int .i64 1, .int .i64 0, .int .i64 0, .int .i64 0, .int .i64 3652058, .int .i64 0, .int .i64 0, .int .i64 1, .int .i64 100, .int .i64 3, .int .i64 0, .int .i64 2, .int .i64 3652059, .int .i64 1] 56)).drew w.heap.size 10) := hide (HI.out.low ((Below.refl _ _).alloc (Nat.le_refl _) (.cells #[.int .i64 0, .int .i64 0, .int .i64 1, .int .i64 0, .int .i64 0, .int .i64 0, .int .i64 3652058, .int .i64 0, .int .i64 0, .int .i64 1, .int .i64 100, .int .i64 3, .int .i64 0, .int .i64 2, .int .i64 3652059, .int .i64 1] 56)).drew)
            have HTL := hide (target_law x y (some ⟨wr.heap.size, 0, none⟩) 4 4 (wr.alloc (.cells #[.int .i64 0, .int .i64 0, .int .i64 1, .int .i64 0, .int .i64 0, .int .i64 0, .int .i64 3652058, .int .i64 0, .int .i64 0, .int .i64 1, .int .i64 100, .int .i64 3, .int .i64 0, .int .i64 2, .int .i64 3652059, .int .i64 1] 56)).drew (HL.out.below HW.out) (by omega) (show RA (wr.alloc (.cells #[.int .i64 0, .int .i64 0, .int .i64 1, .int .i64 0, .int .i64 0, .int .i64 0, .int .i64 3652058, .int .i64 0, .int .i64 0, .int .i64 1, .int .i64 100, .int .i64 3, .int .i64 0, .int .i64 2, .int .i64 3652059, .int .i64 1] 56)) (some ⟨wr.heap.size, 0, none⟩) 4 from RA.new4 wr _))
            have hn1 := World.new_ne wr ⟨w.heap.size, k, none⟩ hx
            have hn2 := World.new_ne wr ⟨w.heap.size, j, none⟩ hy
            go_wp2_with fail
            go_region_held3 (fun W => W.cell? ⟨w.heap.size, k, none⟩ = some (.int .i64 x) ∧ W.cell? ⟨w.heap.size, j, none⟩ = some (.int .i64 y)) (first | go_keep | (exact ⟨(hb.cell (p := ⟨w.heap.size, k, none⟩) (by (simp; omega))).trans (by simp_all), (hb.cell (p := ⟨w.heap.size, j, none⟩) (by (simp; omega))).trans (by simp_all)⟩)) ((go_at_call 30; refine HTL.out.mono ?_; rintro e w' ⟨rfl, hb⟩))
            clear hn1 hn2 hx hy HTL
            go_wp2_with fail
            go_roundw
            case rel => exact ⟨j + 1, by omega, by go_num, hide (below_on HW.out hb (Nat.le_refl _)), hide (HI'.out.low hb)⟩
            case measure => simp [intOf]; omega
          · obtain ⟨z, hz⟩ : ∃ z, IntKind.i64.wrap (y - x) = z := ⟨_, rfl⟩
            have hz2 : wrap64 (y - x) = z := by rw [← hz]; exact (Go.IntWalk.i64_left _).symm
            rw [hz] at hc
            have d1 : decide (z < 100) = false := decide_eq_false hc
            go_wp2_with fail
            have HX0 : Hid (Below wr.heap.size wr wr.drew) := hide (Below.refl _ _).drew
            have HCX : Hid (∀ W, Below wr.heap.size wr W → W.cell? ⟨w.heap.size, k, none⟩ = some (.int .i64 x)) := hide (fun W hW => (hW.cell (p := ⟨w.heap.size, k, none⟩) hlx).trans hx)
            have HCY : Hid (∀ W, Below wr.heap.size wr W → W.cell? ⟨w.heap.size, j, none⟩ = some (.int .i64 y)) := hide (fun W hW => (hW.cell (p := ⟨w.heap.size, j, none⟩) hlx).trans hy)
            clear hx hy
            haveI : Nonempty (GrowK wr) := ⟨⟨_, HX0.out⟩⟩
            refine region_class (C := fun W => ∃ z : GrowK wr, W = z.1) (by kernel_rfl) (by kernel_rfl) ⟨⟨_, HX0.out⟩, rfl⟩ ?_
            repeat (first
              | go_big_quiet_skip
              | (go_big_quiet_want; first
                  | (refine quiet_cell 3 _ rfl w.heap.size j rfl y (fun W ⟨z, hz⟩ => by subst hz; exact HCY.out _ z.2) Tryz.underlying3 ?_; simp only [Act.put, List.setIfInBounds_toArray, List.set_cons_zero, List.set_cons_succ]; go_big_quiet_on)
                  | (refine quiet_cell 3 _ rfl w.heap.size k rfl x (fun W ⟨z, hz⟩ => by subst hz; exact HCX.out _ z.2) Tryz.underlying3 ?_; simp only [Act.put, List.setIfInBounds_toArray, List.set_cons_zero, List.set_cons_succ]; go_big_quiet_on)
                  | (go_big_quiet_op; go_big_quiet_on)))
            refine wpQuiet_nil ?_
            rintro w3 ⟨z3, rfl⟩
            obtain ⟨w3, hw3⟩ := z3
            dsimp only
            have HB3 := hide (below_on HB.out hw3 (Nat.le_refl _))
            have HI3 := hide (HI.out.low hw3)
            clear HX0 this hw3 HB HI HCX HCY
            go_wp2_with fail
            go_roundw
            case rel => exact ⟨j + 1, by omega, by go_num, HB3, HI3⟩
            case measure => simp [intOf]; omega
        · have hj' : j = 10 := by omega
          subst hj'
          rw [show ((10 : Nat) : Int) = 10 from rfl]
          go_wp2_with fail
          go_roundw
          case rel => exact ⟨k + 1, by omega, by go_num, HB, HI⟩
          case measure => simp [intOf]; omega
    · have hk' : k = 10 := by omega
      subst hk'
      rw [show ((10 : Nat) : Int) = 10 from rfl]
      clear HI hlt hk
      have HN := hide (fun (y : Int) (W : World) => refNumber_any y 1 1 W)
      unfold dateV at HN
      go_wp2_with fail
      go_loopw [4] (fun m wr => ∃ t : Int, 2020 ≤ t ∧ t ≤ 2030 ∧ m = .int .i64 t ∧ Hid (Below w.heap.size w wr)) (fun m _ => (2030 - intOf m).toNat)
      case atStart => exact ⟨2020, by omega, by omega, rfl, HB⟩
      case round =>
        clear HB
        obtain ⟨t, t0, t1, rfl, HB⟩ := hrel
        by_cases htl : t < 2030
        · have hd : decide (t < 2030) = true := by rw [decide_eq_true_eq]; omega
          go_wp2_with fail
          refine (HN.out _ _).mono ?_
          rintro e w2 ⟨rfl, hb2⟩
          have HB2 := hide (below_on HB.out hb2 (Nat.le_refl _))
          obtain ⟨f0, f1⟩ := first_b t0 t1
          obtain ⟨f, hf⟩ : ∃ f, numV t 1 1 = f := ⟨_, rfl⟩
          obtain ⟨ne, hne⟩ : ∃ f, numE t 1 1 = f := ⟨_, rfl⟩
          rw [hf] at f0 f1
          rw [hf, hne]
          clear hf hne hb2
          go_wp2_with fail
          go_loopw [7, 8] (fun v m wr => ∃ (c : Nat) (xs : List Value), c ≤ 372 ∧ m = .int .i64 (f - 3 + (c : Int)) ∧ Hid (AskRow xs (2 * c)) ∧ Hid (wr.ownsRow w2.heap.size 56 4 v (2 * c) xs) ∧ Hid (Below w2.heap.size w2 wr)) (fun _ m _ => (f + 369 - intOf m).toNat)
          case atStart => exact ⟨0, [], by omega, by simp, hide (fun j hj => by omega), hide (World.ownsRow_nil _ _ _ _), hide (Below.refl _ _)⟩
          case round =>
            obtain ⟨c, xs, hc, rfl, HX, HO, HB3⟩ := hrel
            by_cases hcl : c < 372
            · obtain ⟨q, HQ⟩ : ∃ q, Hid (f - 3 + (c : Int) = q) := ⟨_, hide rfl⟩
              have q0 : 737422 ≤ q := by have := HQ.out; omega
              have q1 : q < f + 369 := by have := HQ.out; omega
              rw [HQ.out]
              have hd5 : decide (q < f + 369) = true := decide_eq_true q1
              have hs3 := HB3.out.size
              go_wp2_with (first
                | (at_builtin; refine wpList_append_own _ rfl _ _ 58 rfl _ 56 i0 (.agg #[.int .i64 0, .int .i64 0, .int .i64 0, .int .i64 0]) 4 32 Tryz.underlying58 hi hz0 hz1 hz2 rfl (by decide) _ _ _ rfl (HO.out.alloc _) ⟨_, 0, none⟩ 2 2 [.int .i64 0, .int .i64 0, .int .i64 q, .int .i64 0, .int .i64 0, .int .i64 2, .int .i64 q, .int .i64 (q % 4)] rfl rfl ?c1 ?c2 ?c3 ?c4 ?c5 ?_)
                | go_in)
              case c1 =>
                intro j u hj
                match j, hj with
                | 0, hj => simp at hj; subst hj; simp [Addr.add]
                | 1, hj => simp at hj; subst hj; simp [Addr.add]
                | 2, hj => simp at hj; subst hj; simp [Addr.add]
                | 3, hj => simp at hj; subst hj; simp [Addr.add]
                | 4, hj => simp at hj; subst hj; simp [Addr.add]
                | 5, hj => simp at hj; subst hj; simp [Addr.add]
                | 6, hj => simp at hj; subst hj; simp [Addr.add]
                | 7, hj => simp at hj; subst hj; simp [Addr.add]
              case c2 => intro u hu; simp at hu; rcases hu with rfl | rfl | rfl | rfl | rfl | rfl <;> rfl
              case c3 => unfold maxLen; omega
              case c4 => omega
              case c5 => simp; omega
              intro v2 w4 hown2 hgrow2 _
              have HX2 := hide (HX.out.two (by have := HO.out.1; omega) q (q % 4) (by omega) (by omega))
              have HB4 := hide ((HB3.out.alloc HB3.out.size (.cells #[.int .i64 0, .int .i64 0, .int .i64 q, .int .i64 0, .int .i64 0, .int .i64 2, .int .i64 q, .int .i64 (q % 4)] 56)).grown hgrow2 (by simp; omega) (fun j hj => by have := (HO.out.lt j hj).1; omega))
              have HO4 := hide hown2
              clear hown2 hgrow2 HB3 HO HX
              go_wp2_with fail
              go_roundw
              case rel => exact ⟨c + 1, _, by omega, by rw [← HQ.out]; go_num, HX2, HO4, HB4⟩
              case measure => simp [intOf]; have := HQ.out; omega
            · have hc' : c = 372 := by omega
              subst hc'
              have hq : f - 3 + ((372 : Nat) : Int) = f + 369 := by omega
              rw [hq]
              obtain ⟨a, cap, rfl, hra⟩ := ra_of_row HO.out HX.out
              have HB5 := hide (below_on HB2.out HB3.out (Nat.le_refl _))
              have HTL := hide (target_law t t a 744 cap wr (HL.out.below HB5.out) (by omega) hra)
              clear hra HO HX HB3
              go_wp2_with fail
              refine HTL.out.mono ?_
              rintro e w5 ⟨rfl, hb5⟩
              go_wp2_with fail
              go_roundw
              case rel => exact ⟨t + 1, by omega, by omega, by go_num, hide (below_on HB5.out hb5 (Nat.le_refl _))⟩
              case measure => simp [intOf]; omega
        · have ht' : t = 2030 := by omega
          subst ht'
          go_wp2_with fail
          go_ret
          exact ⟨rfl, HB.out⟩
end Go.Proofs.YtdfeehimnfogmaaGreatDoor
