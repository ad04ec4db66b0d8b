/-
  My own text: the closed law on amounts: parts, the walk.
-/
import Derived.Test.YthmbfdjbjljaiaaGreatDoorAK3
namespace Go.Proofs.YthmbfdjbjljaiaaGreatDoor
open Go.RowKit

theorem Tryz.aggSl (w : World) : (isAgg 23).run Tryz.prog w = .ok false w := by unfold isAgg; simp [Sem.run_bind, run_underlying Tryz.underlying23]
theorem row_slice {w : World} {B n : Nat} {e : TypeId} {v : Value} {l : List Int} (h : w.ownsRow B e 1 v n (lv .i64 l)) : ∃ ad cap, v = .slice ad n cap := by
  rcases h.2 with ⟨rfl, h0⟩ | ⟨g, cap, cur, rfl, _⟩
  · subst h0; exact ⟨none, 0, rfl⟩
  · exact ⟨_, cap, rfl⟩
theorem split321 : splitR 10 [3, 2, 1] = [5, 3, 2] := by
  have hE : ¬ 1 ≤ wE 10 [3, 2, 1] := by decide
  have h0 := part_at hE (j := 0) (by decide)
  have h1 := part_at hE (j := 1) (by decide)
  have h2 := part_at hE (j := 2) (by decide)
  have hs := splitR_sum hE
  have n0 : 0 ∉ chs 10 [3, 2, 1] := fun h => by
    have h3 := chosen_pos (n := 10) (l := [3, 2, 1]) (by decide) h
    exact absurd h3 (by decide)
  have h12 : 1 ∈ chs 10 [3, 2, 1] → 2 ∈ chs 10 [3, 2, 1] := fun h => chosen_ahead (k := 2) (i := 1) (ordr_ordN (fun j => 10 * ([3, 2, 1] : List Int).getD j 0 % ([3, 2, 1] : List Int).sum) 3) h (by omega) (by unfold ahd; decide)
  have hl := splitR_len' hE
  rw [if_neg n0] at h0
  have e0 : (10 * ([3, 2, 1] : List Int).getD 0 0 / ([3, 2, 1] : List Int).sum + 0 : Int) = 5 := by decide
  have e1 : (10 * ([3, 2, 1] : List Int).getD 1 0 / ([3, 2, 1] : List Int).sum : Int) = 3 := by decide
  have e2 : (10 * ([3, 2, 1] : List Int).getD 2 0 / ([3, 2, 1] : List Int).sum : Int) = 1 := by decide
  rw [e0] at h0
  rw [e1] at h1
  rw [e2] at h2
  generalize splitR 10 [3, 2, 1] = p at *
  match p, hl with
  | [a, b, c], _ =>
    simp at h0 h1 h2 hs
    by_cases c2 : 2 ∈ chs 10 [3, 2, 1]
    · by_cases c1 : 1 ∈ chs 10 [3, 2, 1]
      · rw [if_pos c1] at h1; rw [if_pos c2] at h2; omega
      · rw [if_neg c1] at h1; rw [if_pos c2] at h2
        subst h0 h1 h2; rfl
    · have c1 : 1 ∉ chs 10 [3, 2, 1] := fun h => c2 (h12 h)
      rw [if_neg c1] at h1; rw [if_neg c2] at h2; omega
set_option maxRecDepth 100000 in
set_option maxHeartbeats 4000000 in
theorem parts_known (w : World) (hE : ErrType w) :
    Calls Tryz.prog 6 #[] w fun e w' => e = .returned (.bool true) ∧ Below w.heap.size w w' := by
  have HE := hide hE
  obtain ⟨i0, hi, hz0, hz1, hz2⟩ := info_parts Tryz.infoLong
  have hs : (allocs 2 w prtL).heap.size = w.heap.size + 14 := allocs_size _ prtL w
  have HB0 : Hid (Below w.heap.size w (((allocs 2 w prtL).alloc (.cells (outerA w) 23)).alloc (.cells (([-1, 0, 1, 2, 10, 9223372036854775807] : List Int).map (Value.int .i64)).toArray 2))) := hide (below_new (below_new (allocs_below _ prtL w) (Nat.le_refl _) _) (Nat.le_refl _) _)
  have HS0 : Hid (SL (((allocs 2 w prtL).alloc (.cells (outerA w) 23)).alloc (.cells (([-1, 0, 1, 2, 10, 9223372036854775807] : List Int).map (Value.int .i64)).toArray 2)) (w.heap.size + 14) 15) := hide ((SL.parts w _ _).low ((Below.refl _ _).alloc (Nat.le_refl _) _))
  have HN0 : Hid (IB (((allocs 2 w prtL).alloc (.cells (outerA w) 23)).alloc (.cells (([-1, 0, 1, 2, 10, 9223372036854775807] : List Int).map (Value.int .i64)).toArray 2)) (w.heap.size + 15) 6 (-1) 9223372036854775807) := hide (by
    have h := IB.new ((allocs 2 w prtL).alloc (.cells (outerA w) 23)) [-1, 0, 1, 2, 10, 9223372036854775807] 2 (-1) 9223372036854775807 (by decide)
    rw [show ((allocs 2 w prtL).alloc (.cells (outerA w) 23)).heap.size = w.heap.size + 15 by simp [hs]] at h
    exact h)
  clear hE hs
  go_enter Tryz.func6, Tryz.ntmps6
  go_wp2_with fail
  go_loopw [3] (fun i wr => ∃ k : Nat, k ≤ 15 ∧ i = .int .i64 k ∧ Hid (Below w.heap.size w wr) ∧ Hid (SL wr (w.heap.size + 14) 15) ∧ Hid (IB wr (w.heap.size + 15) 6 (-1) 9223372036854775807)) (fun i _ => 15 - (intOf i).toNat)
  case atStart => exact ⟨0, Nat.zero_le _, rfl, HB0, HS0, HN0⟩
  case round =>
    clear HB0 HS0 HN0
    obtain ⟨k, hk, rfl, HB, HS, HN⟩ := hrel
    by_cases hkl : k < 15
    · have hd1 : decide ((k : Int) < 15) = true := by rw [decide_eq_true_eq]; omega
      go_wp2_with fail
      go_loopw [4] (fun i wr => ∃ k : Nat, k ≤ 6 ∧ i = .int .i64 k ∧ Hid (Below w.heap.size w wr) ∧ Hid (SL wr (w.heap.size + 14) 15) ∧ Hid (IB wr (w.heap.size + 15) 6 (-1) 9223372036854775807)) (fun i _ => 6 - (intOf i).toNat)
      case atStart => exact ⟨0, Nat.zero_le _, rfl, HB, HS, HN⟩
      case round =>
        clear HB HS HN
        obtain ⟨j, hj, rfl, HB, HS, HN⟩ := hrel
        by_cases hjl : j < 6
        · have hd2 : decide ((j : Int) < 6) = true := by rw [decide_eq_true_eq]; omega
          obtain ⟨x, hx, x0, x1⟩ := HN.out.2 j hjl
          obtain ⟨a, c, l, hc, hr, hll, hlb⟩ := HS.out.2 k hkl
          have hlx := HN.out.1
          have hly := HS.out.1
          have HX0 : Hid (Below wr.heap.size wr wr.drew) := hide (Below.refl _ _).drew
          have HCX : Hid (∀ W, Below wr.heap.size wr W → W.cell? ⟨w.heap.size + 15, j, none⟩ = some (.int .i64 x)) := hide (fun W hW => (hW.cell (p := ⟨w.heap.size + 15, j, none⟩) hlx).trans hx)
          have HCY : Hid (∀ W, Below wr.heap.size wr W → W.cell? ⟨w.heap.size + 14, k, none⟩ = some (.slice a l.length c)) := hide (fun W hW => (hW.cell (p := ⟨w.heap.size + 14, k, none⟩) hly).trans hc)
          have HR := hide hr
          have HLB := hide hlb
          have k0 : (0 : Int) ≤ (k : Int) := by omega
          have k1 : (k : Int) < 15 := by omega
          have j0 : (0 : Int) ≤ (j : Int) := by omega
          have j1 : (j : Int) < 6 := by omega
          clear hx hc hr hlb hlx hly
          go_wp2_with fail
          haveI : Nonempty (GrowK wr) := ⟨⟨_, HX0.out⟩⟩
          refine region_class (C := fun W => ∃ z : GrowK wr, W = z.1) (by kernel_rfl) (by kernel_rfl) ⟨⟨_, HX0.out⟩, rfl⟩ ?_
          repeat (first
            | go_big_quiet_skip
            | (go_big_quiet_want; first
                | (refine quiet_cell 2 _ rfl (w.heap.size + 15) j rfl x (fun W ⟨z, hz⟩ => by subst hz; exact HCX.out _ z.2) Tryz.underlying2 ?_; simp only [Act.put, List.setIfInBounds_toArray, List.set_cons_zero, List.set_cons_succ]; go_big_quiet_on)
                | (refine quiet_cellV 23 _ rfl (w.heap.size + 14) k rfl (.slice a l.length c) (fun W ⟨z, hz⟩ => by subst hz; exact HCY.out _ z.2) Tryz.aggSl ?_; simp only [Act.put, List.setIfInBounds_toArray, List.set_cons_zero, List.set_cons_succ]; go_big_quiet_on)
                | (go_big_quiet_op; first
                    | go_big_quiet_on
                    | (apply Exists.intro; refine ⟨fun q => ?_, ?_⟩; (first
                        | (go_at_call 17; exact q.call (split_law x a c l q.1 (HE.out.below (below_on HB.out q.2 (Nat.le_refl _))) (HR.out.later q.2) (by omega) HLB.out x1))
                        | (go_at_call 18; exact q.call (shares_law x 7 a c l q.1 (HR.out.later q.2) (by omega) HLB.out x1 (by omega)))); go_big_quiet_on))))
          refine wpQuiet_nil ?_
          rintro w3 ⟨q3, rfl⟩
          obtain ⟨w3, hw3⟩ := q3
          dsimp only
          have HB3 := hide (below_on HB.out hw3 (Nat.le_refl _))
          have HS3 := hide (HS.out.low hw3)
          have HN3 := hide (HN.out.low hw3)
          clear HX0 this hw3 HB HS HN HCX HCY HR HLB
          go_wp2_with fail
          go_roundw
          case rel => exact ⟨j + 1, by omega, by go_num, HB3, HS3, HN3⟩
          case measure => simp [intOf]; omega
        · have h' : j = 6 := by omega
          subst h'
          rw [show ((6 : Nat) : Int) = 6 from rfl]
          go_wp2_with fail
          go_roundw
          case rel => exact ⟨k + 1, by omega, by go_num, HB, HS, HN⟩
          case measure => simp [intOf]; omega
    · have h' : k = 15 := by omega
      subst h'
      rw [show ((15 : Nat) : Int) = 15 from rfl]
      clear HS HN hkl hk
      obtain ⟨w2, hw2⟩ : ∃ x, x = wr := ⟨_, rfl⟩
      subst hw2
      go_wp2_with fail
      go_loopw [5, 6] (fun v m wr => ∃ (k : Nat) (l : List Int), k ≤ 40 ∧ m = .int .i64 k ∧ l.length = k ∧ Hid (wr.ownsRow w2.heap.size 2 1 v k (lv .i64 l)) ∧ Hid (∀ x ∈ l, 0 ≤ x ∧ x ≤ 10) ∧ Hid (Below w2.heap.size w2 wr)) (fun _ m _ => (40 - intOf m).toNat)
      case atStart => exact ⟨0, [], by omega, rfl, rfl, hide (World.ownsRow_nil _ _ _ _), hide (by simp), hide (Below.refl _ _)⟩
      case round =>
        obtain ⟨k, l, hk, rfl, hlk, HO, HX, HB3⟩ := hrel
        by_cases hkl : k < 40
        · have hd1 : decide ((k : Int) < 40) = true := by rw [decide_eq_true_eq]; omega
          have hs3 := HB3.out.size
          go_wp2_with (first
            | (at_builtin; refine wpList_append_own _ rfl _ _ 23 rfl _ 2 i0 (.int .i64 0) 1 8 Tryz.underlying23 hi hz0 hz1 hz2 rfl (by decide) _ _ _ rfl (HO.out.alloc _) ⟨_, 0, none⟩ 1 1 [.int .i64 (1 + (k : Int) / 20)] rfl rfl ?c1 ?c2 ?c3 ?c4 ?c5 ?_)
            | go_in)
          case c1 =>
            intro j u hj
            match j, hj with
            | 0, hj => simp at hj; subst hj; simp [Addr.add]
          case c2 => first | exact ⟨rfl, rfl⟩ | (intro u hu; simp at hu; subst hu; rfl)
          case c3 => unfold maxLen; omega
          case c4 => omega
          case c5 => simp; omega
          intro v2 w4 hown2 hgrow2 _
          have HB4 := hide ((HB3.out.alloc HB3.out.size (.cells #[.int .i64 (1 + (k : Int) / 20)] 2)).grown hgrow2 (by simp; omega) (fun j hj => by have := (HO.out.lt j hj).1; omega))
          have HO4 : Hid (w4.ownsRow w2.heap.size 2 1 v2 (k + 1) (lv .i64 (l ++ [1 + (k : Int) / 20]))) := by rw [lv_app]; exact hide hown2
          obtain ⟨ad, cap, rfl⟩ := row_slice HO4.out
          have hl4 : (l ++ [1 + (k : Int) / 20]).length = k + 1 := by simp [hlk]
          have HX4 : Hid (∀ x ∈ l ++ [1 + (k : Int) / 20], 0 ≤ x ∧ x ≤ 10) := hide (fun x hx => by
            rcases List.mem_append.1 hx with h | h
            · exact HX.out x h
            · have := List.mem_singleton.1 h; omega)
          have HR4 : Hid (RI w4 .i64 (.slice ad (k + 1) cap) (l ++ [1 + (k : Int) / 20])) := hide (by
            have h := HO4.out
            rw [← hl4] at h ⊢
            exact ri_own h)
          obtain ⟨l4, hl4'⟩ : ∃ x, l ++ [1 + (k : Int) / 20] = x := ⟨_, rfl⟩
          rw [hl4'] at HO4 hl4 HX4 HR4
          have HSP := hide (fun (n : Int) (W : World) (hW : Below w4.heap.size w4 W) (n1 : n ≤ 9223372036854775807) => by
            have h := split_law n ad cap l4 W (HE.out.below (below_on (below_on HB.out HB4.out (Nat.le_refl _)) hW (Nat.le_refl _))) (by rw [hl4]; exact HR4.out.later hW) (by omega) (fun x hx => by have := HX4.out x hx; omega) n1
            rw [hl4] at h
            exact h)
          have hB0 := Below.refl w4.heap.size w4
          clear hown2 hgrow2 HB3 HO HX hl4'
          go_wp2_with fail
          refine (HSP.out _ _ hB0 (by omega)).mono ?_
          rintro e v0 ⟨rfl, hb⟩
          have hB1 := below_on hB0 hb (Nat.le_refl _)
          clear hb
          go_wp2_with fail
          refine (HSP.out _ _ hB1 (by omega)).mono ?_
          rintro e v1 ⟨rfl, hb⟩
          have hB2 := below_on hB1 hb (Nat.le_refl _)
          clear hb
          go_wp2_with fail
          refine (HSP.out _ _ hB2 (by omega)).mono ?_
          rintro e v2 ⟨rfl, hb⟩
          have hB3 := below_on hB2 hb (Nat.le_refl _)
          clear hb
          go_wp2_with fail
          go_roundw
          case rel => exact ⟨k + 1, l4, by omega, by go_num, hl4, hide (own_later HO4.out hB3), HX4, hide (below_on HB4.out hB3 (Nat.le_refl _))⟩
          case measure => simp [intOf]; omega
        · have h' : k = 40 := by omega
          subst h'
          rw [show ((40 : Nat) : Int) = 40 from rfl]
          obtain ⟨w4, hw4⟩ : ∃ x, x = wr := ⟨_, rfl⟩
          subst hw4
          have HB4 := hide (below_new (below_on HB.out HB3.out (Nat.le_refl _)) (Nat.le_refl _) (.cells #[.int .i64 3, .int .i64 2, .int .i64 1] 2))
          have HSA := hide (split_any 10 _ [3, 2, 1] _ (RI.new w4 [3, 2, 1] 2 3) (by decide) (by decide) (by omega))
          rw [show errV (wE 10 [3, 2, 1]) = .nilIface from rfl, split321] at HSA
          clear HO HX HB3
          go_wp2_with fail
          refine HSA.out.mono ?_
          rintro e w5 ⟨r, rfl, hown, hb5⟩
          have HB5 := hide (below_on HB4.out hb5 (Nat.le_refl _))
          have HR5 := hide (hown.ri)
          have HSM := hide (sameLongs_any r _ [5, 3, 2] [5, 3, 2] _ (HR5.out.later ((Below.refl _ _).alloc (Nat.le_refl _) (.cells #[.int .i64 5, .int .i64 3, .int .i64 2] 2))) (RI.new w5 [5, 3, 2] 2 3) (by decide))
          rw [decide_eq_true (rfl : ([5, 3, 2] : List Int) = [5, 3, 2])] at HSM
          clear hown hb5
          go_wp2_with fail
          refine HSM.out.mono ?_
          rintro e w6 ⟨rfl, hb6⟩
          go_wp2_with fail
          go_ret
          exact ⟨rfl, below_on (below_new HB5.out (Nat.le_refl _) _) hb6 (Nat.le_refl _)⟩
end Go.Proofs.YthmbfdjbjljaiaaGreatDoor
