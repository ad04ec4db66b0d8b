/-
  My own text: what the closed law asks about Easter and what is reckoned: its walks.
-/
import Derived.Test.YtdfeehimnfogmaaGreatDoorK1
import Derived.Test.YtdfeehimnfogmaaGreatDoorD15
namespace Go.Proofs.YtdfeehimnfogmaaGreatDoor
open Go.RowKit

def GrowK (w0 : World) : Type := { w' : World // Below w0.heap.size w0 w' }
theorem GrowK.call {w0 : World} (z : GrowK w0) {P : Program} {f : FuncId} {args : Array Value} {v : Value} (h : Calls P f args z.1 fun e w' => e = .returned v ∧ Below z.1.heap.size z.1 w') :
    Calls P f args z.1 fun e w' => e = .returned v ∧ ∃ r : GrowK w0, w' = r.1 :=
  h.mono fun _ w' ⟨he, hb⟩ => ⟨he, ⟨w', z.2.trans (hb.mono z.2.size)⟩, rfl⟩
theorem far_any (w : World) :
    Calls Tryz.prog 25 #[] w fun e w' => e = .returned (.slice (some ⟨w.heap.size, 0, none⟩) 34 34) ∧ IA w' w.heap.size 34 ∧ Below w.heap.size w w' := by
  have HA := hide (IA.new w [-9223372036854775808, -9223372036854775807, -1099511627776, -3652059, -8, -1, 0, 1, 2, 3, 4, 5, 6, 7, 8, 31, 32, 59, 60, 365, 366, 146096, 146097, 146098, 3652000, 3652028, 3652029, 3652057, 3652058, 3652059, 3652060, 3652061, 1099511627776, 9223372036854775807] 3)
  have HB0 := hide (below_new (Below.refl w.heap.size w) (Nat.le_refl _) (.cells (([-9223372036854775808, -9223372036854775807, -1099511627776, -3652059, -8, -1, 0, 1, 2, 3, 4, 5, 6, 7, 8, 31, 32, 59, 60, 365, 366, 146096, 146097, 146098, 3652000, 3652028, 3652029, 3652057, 3652058, 3652059, 3652060, 3652061, 1099511627776, 9223372036854775807] : List Int).map (Value.int .i64)).toArray 3))
  go_enter Tryz.func25, Tryz.ntmps25
  go_wp2_with fail
  go_ret
  exact ⟨rfl, HA.out, HB0.out⟩
set_option maxRecDepth 100000 in
set_option maxHeartbeats 4000000 in
theorem easters_known (w : World) (hL : Lies w) :
    Calls Tryz.prog 6 #[] w fun e w' => e = .returned (.bool true) ∧ Below w.heap.size w w' := by
  have HL := hide hL
  clear hL
  go_enter Tryz.func6, Tryz.ntmps6
  go_wp2_with fail
  go_loopw [1] (fun m wr => ∃ t : Int, -1 ≤ t ∧ t ≤ 10001 ∧ m = .int .i64 t ∧ Hid (Below w.heap.size w wr)) (fun m _ => (10001 - intOf m).toNat)
  case atStart => exact ⟨-1, by omega, by omega, rfl, hide (Below.refl _ _)⟩
  case round =>
    obtain ⟨t, t0, t1, rfl, HB⟩ := hrel
    by_cases htl : t < 10001
    · have hd : decide (t ≤ 10000) = true := by rw [decide_eq_true_eq]; omega
      go_wp2_with fail
      refine (reckons_law _ _ _ _ _ _ (HL.out.below HB.out)).mono ?_
      rintro e w2 ⟨rfl, hb2⟩
      go_wp2_with fail
      go_roundw
      case rel => exact ⟨t + 1, by omega, by omega, by go_num, hide (below_on HB.out hb2 (Nat.le_refl _))⟩
      case measure => simp [intOf]; omega
    · have ht' : t = 10001 := by omega
      subst ht'
      go_wp2_with fail
      refine (reckons_law _ _ _ _ _ _ (HL.out.below HB.out)).mono ?_
      rintro e w2 ⟨rfl, hb2⟩
      have hB2 := below_on HB.out hb2 (Nat.le_refl _)
      go_wp2_with fail
      refine (reckons_law _ _ _ _ _ _ (HL.out.below hB2)).mono ?_
      rintro e w3 ⟨rfl, hb3⟩
      go_wp2_with fail
      go_ret
      exact ⟨rfl, below_on hB2 hb3 (Nat.le_refl _)⟩
set_option maxRecDepth 100000 in
set_option maxHeartbeats 4000000 in
theorem reckoned_known (w : World) (hL : Lies w) :
    Calls Tryz.prog 7 #[] w fun e w' => e = .returned (.bool true) ∧ Below w.heap.size w w' := by
  have HL := hide hL
  have HN := hide (fun W : World => refNumber_any 2024 1 26 W)
  rw [show numV 2024 1 26 = 738911 from by decide] at HN
  unfold dateV at HN
  obtain ⟨ne, hne⟩ : ∃ ne, numE 2024 1 26 = ne := ⟨_, rfl⟩
  rw [hne] at HN
  clear hL hne
  go_enter Tryz.func7, Tryz.ntmps7
  go_wp2_with fail
  refine (far_any w).mono ?_
  rintro e w1 ⟨rfl, hia, hb1⟩
  have HM := hide (IA.new w1 [-9223372036854775808, -119989, -119988, -119987, -13, -12, -11, -1, 0, 1, 2, 11, 12, 13, 119986, 119987, 119988, 119989, 9223372036854775807] 3)
  have HB1 := hide (below_new hb1 (Nat.le_refl _) (.cells (([-9223372036854775808, -119989, -119988, -119987, -13, -12, -11, -1, 0, 1, 2, 11, 12, 13, 119986, 119987, 119988, 119989, 9223372036854775807] : List Int).map (Value.int .i64)).toArray 3))
  have HI1 := hide (hia.low ((Below.refl _ _).alloc (Nat.le_refl _) (.cells (([-9223372036854775808, -119989, -119988, -119987, -13, -12, -11, -1, 0, 1, 2, 11, 12, 13, 119986, 119987, 119988, 119989, 9223372036854775807] : List Int).map (Value.int .i64)).toArray 3)))
  clear hia hb1
  go_wp2_with fail
  go_loopw [3] (fun i wr => ∃ k : Nat, k ≤ 34 ∧ i = .int .i64 k ∧ Hid (Below w.heap.size w wr) ∧ Hid (IA wr w.heap.size 34) ∧ Hid (IA wr w1.heap.size 19)) (fun i _ => 34 - (intOf i).toNat)
  case atStart => exact ⟨0, Nat.zero_le _, rfl, HB1, HI1, HM⟩
  case round =>
    clear HB1 HI1 HM
    obtain ⟨k, hk, rfl, HB, HI, HM⟩ := hrel
    by_cases hlt : k < 34
    · have hd : decide ((k : Int) < 34) = true := by rw [decide_eq_true_eq]; omega
      obtain ⟨x, hx⟩ := HI.out.2 k hlt
      go_wp2_with fail
      refine (dates_law _ _ _ _ _ (HL.out.below HB.out)).mono ?_
      rintro e w2 ⟨rfl, hb2⟩
      have HB2 := hide (below_on HB.out hb2 (Nat.le_refl _))
      have HI2 := hide (HI.out.low hb2)
      have HM2 := hide (HM.out.low hb2)
      clear hx HB HI HM hb2
      go_wp2_with fail
      go_loopw [4] (fun i wr => ∃ j : Nat, j ≤ 19 ∧ i = .int .i64 j ∧ Hid (Below w.heap.size w wr) ∧ Hid (IA wr w.heap.size 34) ∧ Hid (IA wr w1.heap.size 19)) (fun i _ => 19 - (intOf i).toNat)
      case atStart => exact ⟨0, Nat.zero_le _, rfl, HB2, HI2, HM2⟩
      case round =>
        clear HB2 HI2 HM2
        obtain ⟨j, hj, rfl, HB, HI, HM⟩ := hrel
        by_cases hjl : j < 19
        · have hd2 : decide ((j : Int) < 19) = true := by rw [decide_eq_true_eq]; omega
          obtain ⟨x, hx⟩ := HI.out.2 k hlt
          obtain ⟨y, hy⟩ := HM.out.2 j hjl
          go_wp2_with fail
          have HX0 : Hid (Below wr.heap.size wr wr.drew) := hide (Below.refl _ _).drew
          have hlx : w.heap.size < wr.heap.size := HI.out.1
          have hly : w1.heap.size < wr.heap.size := HM.out.1
          have HCX : Hid (∀ W, Below wr.heap.size wr W → W.cell? ⟨w.heap.size, k, none⟩ = some (.int .i64 x)) := hide (fun W hW => (hW.cell (p := ⟨w.heap.size, k, none⟩) hlx).trans hx)
          have HCY : Hid (∀ W, Below wr.heap.size wr W → W.cell? ⟨w1.heap.size, j, none⟩ = some (.int .i64 y)) := hide (fun W hW => (hW.cell (p := ⟨w1.heap.size, j, none⟩) hly).trans hy)
          clear hx hy
          haveI : Nonempty (GrowK wr) := ⟨⟨_, HX0.out⟩⟩
          refine region_class (C := fun W => ∃ z : GrowK wr, W = z.1) (by kernel_rfl) (by kernel_rfl) ⟨⟨_, HX0.out⟩, rfl⟩ ?_
          repeat (first
            | go_big_quiet_skip
            | (go_big_quiet_want; first
                | (refine quiet_cell 3 _ rfl w.heap.size k rfl x (fun W ⟨z, hz⟩ => by subst hz; exact HCX.out _ z.2) Tryz.underlying3 ?_; simp only [Act.put, List.setIfInBounds_toArray, List.set_cons_zero, List.set_cons_succ]; go_big_quiet_on)
                | (refine quiet_cell 3 _ rfl w1.heap.size j rfl y (fun W ⟨z, hz⟩ => by subst hz; exact HCY.out _ z.2) Tryz.underlying3 ?_; simp only [Act.put, List.setIfInBounds_toArray, List.set_cons_zero, List.set_cons_succ]; go_big_quiet_on)
                | (go_big_quiet_op; first
                    | go_big_quiet_on
                    | (apply Exists.intro; refine ⟨fun z => ?_, ?_⟩; (first
                        | (go_at_call 24; exact z.call (reckons_law _ _ _ _ _ z.1 (HL.out.below (below_on HB.out z.2 (Nat.le_refl _)))))); go_big_quiet_on))))
          refine wpQuiet_nil ?_
          rintro w3 ⟨z, rfl⟩
          obtain ⟨w3, hw3⟩ := z
          dsimp only
          have HB3 := hide (below_on HB.out hw3 (Nat.le_refl _))
          have HI3 := hide (HI.out.low hw3)
          have HM3 := hide (HM.out.low hw3)
          clear HX0 this hw3 HB HI HM HCX HCY
          go_wp2_with fail
          go_roundw
          case rel => exact ⟨j + 1, by omega, by go_num, HB3, HI3, HM3⟩
          case measure => simp [intOf]; omega
        · have hj' : j = 19 := by omega
          subst hj'
          rw [show ((19 : Nat) : Int) = 19 from rfl]
          obtain ⟨w2, hw2⟩ : ∃ x, x = wr := ⟨_, rfl⟩
          subst hw2
          go_wp2_with fail
          go_loopw [5] (fun i wr => ∃ j : Nat, j ≤ 34 ∧ i = .int .i64 j ∧ Hid (Below w.heap.size w wr) ∧ Hid (IA wr w.heap.size 34) ∧ Hid (IA wr w1.heap.size 19)) (fun i _ => 34 - (intOf i).toNat)
          case atStart => exact ⟨0, Nat.zero_le _, rfl, HB, HI, HM⟩
          case round =>
            clear HB HI HM hj hjl
            obtain ⟨j, hj, rfl, HB, HI, HM⟩ := hrel
            by_cases hjl : j < 34
            · have hd2 : decide ((j : Int) < 34) = true := by rw [decide_eq_true_eq]; omega
              go_wp2_with fail
              go_loopw [6] (fun m wr => ∃ t : Int, -1 ≤ t ∧ t ≤ 5 ∧ m = .int .i64 t ∧ Hid (Below w.heap.size w wr) ∧ Hid (IA wr w.heap.size 34) ∧ Hid (IA wr w1.heap.size 19)) (fun m _ => (5 - intOf m).toNat)
              case atStart => exact ⟨-1, by omega, by omega, rfl, HB, HI, HM⟩
              case round =>
                clear HB HI HM
                obtain ⟨t, t0, t1, rfl, HB, HI, HM⟩ := hrel
                by_cases htl : t < 5
                · have hd3 : decide (t < 5) = true := by rw [decide_eq_true_eq]; omega
                  obtain ⟨x, hx⟩ := HI.out.2 k hlt
                  obtain ⟨y, hy⟩ := HI.out.2 j hjl
                  go_wp2_with fail
                  have HX0 : Hid (Below wr.heap.size wr wr.drew) := hide (Below.refl _ _).drew
                  have hlx : w.heap.size < wr.heap.size := HI.out.1
                  have hly : w.heap.size < wr.heap.size := HI.out.1
                  have HCX : Hid (∀ W, Below wr.heap.size wr W → W.cell? ⟨w.heap.size, k, none⟩ = some (.int .i64 x)) := hide (fun W hW => (hW.cell (p := ⟨w.heap.size, k, none⟩) hlx).trans hx)
                  have HCY : Hid (∀ W, Below wr.heap.size wr W → W.cell? ⟨w.heap.size, j, none⟩ = some (.int .i64 y)) := hide (fun W hW => (hW.cell (p := ⟨w.heap.size, j, none⟩) hly).trans hy)
                  clear hx hy
                  haveI : Nonempty (GrowK wr) := ⟨⟨_, HX0.out⟩⟩
                  refine region_class (C := fun W => ∃ z : GrowK wr, W = z.1) (by kernel_rfl) (by kernel_rfl) ⟨⟨_, HX0.out⟩, rfl⟩ ?_
                  repeat (first
                    | go_big_quiet_skip
                    | (go_big_quiet_want; first
                        | (refine quiet_cell 3 _ rfl w.heap.size k rfl x (fun W ⟨z, hz⟩ => by subst hz; exact HCX.out _ z.2) Tryz.underlying3 ?_; simp only [Act.put, List.setIfInBounds_toArray, List.set_cons_zero, List.set_cons_succ]; go_big_quiet_on)
                        | (refine quiet_cell 3 _ rfl w.heap.size j rfl y (fun W ⟨z, hz⟩ => by subst hz; exact HCY.out _ z.2) Tryz.underlying3 ?_; simp only [Act.put, List.setIfInBounds_toArray, List.set_cons_zero, List.set_cons_succ]; go_big_quiet_on)
                        | (go_big_quiet_op; first
                            | go_big_quiet_on
                            | (apply Exists.intro; refine ⟨fun z => ?_, ?_⟩; (first
                                | (go_at_call 24; exact z.call (reckons_law _ _ _ _ _ z.1 (HL.out.below (below_on HB.out z.2 (Nat.le_refl _)))))); go_big_quiet_on))))
                  refine wpQuiet_nil ?_
                  rintro w3 ⟨z, rfl⟩
                  obtain ⟨w3, hw3⟩ := z
                  dsimp only
                  have HB3 := hide (below_on HB.out hw3 (Nat.le_refl _))
                  have HI3 := hide (HI.out.low hw3)
                  have HM3 := hide (HM.out.low hw3)
                  clear HX0 this hw3 HB HI HM HCX HCY
                  go_wp2_with fail
                  go_roundw
                  case rel => exact ⟨t + 1, by omega, by omega, by go_num, HB3, HI3, HM3⟩
                  case measure => simp [intOf]; omega
                · have ht' : t = 5 := by omega
                  subst ht'
                  go_wp2_with fail
                  go_roundw
                  case rel => exact ⟨j + 1, by omega, by go_num, HB, HI, HM⟩
                  case measure => simp [intOf]; omega
            · have hj' : j = 34 := by omega
              subst hj'
              rw [show ((34 : Nat) : Int) = 34 from rfl]
              go_wp2_with fail
              go_roundw
              case rel => exact ⟨k + 1, by omega, by go_num, HB, HI, HM⟩
              case measure => simp [intOf]; omega
    · have hk' : k = 34 := by omega
      subst hk'
      rw [show ((34 : Nat) : Int) = 34 from rfl]
      clear HI HM hlt hk
      go_wp2_with fail
      refine (HN.out _).mono ?_
      rintro e w2 ⟨rfl, hb2⟩
      have HB2 := hide (below_on HB.out hb2 (Nat.le_refl _))
      clear HB hb2 HN
      go_wp2_with fail
      go_loopw [9] (fun m wr => ∃ t : Int, 738911 ≤ t ∧ t ≤ 738951 ∧ m = .int .i64 t ∧ Hid (Below w.heap.size w wr)) (fun m _ => (738951 - intOf m).toNat)
      case atStart => exact ⟨738911, by omega, by omega, rfl, HB2⟩
      case round =>
        clear HB2
        obtain ⟨t, t0, t1, rfl, HB⟩ := hrel
        by_cases htl : t < 738951
        · have hd : decide (t < 738951) = true := by rw [decide_eq_true_eq]; omega
          go_wp2_with fail
          go_loopw [10] (fun m wr => ∃ s : Int, t ≤ s ∧ s ≤ 739011 ∧ m = .int .i64 s ∧ Hid (Below w.heap.size w wr)) (fun m _ => (739011 - intOf m).toNat)
          case atStart => exact ⟨t, by omega, by omega, rfl, HB⟩
          case round =>
            clear HB
            obtain ⟨s, s0, s1, rfl, HB⟩ := hrel
            by_cases hsl : s < 739011
            · have hd2 : decide (s < 739011) = true := by rw [decide_eq_true_eq]; omega
              go_wp2_with fail
              refine (reckons_law _ _ _ _ _ _ (HL.out.below HB.out)).mono ?_
              rintro e w3 ⟨rfl, hb3⟩
              have hB3 := below_on HB.out hb3 (Nat.le_refl _)
              go_wp2_with fail
              refine (reckons_law _ _ _ _ _ _ (HL.out.below hB3)).mono ?_
              rintro e w4 ⟨rfl, hb4⟩
              go_wp2_with fail
              go_roundw
              case rel => exact ⟨s + 1, by omega, by omega, by go_num, hide (below_on hB3 hb4 (Nat.le_refl _))⟩
              case measure => simp [intOf]; omega
            · have hs' : s = 739011 := by omega
              subst hs'
              go_wp2_with fail
              go_roundw
              case rel => exact ⟨t + 1, by omega, by omega, by go_num, HB⟩
              case measure => simp [intOf]; omega
        · have ht' : t = 738951 := by omega
          subst ht'
          go_wp2_with fail
          go_ret
          exact ⟨rfl, HB.out⟩
end Go.Proofs.YtdfeehimnfogmaaGreatDoor
