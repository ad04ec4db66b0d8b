/-
  My own text: the document's Check (printed by mkg7.py).
-/
import Derived.Test.YtdiamlajmcikhaaGreatDoorG6
namespace Go.Proofs.YtdiamlajmcikhaaGreatDoor
open Go.RowKit

set_option maxRecDepth 100000 in
set_option maxHeartbeats 2000000 in
theorem rSubmit_any (A S q h k cd ac as_ qt nm id : Int) (lv pv : Value) (L : List LG.El) (w : World) (hv : LG.RM w lv L) (hl : L.length ≤ 4611686018427387904) :
    Calls Tryz.prog 62 #[.agg #[.int .i64 A, .int .i64 S, .int .i64 q, .int .i64 h, .int .i64 k], .agg #[.int .i64 cd, .int .i64 ac, .int .i64 as_, .int .i64 qt, .int .i64 nm, .int .i64 id, lv, pv]] w fun e w' => e = .returned (.int .i64 (sbE A S id L)) ∧ Below w.heap.size w w' := by
  obtain ⟨a, cap, rfl, _, hr0⟩ := hv
  have HR := hide hr0
  clear hr0
  have B0 := hide (two_below w (.cells #[.int .i64 A, .int .i64 S, .int .i64 q, .int .i64 h, .int .i64 k] 34) (.cells #[.int .i64 cd, .int .i64 ac, .int .i64 as_, .int .i64 qt, .int .i64 nm, .int .i64 id, .slice a L.length cap, pv] 26))
  have X0 := two_new w (.cells #[.int .i64 A, .int .i64 S, .int .i64 q, .int .i64 h, .int .i64 k] 34) (.cells #[.int .i64 cd, .int .i64 ac, .int .i64 as_, .int .i64 qt, .int .i64 nm, .int .i64 id, .slice a L.length cap, pv] 26)
  have Z0 := hide X0.1
  have Z1 := hide X0.2
  clear X0
  obtain ⟨x0, x1, x2, x3, x4⟩ := five_cells Z0.out rfl
  obtain ⟨y0, y1, y2, y3, y4, y5, y6, y7⟩ := eight_cells Z1.out rfl
  cases h1 : decide (id < 1)
  case true =>
    rw [show sbE A S id L = 1 by unfold sbE idE; rw [if_neg]; have g : id < 1 := by simpa using h1
                                 rw [if_neg (by omega)]; decide]
    go_enter Tryz.func62, Tryz.ntmps62
    go_wp2_with fail
    go_ret
    exact ⟨rfl, B0.out⟩
  case false =>
    cases h2 : decide (1099511627776 < id)
    case true =>
      rw [show sbE A S id L = 1 by unfold sbE idE; rw [if_neg]; have g : 1099511627776 < id := by simpa using h2
                                   rw [if_neg (by omega)]; decide]
      go_enter Tryz.func62, Tryz.ntmps62
      go_wp2_with fail
      go_ret
      exact ⟨rfl, B0.out⟩
    case false =>
      have hi : idE id = 0 := if_pos (by have g : ¬ (id < 1) := by simpa using h1
                                         have g2 : ¬ (1099511627776 < id) := by simpa using h2
                                         omega)
      by_cases hn : L.length = 0
      · rw [show sbE A S id L = 2 by unfold sbE; rw [if_pos hi, if_pos hn]]
        have hd : ((L.length : Int) == 0) = true := by rw [hn]; rfl
        clear hi hn
        go_enter Tryz.func62, Tryz.ntmps62
        go_wp2_with fail
        go_ret
        exact ⟨rfl, B0.out⟩
      · have hd : ((L.length : Int) == 0) = false := by rw [beq_eq_false_iff_ne]; omega
        by_cases h4 : 4 < L.length
        · rw [show sbE A S id L = 5 by unfold sbE; rw [if_pos hi, if_neg hn, if_pos h4]]
          have hd2 : decide (4 < (L.length : Int)) = true := by rw [decide_eq_true_eq]; omega
          clear hi hn h4
          go_enter Tryz.func62, Tryz.ntmps62
          go_wp2_with fail
          go_ret
          exact ⟨rfl, B0.out⟩
        · have HS := hide (show sbE A S id L = fst0 (L.map (lgE A S)) by unfold sbE; rw [if_pos hi, if_neg hn, if_neg h4]; rfl)
          have hd2 : decide (4 < (L.length : Int)) = false := by rw [decide_eq_false_iff_not]; omega
          clear hi hn
          go_enter Tryz.func62, Tryz.ntmps62
          go_wp2_with fail
          generalize (w.alloc (.cells #[.int .i64 A, .int .i64 S, .int .i64 q, .int .i64 h, .int .i64 k] 34)).alloc (.cells #[.int .i64 cd, .int .i64 ac, .int .i64 as_, .int .i64 qt, .int .i64 nm, .int .i64 id, .slice a L.length cap, pv] 26) = w9 at *
          go_loopw [5] (fun i wr => ∃ j : Nat, j ≤ L.length ∧ i = .int .i64 (j : Int) ∧ Hid (fst0 ((L.map (lgE A S)).take j) = 0) ∧ Hid (Below w9.heap.size w9 wr)) (fun i _ => L.length - (intOf i).toNat)
          case atStart => exact ⟨0, Nat.zero_le _, rfl, hide (by rw [List.take_zero]; rfl), hide (Below.refl _ _)⟩
          case round =>
            clear x0 x1 x2 x3 x4 y0 y1 y2 y3 y4 y5 y6 y7
            obtain ⟨j, hj, rfl, HT, HW⟩ := hrel
            have ZZ := hide (blk_later Z0.out HW.out)
            have UU := hide (blk_later Z1.out HW.out)
            obtain ⟨x0, x1, x2, x3, x4⟩ := five_cells ZZ.out rfl
            obtain ⟨y0, y1, y2, y3, y4, y5, y6, y7⟩ := eight_cells UU.out rfl
            by_cases hlt : j < L.length
            · obtain ⟨⟨q0, q1, q2, q3, q4⟩, hp⟩ : ∃ p, L[j]? = some p := ⟨_, List.getElem?_eq_getElem hlt⟩
              obtain ⟨b, off, ha, hbl, hc⟩ := HR.out.resolve_left (fun h => by rw [h] at hlt; simp at hlt)
              subst ha
              have HBW := hide (B0.out.trans (HW.out.mono B0.out.size))
              have c0 : wr.cell? ⟨b, off + j * 5, none⟩ = some (.int .i64 q0) := (HBW.out.cell (p := ⟨b, _, none⟩) hbl).trans (hc j _ hp).1
              have c1 : wr.cell? ⟨b, off + j * 5 + 1, none⟩ = some (.int .i64 q1) := (HBW.out.cell (p := ⟨b, _, none⟩) hbl).trans (hc j _ hp).2.1
              have c2 : wr.cell? ⟨b, off + j * 5 + 2, none⟩ = some (.int .i64 q2) := (HBW.out.cell (p := ⟨b, _, none⟩) hbl).trans (hc j _ hp).2.2.1
              have c3 : wr.cell? ⟨b, off + j * 5 + 3, none⟩ = some (.int .i64 q3) := (HBW.out.cell (p := ⟨b, _, none⟩) hbl).trans (hc j _ hp).2.2.2.1
              have c4 : wr.cell? ⟨b, off + j * 5 + 4, none⟩ = some (.int .i64 q4) := (HBW.out.cell (p := ⟨b, _, none⟩) hbl).trans (hc j _ hp).2.2.2.2
              have HM := hide (show (L.map (lgE A S))[j]? = some (lgE A S (q0, q1, q2, q3, q4)) by rw [List.getElem?_map, hp]; rfl)
              have HK := hide (fun W : World => rLeg_any A S q h k q0 q1 q2 q3 q4 W)
              clear hc hp hbl
              by_cases h0 : lgE A S (q0, q1, q2, q3, q4) = 0
              · rw [h0] at HK
                have HT2 := hide ((fst0_take HT.out HM.out).trans h0)
                clear h0 HM
                go_wp2_with fail
                have HX0 := hide ((Below.refl wr.heap.size wr).drew)
                haveI : Nonempty (Gr wr) := ⟨⟨_, HX0.out⟩⟩
                have zx : ∀ x : Gr wr, _ := fun x => five_cells (blk_later ZZ.out x.2) rfl
                have zy : ∀ x : Gr wr, _ := fun x => eight_cells (blk_later UU.out x.2) rfl
                have zc0 : ∀ x : Gr wr, x.1.cell? ⟨b, off + j * 5, none⟩ = some (.int .i64 q0) := fun x => (x.2.cell (p := ⟨b, _, none⟩) (World.block_lt_of_cell? wr _ c0)).trans c0
                have zc1 : ∀ x : Gr wr, x.1.cell? ⟨b, off + j * 5 + 1, none⟩ = some (.int .i64 q1) := fun x => (x.2.cell (p := ⟨b, _, none⟩) (World.block_lt_of_cell? wr _ c1)).trans c1
                have zc2 : ∀ x : Gr wr, x.1.cell? ⟨b, off + j * 5 + 2, none⟩ = some (.int .i64 q2) := fun x => (x.2.cell (p := ⟨b, _, none⟩) (World.block_lt_of_cell? wr _ c2)).trans c2
                have zc3 : ∀ x : Gr wr, x.1.cell? ⟨b, off + j * 5 + 3, none⟩ = some (.int .i64 q3) := fun x => (x.2.cell (p := ⟨b, _, none⟩) (World.block_lt_of_cell? wr _ c3)).trans c3
                have zc4 : ∀ x : Gr wr, x.1.cell? ⟨b, off + j * 5 + 4, none⟩ = some (.int .i64 q4) := fun x => (x.2.cell (p := ⟨b, _, none⟩) (World.block_lt_of_cell? wr _ c4)).trans c4
                have zx0 := fun x => (zx x).1
                have zx1 := fun x => (zx x).2.1
                have zx2 := fun x => (zx x).2.2.1
                have zx3 := fun x => (zx x).2.2.2.1
                have zx4 := fun x => (zx x).2.2.2.2
                have zy6 := fun x => (zy x).2.2.2.2.2.2.1
                have zy7 := fun x => (zy x).2.2.2.2.2.2.2
                have k0 : (0 : Int) ≤ (j : Int) := by omega
                have k1 : (j : Int) < (L.length : Int) := by omega
                clear zx zy
                refine region_class (C := fun w' => ∃ x : Gr wr, w' = x.1) (by kernel_rfl) (by kernel_rfl) ⟨⟨_, HX0.out⟩, rfl⟩ ?_
                repeat (first
                  | go_big_quiet_skip
                  | (go_big_quiet_want; (go_big_quiet_op; first
                      | go_big_quiet_on
                      | (apply Exists.intro; refine ⟨fun x => ?_, ?_⟩; (go_at_call 82; exact x.call (HK.out x.1)); go_big_quiet_on))))
                refine wpQuiet_nil ?_
                rintro w5 ⟨x5, rfl⟩
                obtain ⟨w5, hx⟩ := x5
                dsimp only
                have HW2 := hide (HW.out.trans (hx.mono HW.out.size))
                clear hx this zx0 zx1 zx2 zx3 zx4 zy6 zy7 zc0 zc1 zc2 zc3 zc4
                go_wp2_with fail
                go_roundw
                case rel => exact ⟨j + 1, by omega, by go_num, HT2, HW2⟩
                case measure => simp [intOf]; omega
              · have HE := hide (fst0_hit HT.out HM.out h0)
                have hne : ((lgE A S (q0, q1, q2, q3, q4)) != 0) = true := by rw [bne_iff_ne]; exact h0
                clear h0 HM
                generalize lgE A S (q0, q1, q2, q3, q4) = e0 at *
                go_wp2_with fail
                have HX0 := hide ((Below.refl wr.heap.size wr).drew)
                haveI : Nonempty (Gr wr) := ⟨⟨_, HX0.out⟩⟩
                have zx : ∀ x : Gr wr, _ := fun x => five_cells (blk_later ZZ.out x.2) rfl
                have zy : ∀ x : Gr wr, _ := fun x => eight_cells (blk_later UU.out x.2) rfl
                have zc0 : ∀ x : Gr wr, x.1.cell? ⟨b, off + j * 5, none⟩ = some (.int .i64 q0) := fun x => (x.2.cell (p := ⟨b, _, none⟩) (World.block_lt_of_cell? wr _ c0)).trans c0
                have zc1 : ∀ x : Gr wr, x.1.cell? ⟨b, off + j * 5 + 1, none⟩ = some (.int .i64 q1) := fun x => (x.2.cell (p := ⟨b, _, none⟩) (World.block_lt_of_cell? wr _ c1)).trans c1
                have zc2 : ∀ x : Gr wr, x.1.cell? ⟨b, off + j * 5 + 2, none⟩ = some (.int .i64 q2) := fun x => (x.2.cell (p := ⟨b, _, none⟩) (World.block_lt_of_cell? wr _ c2)).trans c2
                have zc3 : ∀ x : Gr wr, x.1.cell? ⟨b, off + j * 5 + 3, none⟩ = some (.int .i64 q3) := fun x => (x.2.cell (p := ⟨b, _, none⟩) (World.block_lt_of_cell? wr _ c3)).trans c3
                have zc4 : ∀ x : Gr wr, x.1.cell? ⟨b, off + j * 5 + 4, none⟩ = some (.int .i64 q4) := fun x => (x.2.cell (p := ⟨b, _, none⟩) (World.block_lt_of_cell? wr _ c4)).trans c4
                have zx0 := fun x => (zx x).1
                have zx1 := fun x => (zx x).2.1
                have zx2 := fun x => (zx x).2.2.1
                have zx3 := fun x => (zx x).2.2.2.1
                have zx4 := fun x => (zx x).2.2.2.2
                have zy6 := fun x => (zy x).2.2.2.2.2.2.1
                have zy7 := fun x => (zy x).2.2.2.2.2.2.2
                have k0 : (0 : Int) ≤ (j : Int) := by omega
                have k1 : (j : Int) < (L.length : Int) := by omega
                clear zx zy
                refine region_class (C := fun w' => ∃ x : Gr wr, w' = x.1) (by kernel_rfl) (by kernel_rfl) ⟨⟨_, HX0.out⟩, rfl⟩ ?_
                repeat (first
                  | go_big_quiet_skip
                  | (go_big_quiet_want; (go_big_quiet_op; first
                      | go_big_quiet_on
                      | (apply Exists.intro; refine ⟨fun x => ?_, ?_⟩; (go_at_call 82; exact x.call (HK.out x.1)); go_big_quiet_on))))
                refine wpQuiet_nil ?_
                rintro w5 ⟨x5, rfl⟩
                obtain ⟨w5, hx⟩ := x5
                dsimp only
                have HW2 := hide (HW.out.trans (hx.mono HW.out.size))
                clear hx this zx0 zx1 zx2 zx3 zx4 zy6 zy7 zc0 zc1 zc2 zc3 zc4
                go_wp2_with fail
                go_ret
                exact ⟨congrArg (fun x => Ending.returned (.int .i64 x)) (show sbE A S id L = e0 by rw [HS.out, HE.out]).symm, B0.out.trans (HW2.out.mono B0.out.size)⟩
            · have e : j = L.length := by omega
              have HE : fst0 (L.map (lgE A S)) = 0 := by
                have h1 := HT.out
                rw [e, List.take_of_length_le (by simp)] at h1; exact h1
              have HE2 := hide HE
              clear e HE
              have hd : decide ((j : Int) < (L.length : Int)) = false := by rw [decide_eq_false_iff_not]; omega
              go_wp2_with fail
              go_ret
              exact ⟨congrArg (fun x => Ending.returned (.int .i64 x)) (show sbE A S id L = 0 by rw [HS.out, HE2.out]).symm, B0.out.trans (HW.out.mono B0.out.size)⟩
set_option maxRecDepth 100000 in
set_option maxHeartbeats 2000000 in
theorem rCheck_hd (A S q h k cd ac as_ qt nm id : Int) (lv pv : Value) (w : World) (hc : cd = 1 ∨ cd = 2) :
    Calls Tryz.prog 40 #[.agg #[.int .i64 A, .int .i64 S, .int .i64 q, .int .i64 h, .int .i64 k], .agg #[.int .i64 cd, .int .i64 ac, .int .i64 as_, .int .i64 qt, .int .i64 nm, .int .i64 id, lv, pv]] w fun e w' => e = .returned (.int .i64 (hdE A S ac as_ qt)) ∧ Below w.heap.size w w' := by
  have B0 := hide (two_below w (.cells #[.int .i64 A, .int .i64 S, .int .i64 q, .int .i64 h, .int .i64 k] 34) (.cells #[.int .i64 cd, .int .i64 ac, .int .i64 as_, .int .i64 qt, .int .i64 nm, .int .i64 id, lv, pv] 26))
  have X0 := two_new w (.cells #[.int .i64 A, .int .i64 S, .int .i64 q, .int .i64 h, .int .i64 k] 34) (.cells #[.int .i64 cd, .int .i64 ac, .int .i64 as_, .int .i64 qt, .int .i64 nm, .int .i64 id, lv, pv] 26)
  have Z0 := hide X0.1
  have Z1 := hide X0.2
  clear X0
  obtain ⟨x0, x1, x2, x3, x4⟩ := five_cells Z0.out rfl
  obtain ⟨y0, y1, y2, y3, y4, y5, y6, y7⟩ := eight_cells Z1.out rfl
  have HP := hide (fun W : World => place_any A S q h k ac as_ W)
  rcases hc with rfl | rfl
  · skip
    by_cases h0 : kyE A S ac as_ = 0
    · rw [h0] at HP
      cases hq : decide (qt < 1)
      case true =>
        rw [hdE_t h0 hq]
        go_enter Tryz.func40, Tryz.ntmps40
        go_wp2_with fail
        refine (HP.out _).mono ?_
        rintro e w1 ⟨rfl, hb⟩
        have HB := hide (B0.out.trans (hb.mono B0.out.size))
        have Z2 := hide (blk_later Z0.out hb)
        have Z3 := hide (blk_later Z1.out hb)
        clear hb x0 x1 x2 x3 x4 y0 y1 y2 y3 y4 y5 y6 y7
        obtain ⟨x0, x1, x2, x3, x4⟩ := five_cells Z2.out rfl
        obtain ⟨y0, y1, y2, y3, y4, y5, y6, y7⟩ := eight_cells Z3.out rfl
        go_wp2_with fail
        go_ret
        exact ⟨rfl, HB.out⟩
      case false =>
        rw [hdE_f h0 hq]
        go_enter Tryz.func40, Tryz.ntmps40
        go_wp2_with fail
        refine (HP.out _).mono ?_
        rintro e w1 ⟨rfl, hb⟩
        have HB := hide (B0.out.trans (hb.mono B0.out.size))
        have Z2 := hide (blk_later Z0.out hb)
        have Z3 := hide (blk_later Z1.out hb)
        clear hb x0 x1 x2 x3 x4 y0 y1 y2 y3 y4 y5 y6 y7
        obtain ⟨x0, x1, x2, x3, x4⟩ := five_cells Z2.out rfl
        obtain ⟨y0, y1, y2, y3, y4, y5, y6, y7⟩ := eight_cells Z3.out rfl
        go_wp2_with fail
        go_ret
        exact ⟨rfl, HB.out⟩
    · rw [hdE_n h0]
      have hne : ((kyE A S ac as_) != 0) = true := by rw [bne_iff_ne]; exact h0
      clear h0
      generalize kyE A S ac as_ = e0 at *
      go_enter Tryz.func40, Tryz.ntmps40
      go_wp2_with fail
      refine (HP.out _).mono ?_
      rintro e w1 ⟨rfl, hb⟩
      have HB := hide (B0.out.trans (hb.mono B0.out.size))
      have Z2 := hide (blk_later Z0.out hb)
      have Z3 := hide (blk_later Z1.out hb)
      clear hb x0 x1 x2 x3 x4 y0 y1 y2 y3 y4 y5 y6 y7
      obtain ⟨x0, x1, x2, x3, x4⟩ := five_cells Z2.out rfl
      obtain ⟨y0, y1, y2, y3, y4, y5, y6, y7⟩ := eight_cells Z3.out rfl
      go_wp2_with fail
      go_ret
      exact ⟨rfl, HB.out⟩
  · skip
    by_cases h0 : kyE A S ac as_ = 0
    · rw [h0] at HP
      cases hq : decide (qt < 1)
      case true =>
        rw [hdE_t h0 hq]
        go_enter Tryz.func40, Tryz.ntmps40
        go_wp2_with fail
        refine (HP.out _).mono ?_
        rintro e w1 ⟨rfl, hb⟩
        have HB := hide (B0.out.trans (hb.mono B0.out.size))
        have Z2 := hide (blk_later Z0.out hb)
        have Z3 := hide (blk_later Z1.out hb)
        clear hb x0 x1 x2 x3 x4 y0 y1 y2 y3 y4 y5 y6 y7
        obtain ⟨x0, x1, x2, x3, x4⟩ := five_cells Z2.out rfl
        obtain ⟨y0, y1, y2, y3, y4, y5, y6, y7⟩ := eight_cells Z3.out rfl
        go_wp2_with fail
        go_ret
        exact ⟨rfl, HB.out⟩
      case false =>
        rw [hdE_f h0 hq]
        go_enter Tryz.func40, Tryz.ntmps40
        go_wp2_with fail
        refine (HP.out _).mono ?_
        rintro e w1 ⟨rfl, hb⟩
        have HB := hide (B0.out.trans (hb.mono B0.out.size))
        have Z2 := hide (blk_later Z0.out hb)
        have Z3 := hide (blk_later Z1.out hb)
        clear hb x0 x1 x2 x3 x4 y0 y1 y2 y3 y4 y5 y6 y7
        obtain ⟨x0, x1, x2, x3, x4⟩ := five_cells Z2.out rfl
        obtain ⟨y0, y1, y2, y3, y4, y5, y6, y7⟩ := eight_cells Z3.out rfl
        go_wp2_with fail
        go_ret
        exact ⟨rfl, HB.out⟩
    · rw [hdE_n h0]
      have hne : ((kyE A S ac as_) != 0) = true := by rw [bne_iff_ne]; exact h0
      clear h0
      generalize kyE A S ac as_ = e0 at *
      go_enter Tryz.func40, Tryz.ntmps40
      go_wp2_with fail
      refine (HP.out _).mono ?_
      rintro e w1 ⟨rfl, hb⟩
      have HB := hide (B0.out.trans (hb.mono B0.out.size))
      have Z2 := hide (blk_later Z0.out hb)
      have Z3 := hide (blk_later Z1.out hb)
      clear hb x0 x1 x2 x3 x4 y0 y1 y2 y3 y4 y5 y6 y7
      obtain ⟨x0, x1, x2, x3, x4⟩ := five_cells Z2.out rfl
      obtain ⟨y0, y1, y2, y3, y4, y5, y6, y7⟩ := eight_cells Z3.out rfl
      go_wp2_with fail
      go_ret
      exact ⟨rfl, HB.out⟩
set_option maxRecDepth 100000 in
set_option maxHeartbeats 2000000 in
theorem rCheck_mk (A S q h k cd ac as_ qt nm id : Int) (lv pv : Value) (w : World) (hc : cd = 3 ∨ cd = 4) :
    Calls Tryz.prog 40 #[.agg #[.int .i64 A, .int .i64 S, .int .i64 q, .int .i64 h, .int .i64 k], .agg #[.int .i64 cd, .int .i64 ac, .int .i64 as_, .int .i64 qt, .int .i64 nm, .int .i64 id, lv, pv]] w fun e w' => e = .returned (.int .i64 (mkE A S ac as_ qt nm)) ∧ Below w.heap.size w w' := by
  have B0 := hide (two_below w (.cells #[.int .i64 A, .int .i64 S, .int .i64 q, .int .i64 h, .int .i64 k] 34) (.cells #[.int .i64 cd, .int .i64 ac, .int .i64 as_, .int .i64 qt, .int .i64 nm, .int .i64 id, lv, pv] 26))
  have X0 := two_new w (.cells #[.int .i64 A, .int .i64 S, .int .i64 q, .int .i64 h, .int .i64 k] 34) (.cells #[.int .i64 cd, .int .i64 ac, .int .i64 as_, .int .i64 qt, .int .i64 nm, .int .i64 id, lv, pv] 26)
  have Z0 := hide X0.1
  have Z1 := hide X0.2
  clear X0
  obtain ⟨x0, x1, x2, x3, x4⟩ := five_cells Z0.out rfl
  obtain ⟨y0, y1, y2, y3, y4, y5, y6, y7⟩ := eight_cells Z1.out rfl
  have HP := hide (fun W : World => place_any A S q h k ac as_ W)
  rcases hc with rfl | rfl
  · skip
    by_cases h0 : kyE A S ac as_ = 0
    · rw [h0] at HP
      cases hq : decide (qt < 1)
      case true =>
        rw [mkE_n (show ¬ hdE A S ac as_ qt = 0 by rw [hdE_t h0 hq]; decide)]
        rw [hdE_t h0 hq]
        go_enter Tryz.func40, Tryz.ntmps40
        go_wp2_with fail
        refine (HP.out _).mono ?_
        rintro e w1 ⟨rfl, hb⟩
        have HB := hide (B0.out.trans (hb.mono B0.out.size))
        have Z2 := hide (blk_later Z0.out hb)
        have Z3 := hide (blk_later Z1.out hb)
        clear hb x0 x1 x2 x3 x4 y0 y1 y2 y3 y4 y5 y6 y7
        obtain ⟨x0, x1, x2, x3, x4⟩ := five_cells Z2.out rfl
        obtain ⟨y0, y1, y2, y3, y4, y5, y6, y7⟩ := eight_cells Z3.out rfl
        go_wp2_with fail
        go_ret
        exact ⟨rfl, HB.out⟩
      case false =>
        have hh := hdE_f h0 hq
        cases hn : decide (nm < 1)
        case true =>
          rw [mkE_f hh (by have g : nm < 1 := by simpa using hn
                           simp; omega)]
          clear hh
          go_enter Tryz.func40, Tryz.ntmps40
          go_wp2_with fail
          refine (HP.out _).mono ?_
          rintro e w1 ⟨rfl, hb⟩
          have HB := hide (B0.out.trans (hb.mono B0.out.size))
          have Z2 := hide (blk_later Z0.out hb)
          have Z3 := hide (blk_later Z1.out hb)
          clear hb x0 x1 x2 x3 x4 y0 y1 y2 y3 y4 y5 y6 y7
          obtain ⟨x0, x1, x2, x3, x4⟩ := five_cells Z2.out rfl
          obtain ⟨y0, y1, y2, y3, y4, y5, y6, y7⟩ := eight_cells Z3.out rfl
          go_wp2_with fail
          go_ret
          exact ⟨rfl, HB.out⟩
        case false =>
          cases hm : decide (65536 < nm)
          case true =>
            rw [mkE_f hh (by have g : 65536 < nm := by simpa using hm
                             simp; omega)]
            clear hh
            go_enter Tryz.func40, Tryz.ntmps40
            go_wp2_with fail
            refine (HP.out _).mono ?_
            rintro e w1 ⟨rfl, hb⟩
            have HB := hide (B0.out.trans (hb.mono B0.out.size))
            have Z2 := hide (blk_later Z0.out hb)
            have Z3 := hide (blk_later Z1.out hb)
            clear hb x0 x1 x2 x3 x4 y0 y1 y2 y3 y4 y5 y6 y7
            obtain ⟨x0, x1, x2, x3, x4⟩ := five_cells Z2.out rfl
            obtain ⟨y0, y1, y2, y3, y4, y5, y6, y7⟩ := eight_cells Z3.out rfl
            go_wp2_with fail
            go_ret
            exact ⟨rfl, HB.out⟩
          case false =>
            rw [mkE_t hh (by have g : ¬ (65536 < nm) := by simpa using hm
                             have g2 : ¬ (nm < 1) := by simpa using hn
                             simp; omega)]
            clear hh
            go_enter Tryz.func40, Tryz.ntmps40
            go_wp2_with fail
            refine (HP.out _).mono ?_
            rintro e w1 ⟨rfl, hb⟩
            have HB := hide (B0.out.trans (hb.mono B0.out.size))
            have Z2 := hide (blk_later Z0.out hb)
            have Z3 := hide (blk_later Z1.out hb)
            clear hb x0 x1 x2 x3 x4 y0 y1 y2 y3 y4 y5 y6 y7
            obtain ⟨x0, x1, x2, x3, x4⟩ := five_cells Z2.out rfl
            obtain ⟨y0, y1, y2, y3, y4, y5, y6, y7⟩ := eight_cells Z3.out rfl
            go_wp2_with fail
            go_ret
            exact ⟨rfl, HB.out⟩
    · rw [mkE_n (show ¬ hdE A S ac as_ qt = 0 by rw [hdE_n h0]; exact h0)]
      rw [hdE_n h0]
      have hne : ((kyE A S ac as_) != 0) = true := by rw [bne_iff_ne]; exact h0
      clear h0
      generalize kyE A S ac as_ = e0 at *
      go_enter Tryz.func40, Tryz.ntmps40
      go_wp2_with fail
      refine (HP.out _).mono ?_
      rintro e w1 ⟨rfl, hb⟩
      have HB := hide (B0.out.trans (hb.mono B0.out.size))
      have Z2 := hide (blk_later Z0.out hb)
      have Z3 := hide (blk_later Z1.out hb)
      clear hb x0 x1 x2 x3 x4 y0 y1 y2 y3 y4 y5 y6 y7
      obtain ⟨x0, x1, x2, x3, x4⟩ := five_cells Z2.out rfl
      obtain ⟨y0, y1, y2, y3, y4, y5, y6, y7⟩ := eight_cells Z3.out rfl
      go_wp2_with fail
      go_ret
      exact ⟨rfl, HB.out⟩
  · skip
    by_cases h0 : kyE A S ac as_ = 0
    · rw [h0] at HP
      cases hq : decide (qt < 1)
      case true =>
        rw [mkE_n (show ¬ hdE A S ac as_ qt = 0 by rw [hdE_t h0 hq]; decide)]
        rw [hdE_t h0 hq]
        go_enter Tryz.func40, Tryz.ntmps40
        go_wp2_with fail
        refine (HP.out _).mono ?_
        rintro e w1 ⟨rfl, hb⟩
        have HB := hide (B0.out.trans (hb.mono B0.out.size))
        have Z2 := hide (blk_later Z0.out hb)
        have Z3 := hide (blk_later Z1.out hb)
        clear hb x0 x1 x2 x3 x4 y0 y1 y2 y3 y4 y5 y6 y7
        obtain ⟨x0, x1, x2, x3, x4⟩ := five_cells Z2.out rfl
        obtain ⟨y0, y1, y2, y3, y4, y5, y6, y7⟩ := eight_cells Z3.out rfl
        go_wp2_with fail
        go_ret
        exact ⟨rfl, HB.out⟩
      case false =>
        have hh := hdE_f h0 hq
        cases hn : decide (nm < 1)
        case true =>
          rw [mkE_f hh (by have g : nm < 1 := by simpa using hn
                           simp; omega)]
          clear hh
          go_enter Tryz.func40, Tryz.ntmps40
          go_wp2_with fail
          refine (HP.out _).mono ?_
          rintro e w1 ⟨rfl, hb⟩
          have HB := hide (B0.out.trans (hb.mono B0.out.size))
          have Z2 := hide (blk_later Z0.out hb)
          have Z3 := hide (blk_later Z1.out hb)
          clear hb x0 x1 x2 x3 x4 y0 y1 y2 y3 y4 y5 y6 y7
          obtain ⟨x0, x1, x2, x3, x4⟩ := five_cells Z2.out rfl
          obtain ⟨y0, y1, y2, y3, y4, y5, y6, y7⟩ := eight_cells Z3.out rfl
          go_wp2_with fail
          go_ret
          exact ⟨rfl, HB.out⟩
        case false =>
          cases hm : decide (65536 < nm)
          case true =>
            rw [mkE_f hh (by have g : 65536 < nm := by simpa using hm
                             simp; omega)]
            clear hh
            go_enter Tryz.func40, Tryz.ntmps40
            go_wp2_with fail
            refine (HP.out _).mono ?_
            rintro e w1 ⟨rfl, hb⟩
            have HB := hide (B0.out.trans (hb.mono B0.out.size))
            have Z2 := hide (blk_later Z0.out hb)
            have Z3 := hide (blk_later Z1.out hb)
            clear hb x0 x1 x2 x3 x4 y0 y1 y2 y3 y4 y5 y6 y7
            obtain ⟨x0, x1, x2, x3, x4⟩ := five_cells Z2.out rfl
            obtain ⟨y0, y1, y2, y3, y4, y5, y6, y7⟩ := eight_cells Z3.out rfl
            go_wp2_with fail
            go_ret
            exact ⟨rfl, HB.out⟩
          case false =>
            rw [mkE_t hh (by have g : ¬ (65536 < nm) := by simpa using hm
                             have g2 : ¬ (nm < 1) := by simpa using hn
                             simp; omega)]
            clear hh
            go_enter Tryz.func40, Tryz.ntmps40
            go_wp2_with fail
            refine (HP.out _).mono ?_
            rintro e w1 ⟨rfl, hb⟩
            have HB := hide (B0.out.trans (hb.mono B0.out.size))
            have Z2 := hide (blk_later Z0.out hb)
            have Z3 := hide (blk_later Z1.out hb)
            clear hb x0 x1 x2 x3 x4 y0 y1 y2 y3 y4 y5 y6 y7
            obtain ⟨x0, x1, x2, x3, x4⟩ := five_cells Z2.out rfl
            obtain ⟨y0, y1, y2, y3, y4, y5, y6, y7⟩ := eight_cells Z3.out rfl
            go_wp2_with fail
            go_ret
            exact ⟨rfl, HB.out⟩
    · rw [mkE_n (show ¬ hdE A S ac as_ qt = 0 by rw [hdE_n h0]; exact h0)]
      rw [hdE_n h0]
      have hne : ((kyE A S ac as_) != 0) = true := by rw [bne_iff_ne]; exact h0
      clear h0
      generalize kyE A S ac as_ = e0 at *
      go_enter Tryz.func40, Tryz.ntmps40
      go_wp2_with fail
      refine (HP.out _).mono ?_
      rintro e w1 ⟨rfl, hb⟩
      have HB := hide (B0.out.trans (hb.mono B0.out.size))
      have Z2 := hide (blk_later Z0.out hb)
      have Z3 := hide (blk_later Z1.out hb)
      clear hb x0 x1 x2 x3 x4 y0 y1 y2 y3 y4 y5 y6 y7
      obtain ⟨x0, x1, x2, x3, x4⟩ := five_cells Z2.out rfl
      obtain ⟨y0, y1, y2, y3, y4, y5, y6, y7⟩ := eight_cells Z3.out rfl
      go_wp2_with fail
      go_ret
      exact ⟨rfl, HB.out⟩
set_option maxRecDepth 100000 in
set_option maxHeartbeats 2000000 in
theorem rCheck_id (A S q h k cd ac as_ qt nm id : Int) (lv pv : Value) (w : World) (hc : cd = 6 ∨ cd = 7) :
    Calls Tryz.prog 40 #[.agg #[.int .i64 A, .int .i64 S, .int .i64 q, .int .i64 h, .int .i64 k], .agg #[.int .i64 cd, .int .i64 ac, .int .i64 as_, .int .i64 qt, .int .i64 nm, .int .i64 id, lv, pv]] w fun e w' => e = .returned (.int .i64 (idE id)) ∧ Below w.heap.size w w' := by
  have B0 := hide (two_below w (.cells #[.int .i64 A, .int .i64 S, .int .i64 q, .int .i64 h, .int .i64 k] 34) (.cells #[.int .i64 cd, .int .i64 ac, .int .i64 as_, .int .i64 qt, .int .i64 nm, .int .i64 id, lv, pv] 26))
  have X0 := two_new w (.cells #[.int .i64 A, .int .i64 S, .int .i64 q, .int .i64 h, .int .i64 k] 34) (.cells #[.int .i64 cd, .int .i64 ac, .int .i64 as_, .int .i64 qt, .int .i64 nm, .int .i64 id, lv, pv] 26)
  have Z0 := hide X0.1
  have Z1 := hide X0.2
  clear X0
  obtain ⟨x0, x1, x2, x3, x4⟩ := five_cells Z0.out rfl
  obtain ⟨y0, y1, y2, y3, y4, y5, y6, y7⟩ := eight_cells Z1.out rfl
  rcases hc with rfl | rfl
  · cases h1 : decide (id < 1)
    case true =>
      rw [idE_f (by have g : id < 1 := by simpa using h1
                    simp; omega)]
      go_enter Tryz.func40, Tryz.ntmps40
      go_wp2_with fail
      go_ret
      exact ⟨rfl, B0.out⟩
    case false =>
      cases h2 : decide (1099511627776 < id)
      case true =>
        rw [idE_f (by have g : 1099511627776 < id := by simpa using h2
                      simp; omega)]
        go_enter Tryz.func40, Tryz.ntmps40
        go_wp2_with fail
        go_ret
        exact ⟨rfl, B0.out⟩
      case false =>
        rw [idE_t (by have g : ¬ (1099511627776 < id) := by simpa using h2
                      have g2 : ¬ (id < 1) := by simpa using h1
                      simp; omega)]
        go_enter Tryz.func40, Tryz.ntmps40
        go_wp2_with fail
        go_ret
        exact ⟨rfl, B0.out⟩
  · cases h1 : decide (id < 1)
    case true =>
      rw [idE_f (by have g : id < 1 := by simpa using h1
                    simp; omega)]
      go_enter Tryz.func40, Tryz.ntmps40
      go_wp2_with fail
      go_ret
      exact ⟨rfl, B0.out⟩
    case false =>
      cases h2 : decide (1099511627776 < id)
      case true =>
        rw [idE_f (by have g : 1099511627776 < id := by simpa using h2
                      simp; omega)]
        go_enter Tryz.func40, Tryz.ntmps40
        go_wp2_with fail
        go_ret
        exact ⟨rfl, B0.out⟩
      case false =>
        rw [idE_t (by have g : ¬ (1099511627776 < id) := by simpa using h2
                      have g2 : ¬ (id < 1) := by simpa using h1
                      simp; omega)]
        go_enter Tryz.func40, Tryz.ntmps40
        go_wp2_with fail
        go_ret
        exact ⟨rfl, B0.out⟩
set_option maxRecDepth 100000 in
set_option maxHeartbeats 2000000 in
theorem rCheck_sb (A S q h k ac as_ qt nm id : Int) (lv pv : Value) (L : List LG.El) (w : World) (hv : LG.RM w lv L) (hl : L.length ≤ 4611686018427387904) :
    Calls Tryz.prog 40 #[.agg #[.int .i64 A, .int .i64 S, .int .i64 q, .int .i64 h, .int .i64 k], .agg #[.int .i64 5, .int .i64 ac, .int .i64 as_, .int .i64 qt, .int .i64 nm, .int .i64 id, lv, pv]] w fun e w' => e = .returned (.int .i64 (sbE A S id L)) ∧ Below w.heap.size w w' := by
  have B0 := hide (two_below w (.cells #[.int .i64 A, .int .i64 S, .int .i64 q, .int .i64 h, .int .i64 k] 34) (.cells #[.int .i64 5, .int .i64 ac, .int .i64 as_, .int .i64 qt, .int .i64 nm, .int .i64 id, lv, pv] 26))
  have X0 := two_new w (.cells #[.int .i64 A, .int .i64 S, .int .i64 q, .int .i64 h, .int .i64 k] 34) (.cells #[.int .i64 5, .int .i64 ac, .int .i64 as_, .int .i64 qt, .int .i64 nm, .int .i64 id, lv, pv] 26)
  have Z0 := hide X0.1
  have Z1 := hide X0.2
  clear X0
  obtain ⟨x0, x1, x2, x3, x4⟩ := five_cells Z0.out rfl
  obtain ⟨y0, y1, y2, y3, y4, y5, y6, y7⟩ := eight_cells Z1.out rfl
  have HS := hide (fun (W : World) (hb : Below w.heap.size w W) => rSubmit_any A S q h k 5 ac as_ qt nm id lv pv L W (hv.later hb) hl)
  clear hv hl
  go_enter Tryz.func40, Tryz.ntmps40
  go_wp2_with fail
  refine (HS.out _ B0.out).mono ?_
  rintro e w1 ⟨rfl, hb⟩
  have HB := hide (B0.out.trans (hb.mono B0.out.size))
  clear hb
  go_wp2_with fail
  go_ret
  exact ⟨rfl, HB.out⟩
set_option maxRecDepth 100000 in
set_option maxHeartbeats 2000000 in
theorem rCheck_sn (A S q h k ac as_ qt nm id : Int) (lv pv : Value) (L : List KY.El) (w : World) (hv : KY.RM w pv L) (hl : L.length ≤ 4611686018427387904) :
    Calls Tryz.prog 40 #[.agg #[.int .i64 A, .int .i64 S, .int .i64 q, .int .i64 h, .int .i64 k], .agg #[.int .i64 8, .int .i64 ac, .int .i64 as_, .int .i64 qt, .int .i64 nm, .int .i64 id, lv, pv]] w fun e w' => e = .returned (.int .i64 (snE A S L)) ∧ Below w.heap.size w w' := by
  obtain ⟨a, cap, rfl, _, hr0⟩ := hv
  have HR := hide hr0
  clear hr0
  have B0 := hide (two_below w (.cells #[.int .i64 A, .int .i64 S, .int .i64 q, .int .i64 h, .int .i64 k] 34) (.cells #[.int .i64 8, .int .i64 ac, .int .i64 as_, .int .i64 qt, .int .i64 nm, .int .i64 id, lv, .slice a L.length cap] 26))
  have X0 := two_new w (.cells #[.int .i64 A, .int .i64 S, .int .i64 q, .int .i64 h, .int .i64 k] 34) (.cells #[.int .i64 8, .int .i64 ac, .int .i64 as_, .int .i64 qt, .int .i64 nm, .int .i64 id, lv, .slice a L.length cap] 26)
  have Z0 := hide X0.1
  have Z1 := hide X0.2
  clear X0
  obtain ⟨x0, x1, x2, x3, x4⟩ := five_cells Z0.out rfl
  obtain ⟨y0, y1, y2, y3, y4, y5, y6, y7⟩ := eight_cells Z1.out rfl
  by_cases h4 : 64 < L.length
  · rw [show snE A S L = 5 from if_pos h4]
    have hd2 : decide (64 < (L.length : Int)) = true := by rw [decide_eq_true_eq]; omega
    clear h4
    go_enter Tryz.func40, Tryz.ntmps40
    go_wp2_with fail
    go_ret
    exact ⟨rfl, B0.out⟩
  · have HS := hide (show snE A S L = fst0 (L.map fun p => kyE A S p.1 p.2) by unfold snE; rw [if_neg h4]; rfl)
    have hd2 : decide (64 < (L.length : Int)) = false := by rw [decide_eq_false_iff_not]; omega
    go_enter Tryz.func40, Tryz.ntmps40
    go_wp2_with fail
    generalize (w.alloc (.cells #[.int .i64 A, .int .i64 S, .int .i64 q, .int .i64 h, .int .i64 k] 34)).alloc (.cells #[.int .i64 8, .int .i64 ac, .int .i64 as_, .int .i64 qt, .int .i64 nm, .int .i64 id, lv, .slice a L.length cap] 26) = w9 at *
    go_loopw [7] (fun i wr => ∃ j : Nat, j ≤ L.length ∧ i = .int .i64 (j : Int) ∧ Hid (fst0 ((L.map (fun p => kyE A S p.1 p.2)).take j) = 0) ∧ Hid (Below w9.heap.size w9 wr)) (fun i _ => L.length - (intOf i).toNat)
    case atStart => exact ⟨0, Nat.zero_le _, rfl, hide (by rw [List.take_zero]; rfl), hide (Below.refl _ _)⟩
    case round =>
      clear x0 x1 x2 x3 x4 y0 y1 y2 y3 y4 y5 y6 y7
      obtain ⟨j, hj, rfl, HT, HW⟩ := hrel
      have ZZ := hide (blk_later Z0.out HW.out)
      have UU := hide (blk_later Z1.out HW.out)
      obtain ⟨x0, x1, x2, x3, x4⟩ := five_cells ZZ.out rfl
      obtain ⟨y0, y1, y2, y3, y4, y5, y6, y7⟩ := eight_cells UU.out rfl
      by_cases hlt : j < L.length
      · obtain ⟨⟨q0, q1⟩, hp⟩ : ∃ p, L[j]? = some p := ⟨_, List.getElem?_eq_getElem hlt⟩
        obtain ⟨b, off, ha, hbl, hc⟩ := HR.out.resolve_left (fun h => by rw [h] at hlt; simp at hlt)
        subst ha
        have HBW := hide (B0.out.trans (HW.out.mono B0.out.size))
        have c0 : wr.cell? ⟨b, off + j * 2, none⟩ = some (.int .i64 q0) := (HBW.out.cell (p := ⟨b, _, none⟩) hbl).trans (hc j _ hp).1
        have c1 : wr.cell? ⟨b, off + j * 2 + 1, none⟩ = some (.int .i64 q1) := (HBW.out.cell (p := ⟨b, _, none⟩) hbl).trans (hc j _ hp).2
        have HM := hide (show (L.map (fun p => kyE A S p.1 p.2))[j]? = some (kyE A S q0 q1) by rw [List.getElem?_map, hp]; rfl)
        have HK := hide (fun W : World => place_any A S q h k q0 q1 W)
        clear hc hp hbl
        by_cases h0 : kyE A S q0 q1 = 0
        · rw [h0] at HK
          have HT2 := hide ((fst0_take HT.out HM.out).trans h0)
          clear h0 HM
          go_wp2_with fail
          have HX0 := hide ((Below.refl wr.heap.size wr).drew)
          haveI : Nonempty (Gr wr) := ⟨⟨_, HX0.out⟩⟩
          have zx : ∀ x : Gr wr, _ := fun x => five_cells (blk_later ZZ.out x.2) rfl
          have zy : ∀ x : Gr wr, _ := fun x => eight_cells (blk_later UU.out x.2) rfl
          have zc0 : ∀ x : Gr wr, x.1.cell? ⟨b, off + j * 2, none⟩ = some (.int .i64 q0) := fun x => (x.2.cell (p := ⟨b, _, none⟩) (World.block_lt_of_cell? wr _ c0)).trans c0
          have zc1 : ∀ x : Gr wr, x.1.cell? ⟨b, off + j * 2 + 1, none⟩ = some (.int .i64 q1) := fun x => (x.2.cell (p := ⟨b, _, none⟩) (World.block_lt_of_cell? wr _ c1)).trans c1
          have zx0 := fun x => (zx x).1
          have zx1 := fun x => (zx x).2.1
          have zx2 := fun x => (zx x).2.2.1
          have zx3 := fun x => (zx x).2.2.2.1
          have zx4 := fun x => (zx x).2.2.2.2
          have zy6 := fun x => (zy x).2.2.2.2.2.2.1
          have zy7 := fun x => (zy x).2.2.2.2.2.2.2
          have k0 : (0 : Int) ≤ (j : Int) := by omega
          have k1 : (j : Int) < (L.length : Int) := by omega
          clear zx zy
          refine region_class (C := fun w' => ∃ x : Gr wr, w' = x.1) (by kernel_rfl) (by kernel_rfl) ⟨⟨_, HX0.out⟩, rfl⟩ ?_
          repeat (first
            | go_big_quiet_skip
            | (go_big_quiet_want; (go_big_quiet_op; first
                | go_big_quiet_on
                | (apply Exists.intro; refine ⟨fun x => ?_, ?_⟩; (go_at_call 61; exact x.call (HK.out x.1)); go_big_quiet_on))))
          refine wpQuiet_nil ?_
          rintro w5 ⟨x5, rfl⟩
          obtain ⟨w5, hx⟩ := x5
          dsimp only
          have HW2 := hide (HW.out.trans (hx.mono HW.out.size))
          clear hx this zx0 zx1 zx2 zx3 zx4 zy6 zy7 zc0 zc1
          go_wp2_with fail
          go_roundw
          case rel => exact ⟨j + 1, by omega, by go_num, HT2, HW2⟩
          case measure => simp [intOf]; omega
        · have HE := hide (fst0_hit HT.out HM.out h0)
          have hne : ((kyE A S q0 q1) != 0) = true := by rw [bne_iff_ne]; exact h0
          clear h0 HM
          generalize kyE A S q0 q1 = e0 at *
          go_wp2_with fail
          have HX0 := hide ((Below.refl wr.heap.size wr).drew)
          haveI : Nonempty (Gr wr) := ⟨⟨_, HX0.out⟩⟩
          have zx : ∀ x : Gr wr, _ := fun x => five_cells (blk_later ZZ.out x.2) rfl
          have zy : ∀ x : Gr wr, _ := fun x => eight_cells (blk_later UU.out x.2) rfl
          have zc0 : ∀ x : Gr wr, x.1.cell? ⟨b, off + j * 2, none⟩ = some (.int .i64 q0) := fun x => (x.2.cell (p := ⟨b, _, none⟩) (World.block_lt_of_cell? wr _ c0)).trans c0
          have zc1 : ∀ x : Gr wr, x.1.cell? ⟨b, off + j * 2 + 1, none⟩ = some (.int .i64 q1) := fun x => (x.2.cell (p := ⟨b, _, none⟩) (World.block_lt_of_cell? wr _ c1)).trans c1
          have zx0 := fun x => (zx x).1
          have zx1 := fun x => (zx x).2.1
          have zx2 := fun x => (zx x).2.2.1
          have zx3 := fun x => (zx x).2.2.2.1
          have zx4 := fun x => (zx x).2.2.2.2
          have zy6 := fun x => (zy x).2.2.2.2.2.2.1
          have zy7 := fun x => (zy x).2.2.2.2.2.2.2
          have k0 : (0 : Int) ≤ (j : Int) := by omega
          have k1 : (j : Int) < (L.length : Int) := by omega
          clear zx zy
          refine region_class (C := fun w' => ∃ x : Gr wr, w' = x.1) (by kernel_rfl) (by kernel_rfl) ⟨⟨_, HX0.out⟩, rfl⟩ ?_
          repeat (first
            | go_big_quiet_skip
            | (go_big_quiet_want; (go_big_quiet_op; first
                | go_big_quiet_on
                | (apply Exists.intro; refine ⟨fun x => ?_, ?_⟩; (go_at_call 61; exact x.call (HK.out x.1)); go_big_quiet_on))))
          refine wpQuiet_nil ?_
          rintro w5 ⟨x5, rfl⟩
          obtain ⟨w5, hx⟩ := x5
          dsimp only
          have HW2 := hide (HW.out.trans (hx.mono HW.out.size))
          clear hx this zx0 zx1 zx2 zx3 zx4 zy6 zy7 zc0 zc1
          go_wp2_with fail
          go_ret
          exact ⟨congrArg (fun x => Ending.returned (.int .i64 x)) (show snE A S L = e0 by rw [HS.out, HE.out]).symm, B0.out.trans (HW2.out.mono B0.out.size)⟩
      · have e : j = L.length := by omega
        have HE : fst0 (L.map (fun p => kyE A S p.1 p.2)) = 0 := by
          have h1 := HT.out
          rw [e, List.take_of_length_le (by simp)] at h1; exact h1
        have HE2 := hide HE
        clear e HE
        have hd : decide ((j : Int) < (L.length : Int)) = false := by rw [decide_eq_false_iff_not]; omega
        go_wp2_with fail
        go_ret
        exact ⟨congrArg (fun x => Ending.returned (.int .i64 x)) (show snE A S L = 0 by rw [HS.out, HE2.out]).symm, B0.out.trans (HW.out.mono B0.out.size)⟩
set_option maxRecDepth 100000 in
set_option maxHeartbeats 2000000 in
theorem rCheck_bad (A S q h k cd ac as_ qt nm id : Int) (lv pv : Value) (w : World) (hc : ¬ (1 ≤ cd ∧ cd ≤ 8)) :
    Calls Tryz.prog 40 #[.agg #[.int .i64 A, .int .i64 S, .int .i64 q, .int .i64 h, .int .i64 k], .agg #[.int .i64 cd, .int .i64 ac, .int .i64 as_, .int .i64 qt, .int .i64 nm, .int .i64 id, lv, pv]] w fun e w' => e = .returned (.int .i64 13) ∧ Below w.heap.size w w' := by
  have B0 := hide (two_below w (.cells #[.int .i64 A, .int .i64 S, .int .i64 q, .int .i64 h, .int .i64 k] 34) (.cells #[.int .i64 cd, .int .i64 ac, .int .i64 as_, .int .i64 qt, .int .i64 nm, .int .i64 id, lv, pv] 26))
  have X0 := two_new w (.cells #[.int .i64 A, .int .i64 S, .int .i64 q, .int .i64 h, .int .i64 k] 34) (.cells #[.int .i64 cd, .int .i64 ac, .int .i64 as_, .int .i64 qt, .int .i64 nm, .int .i64 id, lv, pv] 26)
  have Z0 := hide X0.1
  have Z1 := hide X0.2
  clear X0
  obtain ⟨x0, x1, x2, x3, x4⟩ := five_cells Z0.out rfl
  obtain ⟨y0, y1, y2, y3, y4, y5, y6, y7⟩ := eight_cells Z1.out rfl
  have n1 : (cd == 1) = false := by rw [beq_eq_false_iff_ne]; omega
  have n2 : (cd == 2) = false := by rw [beq_eq_false_iff_ne]; omega
  have n3 : (cd == 3) = false := by rw [beq_eq_false_iff_ne]; omega
  have n4 : (cd == 4) = false := by rw [beq_eq_false_iff_ne]; omega
  have n5 : (cd == 5) = false := by rw [beq_eq_false_iff_ne]; omega
  have n6 : (cd == 6) = false := by rw [beq_eq_false_iff_ne]; omega
  have n7 : (cd == 7) = false := by rw [beq_eq_false_iff_ne]; omega
  have n8 : (cd == 8) = false := by rw [beq_eq_false_iff_ne]; omega
  clear hc
  go_enter Tryz.func40, Tryz.ntmps40
  go_wp2_with fail
  go_ret
  exact ⟨rfl, B0.out⟩
theorem rCheck_any (A S q h k : Int) (o : OpX) (lv pv : Value) (w : World) (hL : LG.RM w lv o.legs) (hP : KY.RM w pv o.pairs) (hl : o.legs.length ≤ 4611686018427387904) (hp : o.pairs.length ≤ 4611686018427387904) :
    Calls Tryz.prog 40 #[.agg #[.int .i64 A, .int .i64 S, .int .i64 q, .int .i64 h, .int .i64 k], opV o lv pv] w fun e w' => e = .returned (.int .i64 (chk A S o)) ∧ Below w.heap.size w w' := by
  unfold opV
  by_cases hc : 1 ≤ o.code ∧ o.code ≤ 8
  · obtain e | e | e | e | e | e | e | e : o.code = 1 ∨ o.code = 2 ∨ o.code = 3 ∨ o.code = 4 ∨ o.code = 5 ∨ o.code = 6 ∨ o.code = 7 ∨ o.code = 8 := by omega
    · rw [chk_1 e]; exact rCheck_hd A S q h k _ _ _ _ _ _ lv pv w (.inl e)
    · rw [chk_2 e]; exact rCheck_hd A S q h k _ _ _ _ _ _ lv pv w (.inr e)
    · rw [chk_3 e]; exact rCheck_mk A S q h k _ _ _ _ _ _ lv pv w (.inl e)
    · rw [chk_4 e]; exact rCheck_mk A S q h k _ _ _ _ _ _ lv pv w (.inr e)
    · rw [chk_5 e, e]; exact rCheck_sb A S q h k _ _ _ _ _ lv pv _ w hL hl
    · rw [chk_6 e]; exact rCheck_id A S q h k _ _ _ _ _ _ lv pv w (.inl e)
    · rw [chk_7 e]; exact rCheck_id A S q h k _ _ _ _ _ _ lv pv w (.inr e)
    · rw [chk_8 e, e]; exact rCheck_sn A S q h k _ _ _ _ _ lv pv _ w hP hp
  · rw [chk_0 hc]; exact rCheck_bad A S q h k _ _ _ _ _ _ lv pv w hc
end Go.Proofs.YtdiamlajmcikhaaGreatDoor
