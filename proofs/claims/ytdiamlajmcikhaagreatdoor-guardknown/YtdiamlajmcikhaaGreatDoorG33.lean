/-
  My own text: knownWide() of GuardKnown (printed by mkg29.py).
-/
import Derived.Test.YtdiamlajmcikhaaGreatDoorG28a
import Derived.Test.YtdiamlajmcikhaaGreatDoorG31
import Derived.Deep.CutRange
namespace Go.Proofs.YtdiamlajmcikhaaGreatDoor
open Go.RowKit

theorem cell_al {W : World} {p : Addr} {v : Value} {o : Obj} (h : W.cell? p = some v) : (W.alloc o).cell? p = some v := (((Below.refl W.heap.size W).alloc (Nat.le_refl _) o).cell (World.block_lt_of_cell? _ _ h)).trans h
/-- An operation that was laid, with one leg and one pair. -/
structure OW (W0 : World) (W : World) (g : Nat) (c a s : Int) (l : LG.El) (p : KY.El) : Prop where
  low : Below W0.heap.size W0 W
  is : ∃ gl gk : Nat, W.heap[g]? = some (.cells #[.int .i64 c, .int .i64 a, .int .i64 s, .int .i64 1, .int .i64 1, .int .i64 1, .slice (some ⟨gl, 0, none⟩) 1 1, .slice (some ⟨gk, 0, none⟩) 1 1] 26 (0, 0)) ∧ LG.RM W (.slice (some ⟨gl, 0, none⟩) 1 1) [l] ∧ KY.RM W (.slice (some ⟨gk, 0, none⟩) 1 1) [p]
theorem OW.later {W0 W W' : World} {g : Nat} {c a s : Int} {l : LG.El} {p : KY.El} (h : OW W0 W g c a s l p) (hb : Below W.heap.size W W') : OW W0 W' g c a s l p := by
  obtain ⟨gl, gk, h1, h2, h3⟩ := h.is
  exact ⟨h.low.trans (hb.mono h.low.size), gl, gk, blk_later h1 hb, h2.later hb, h3.later hb⟩
theorem OW.mk2 {W0 W : World} {g gl gk : Nat} {c a s l0 l1 l2 l3 l4 p0 p1 : Int} (low : Below W0.heap.size W0 W) (h : W.heap[g]? = some (.cells #[.int .i64 c, .int .i64 a, .int .i64 s, .int .i64 1, .int .i64 1, .int .i64 1, .slice (some ⟨gl, 0, none⟩) 1 1, .slice (some ⟨gk, 0, none⟩) 1 1] 26 (0, 0)))
    (hl : W.heap[gl]? = some (.cells #[.int .i64 l0, .int .i64 l1, .int .i64 l2, .int .i64 l3, .int .i64 l4] 38 (0, 0))) (hk : W.heap[gk]? = some (.cells #[.int .i64 p0, .int .i64 p1] 40 (0, 0))) : OW W0 W g c a s (l0, l1, l2, l3, l4) (p0, p1) :=
  ⟨low, gl, gk, h, (LG.om_blk (B := 0) (L := [(l0, l1, l2, l3, l4)]) hl rfl (Nat.zero_le _) (show 1 ≤ 1000 by decide)).rm, (KY.om_blk (B := 0) (L := [(p0, p1)]) hk rfl (Nat.zero_le _) (show 1 ≤ 1000 by decide)).rm⟩
theorem tn1 (w : World) (o1 o2 o3 : Obj) : (((w.alloc o1).alloc o2).alloc o3).drew.heap[w.heap.size]? = some o1 := alloc_block (alloc_block (alloc_new w o1))
theorem tn2 (w : World) (o1 o2 o3 : Obj) : (((w.alloc o1).alloc o2).alloc o3).drew.heap[w.heap.size + 1]? = some o2 := by
  have s1 : (w.alloc o1).heap.size = w.heap.size + 1 := by simp
  have n2 := alloc_new (w.alloc o1) o2
  rw [s1] at n2
  exact alloc_block n2
theorem tn3 (w : World) (o1 o2 o3 : Obj) : (((w.alloc o1).alloc o2).alloc o3).drew.heap[w.heap.size + 1 + 1]? = some o3 := by
  have s2 : ((w.alloc o1).alloc o2).heap.size = w.heap.size + 1 + 1 := by simp
  have n3 := alloc_new ((w.alloc o1).alloc o2) o3
  rw [s2] at n3
  exact n3
theorem three_low {W0 w : World} (h : Below W0.heap.size W0 w) (o1 o2 o3 : Obj) : Below W0.heap.size W0 (((w.alloc o1).alloc o2).alloc o3).drew := by
  have b1 := h.alloc h.size o1
  have b2 := b1.alloc b1.size o2
  exact (b2.alloc b2.size o3).drew
set_option maxRecDepth 100000 in
set_option maxHeartbeats 8000000 in
theorem knownWide_any (w : World) (hK : KG w) :
    Calls Tryz.prog 8 #[] w fun e w' => e = .returned (.bool true) ∧ Below w.heap.size w w' := by
  have HK := hide hK
  clear hK
  have HB0 := hide ((Below.refl w.heap.size w).alloc (Nat.le_refl _) (.cells #[.int .i64 (-9223372036854775808), .int .i64 (-1), .int .i64 0, .int .i64 1, .int .i64 65535, .int .i64 65536, .int .i64 65537, .int .i64 1099511627776, .int .i64 9223372036854775807] 3))
  have NE := hide (alloc_new w (.cells #[.int .i64 (-9223372036854775808), .int .i64 (-1), .int .i64 0, .int .i64 1, .int .i64 65535, .int .i64 65536, .int .i64 65537, .int .i64 1099511627776, .int .i64 9223372036854775807] 3))
  go_enter Tryz.func8, Tryz.ntmps8
  go_wp2_with fail
  generalize w.alloc (.cells #[.int .i64 (-9223372036854775808), .int .i64 (-1), .int .i64 0, .int .i64 1, .int .i64 65535, .int .i64 65536, .int .i64 65537, .int .i64 1099511627776, .int .i64 9223372036854775807] 3) = W0 at HB0 NE ⊢
  obtain ⟨ge, hge⟩ : ∃ g, w.heap.size = g := ⟨_, rfl⟩
  rw [hge] at NE ⊢
  clear hge
  have HR := hide (Below.refl W0.heap.size W0)
  go_loopw [2] (fun i wr => ∃ k : Nat, k ≤ 9 ∧ i = .int .i64 (k : Int) ∧ Hid (Below W0.heap.size W0 wr)) (fun i _ => 9 - (intOf i).toNat)
  case atStart => exact ⟨0, by omega, rfl, HR⟩
  case round =>
    clear HR
    obtain ⟨i, hi, rfl, HR⟩ := hrel
    by_cases hlt : i < 9
    · have hd : decide ((i : Int) < 9) = true := by rw [decide_eq_true_eq]; omega
      have k0 : (0 : Int) ≤ (i : Int) := by omega
      have k1 : (i : Int) < 9 := by omega
      go_wp2_with fail
      go_loopw [3] (fun i wr => ∃ k : Nat, k ≤ 9 ∧ i = .int .i64 (k : Int) ∧ Hid (Below W0.heap.size W0 wr)) (fun i _ => 9 - (intOf i).toNat)
      case atStart => exact ⟨0, by omega, rfl, HR⟩
      case round =>
        clear HR
        obtain ⟨k, hk, rfl, HR⟩ := hrel
        by_cases hltk : k < 9
        · have hdk : decide ((k : Int) < 9) = true := by rw [decide_eq_true_eq]; omega
          obtain ⟨x, hx⟩ := num_at (L := [-9223372036854775808, -1, 0, 1, 65535, 65536, 65537, 1099511627776, 9223372036854775807]) (blk_later NE.out HR.out) rfl hlt
          have b1 := (Below.refl wr.heap.size wr).alloc (Nat.le_refl _) (.cells #[.int .i64 x, .int .i64 3, .int .i64 0, .int .i64 0, .int .i64 0] 34)
          have hx2 : (wr.alloc (.cells #[.int .i64 x, .int .i64 3, .int .i64 0, .int .i64 0, .int .i64 0] 34)).cell? ⟨ge, i, none⟩ = some (.int .i64 x) := (b1.cell (World.block_lt_of_cell? _ _ hx)).trans hx
          obtain ⟨n1, n2⟩ := two_new wr (.cells #[.int .i64 x, .int .i64 3, .int .i64 0, .int .i64 0, .int .i64 0] 34) (.cells #[.int .i64 3, .int .i64 x, .int .i64 0, .int .i64 0, .int .i64 0] 34)
          have HR1 := hide (HR.out.trans ((two_below wr (.cells #[.int .i64 x, .int .i64 3, .int .i64 0, .int .i64 0, .int .i64 0] 34) (.cells #[.int .i64 3, .int .i64 x, .int .i64 0, .int .i64 0, .int .i64 0] 34)).mono HR.out.size))
          have C1 := hide n1
          have C2 := hide n2
          have m0 : (0 : Int) ≤ (k : Int) := by omega
          have m1 : (k : Int) < 9 := by omega
          clear b1 n1 n2 HR
          go_wp2_with fail
          clear hx hx2
          generalize (wr.alloc (.cells #[.int .i64 x, .int .i64 3, .int .i64 0, .int .i64 0, .int .i64 0] 34)).alloc (.cells #[.int .i64 3, .int .i64 x, .int .i64 0, .int .i64 0, .int .i64 0] 34) = V at HR1 C1 C2 ⊢
          obtain ⟨gc, hgc⟩ : ∃ g, wr.heap.size = g := ⟨_, rfl⟩
          rw [hgc] at C1 C2 ⊢
          clear hgc
          go_loopw [6] (fun i wr => ∃ k : Nat, 1 ≤ k ∧ k ≤ 9 ∧ i = .int .i64 (k : Int) ∧ Hid (Below V.heap.size V wr)) (fun i _ => 9 - (intOf i).toNat)
          case atStart => exact ⟨1, by omega, by omega, rfl, hide (Below.refl _ _)⟩
          case round =>
            obtain ⟨cd, hcd0, hcd1, rfl, HV⟩ := hrel
            by_cases hltc : cd ≤ 8
            · have hdc : decide ((cd : Int) ≤ 8) = true := by rw [decide_eq_true_eq]; omega
              have HW := hide (HR1.out.trans (HV.out.mono HR1.out.size))
              obtain ⟨y, hy⟩ := num_at (L := [-9223372036854775808, -1, 0, 1, 65535, 65536, 65537, 1099511627776, 9223372036854775807]) (blk_later NE.out HW.out) rfl hltk
              have HWx : Hid (∀ W : World, Below W0.heap.size W0 W → W.cell? ⟨ge, k, none⟩ = some (.int .i64 y)) := hide (fun W hb => by
                have hg : ge < W0.heap.size := (Array.getElem?_eq_some_iff.1 NE.out).1
                exact (hb.cell (p := ⟨ge, k, none⟩) hg).trans ((HW.out.cell (p := ⟨ge, k, none⟩) hg).symm.trans hy))
              go_upto_region 13 with fail
              go_cut [7] from 33 to 96 (fun o wx => ∃ g : Nat, o = .pointer (some ⟨g, 0, none⟩) ∧ Hid (OW V wx g cd y 1 (y, 0, 1, 1, 0) (y, 1)))
              case first =>
                go_region_held3 (fun W => W.cell? ⟨ge, k, none⟩ = some (.int .i64 y)) (first | exact hy | exact cell_al hy | exact cell_al (cell_al hy) | exact cell_al (cell_al (cell_al hy)) | go_keep) (fail)
                all_goals (go_wp2_with fail; go_meet; exact ⟨_, rfl, hide (OW.mk2 (three_low HV.out _ _ _) (by first | exact tn1 _ _ _ _ | exact tn2 _ _ _ _ | exact tn3 _ _ _ _) (by first | exact tn1 _ _ _ _ | exact tn2 _ _ _ _ | exact tn3 _ _ _ _) (by first | exact tn1 _ _ _ _ | exact tn2 _ _ _ _ | exact tn3 _ _ _ _))⟩)
              case rest =>
              obtain ⟨g, rfl, HO⟩ := hcut
              clear hy HV HW
              generalize wc = W2 at HO ⊢
              have HV := hide HO.out.low
              have HW := hide (HR1.out.trans (HV.out.mono HR1.out.size))
              obtain ⟨hy⟩ : Nonempty (W2.cell? ⟨ge, k, none⟩ = some (.int .i64 y)) := ⟨(HWx.out _ HW.out)⟩
              go_upto_region 14 with fail
              go_cut [8] from 33 to 96 (fun o wx => ∃ g2 : Nat, o = .pointer (some ⟨g2, 0, none⟩) ∧ Hid (OW W2 wx g2 cd 1 y (1, 0, y, 1, 0) (1, y)))
              case first =>
                have HV := hide (Below.refl W2.heap.size W2)
                go_region_held3 (fun W => W.cell? ⟨ge, k, none⟩ = some (.int .i64 y)) (first | exact hy | exact cell_al hy | exact cell_al (cell_al hy) | exact cell_al (cell_al (cell_al hy)) | go_keep) (fail)
                all_goals (go_wp2_with fail; go_meet; exact ⟨_, rfl, hide (OW.mk2 (three_low HV.out _ _ _) (by first | exact tn1 _ _ _ _ | exact tn2 _ _ _ _ | exact tn3 _ _ _ _) (by first | exact tn1 _ _ _ _ | exact tn2 _ _ _ _ | exact tn3 _ _ _ _) (by first | exact tn1 _ _ _ _ | exact tn2 _ _ _ _ | exact tn3 _ _ _ _))⟩)
              case rest =>
              obtain ⟨g2, rfl, HP⟩ := hcut
              have HO2 := hide (HO.out.later HP.out.low)
              have HP2 : Hid (OW V wc g2 cd 1 y (1, 0, y, 1, 0) (1, y)) := hide ⟨HO.out.low.trans (HP.out.low.mono HO.out.low.size), HP.out.is⟩
              clear HO HP HV HW hy
              generalize wc = W3 at HO2 HP2 ⊢
              obtain ⟨gl, gk, h1, h2, h3⟩ := HO2.out.is
              obtain ⟨y0, y1, y2, y3, y4, y5, y6, y7⟩ := eight_cells h1 rfl
              have HV := hide HO2.out.low
              have HW := hide (HR1.out.trans (HV.out.mono HR1.out.size))
              have hy := HWx.out _ HW.out
              have hyq : ∀ o : Obj, (W3.alloc o).cell? ⟨ge, k, none⟩ = some (.int .i64 y) := fun o => cell_al hy
              have b4 := two_below W3 (.cells #[.int .i64 cd, .int .i64 y, .int .i64 1, .int .i64 1, .int .i64 1, .int .i64 1, .slice (some ⟨W3.heap.size + 1, 0, none⟩) 1 1, .slice (some ⟨gk, 0, none⟩) 1 1] 26) (.cells #[.int .i64 0, .int .i64 y, .int .i64 1, .int .i64 1, .int .i64 0] 38)
              obtain ⟨n1, n2⟩ := two_new W3 (.cells #[.int .i64 cd, .int .i64 y, .int .i64 1, .int .i64 1, .int .i64 1, .int .i64 1, .slice (some ⟨W3.heap.size + 1, 0, none⟩) 1 1, .slice (some ⟨gk, 0, none⟩) 1 1] 26) (.cells #[.int .i64 0, .int .i64 y, .int .i64 1, .int .i64 1, .int .i64 0] 38)
              have HO4 := hide (HO2.out.later b4)
              have HP4 := hide (HP2.out.later b4)
              have HQ4 : Hid (OW V ((W3.alloc (.cells #[.int .i64 cd, .int .i64 y, .int .i64 1, .int .i64 1, .int .i64 1, .int .i64 1, .slice (some ⟨W3.heap.size + 1, 0, none⟩) 1 1, .slice (some ⟨gk, 0, none⟩) 1 1] 26)).alloc (.cells #[.int .i64 0, .int .i64 y, .int .i64 1, .int .i64 1, .int .i64 0] 38)) W3.heap.size cd y 1 (0, y, 1, 1, 0) (y, 1)) := hide ⟨HO4.out.low, W3.heap.size + 1, gk, n1, (LG.om_blk (B := 0) (L := [((0 : Int), y, (1 : Int), (1 : Int), (0 : Int))]) n2 rfl (Nat.zero_le _) (show 1 ≤ 1000 by decide)).rm, h3.later b4⟩
              clear h1 h2 h3 hy HW n1 n2 b4 HO2 HP2 HV
              obtain ⟨gl0, gk0, h1, h2, h3⟩ := HO4.out.is
              have HBV := hide (HB0.out.trans ((HR1.out.trans (HO4.out.low.mono HR1.out.size)).mono HB0.out.size))
              have HC := hide (HK.out.chk _ x 3 0 0 0 cd y 1 1 1 1 _ _ [((y : Int), (0 : Int), (1 : Int), (1 : Int), (0 : Int))] [((y : Int), (1 : Int))] HBV.out h2 h3 (show 1 ≤ 1000 by decide) (show 1 ≤ 1000 by decide))
              obtain ⟨z0, z1, z2, z3, z4, z5, z6, z7⟩ := eight_cells h1 rfl
              obtain ⟨x0, x1, x2, x3, x4⟩ := five_cells (blk_later C1.out HO4.out.low) rfl
              clear h1 h2 h3 HBV
              go_wp2_with fail
              clear y0 y1 y2 y3 y4 y5 y6 y7 hyq
              refine HC.out.mono ?_
              rintro e v1 ⟨rfl, hb⟩
              clear HC x0 x1 x2 x3 x4 z0 z1 z2 z3 z4 z5 z6 z7
              have HO40 := hide (HO4.out.later hb)
              have HP40 := hide (HP4.out.later hb)
              have HQ40 := hide (HQ4.out.later hb)
              clear hb HO4 HP4 HQ4
              obtain ⟨gl1, gk1, h1, h2, h3⟩ := HP40.out.is
              have HBV := hide (HB0.out.trans ((HR1.out.trans (HP40.out.low.mono HR1.out.size)).mono HB0.out.size))
              have HC := hide (HK.out.chk _ 3 x 0 0 0 cd 1 y 1 1 1 _ _ [((1 : Int), (0 : Int), (y : Int), (1 : Int), (0 : Int))] [((1 : Int), (y : Int))] HBV.out h2 h3 (show 1 ≤ 1000 by decide) (show 1 ≤ 1000 by decide))
              obtain ⟨z0, z1, z2, z3, z4, z5, z6, z7⟩ := eight_cells h1 rfl
              obtain ⟨x0, x1, x2, x3, x4⟩ := five_cells (blk_later C2.out HP40.out.low) rfl
              clear h1 h2 h3 HBV
              go_wp2_with fail
              refine HC.out.mono ?_
              rintro e v2 ⟨rfl, hb⟩
              clear HC x0 x1 x2 x3 x4 z0 z1 z2 z3 z4 z5 z6 z7
              have HP41 := hide (HP40.out.later hb)
              have HQ41 := hide (HQ40.out.later hb)
              clear hb HP40 HQ40
              obtain ⟨gl2, gk2, h1, h2, h3⟩ := HQ41.out.is
              have HBV := hide (HB0.out.trans ((HR1.out.trans (HQ41.out.low.mono HR1.out.size)).mono HB0.out.size))
              have HC := hide (HK.out.chk _ x 3 0 0 0 cd y 1 1 1 1 _ _ [((0 : Int), (y : Int), (1 : Int), (1 : Int), (0 : Int))] [((y : Int), (1 : Int))] HBV.out h2 h3 (show 1 ≤ 1000 by decide) (show 1 ≤ 1000 by decide))
              obtain ⟨z0, z1, z2, z3, z4, z5, z6, z7⟩ := eight_cells h1 rfl
              obtain ⟨x0, x1, x2, x3, x4⟩ := five_cells (blk_later C1.out HQ41.out.low) rfl
              clear h1 h2 h3 HBV
              go_wp2_with fail
              refine HC.out.mono ?_
              rintro e v3 ⟨rfl, hb⟩
              clear HC x0 x1 x2 x3 x4 z0 z1 z2 z3 z4 z5 z6 z7
              have HQ42 := hide (HQ41.out.later hb)
              clear hb HQ41
              have HV5 := hide HQ42.out.low
              go_wp2_with fail
              go_roundw
              case rel => exact ⟨cd + 1, by omega, by omega, by go_num, HV5⟩
              case measure => simp [intOf]; omega
            · have hdc : decide ((cd : Int) ≤ 8) = false := by rw [decide_eq_false_iff_not]; omega
              go_wp2_with fail
              go_roundw
              case rel => exact ⟨k + 1, by omega, by go_num, hide (HR1.out.trans (HV.out.mono HR1.out.size))⟩
              case measure => simp [intOf]; omega
        · have hdk : decide ((k : Int) < 9) = false := by rw [decide_eq_false_iff_not]; omega
          go_wp2_with fail
          go_roundw
          case rel => exact ⟨i + 1, by omega, by go_num, HR⟩
          case measure => simp [intOf]; omega
    · have hd : decide ((i : Int) < 9) = false := by rw [decide_eq_false_iff_not]; omega
      have HB := hide (HB0.out.trans (HR.out.mono HB0.out.size))
      go_wp2_with fail
      go_ret
      exact ⟨rfl, HB.out⟩
end Go.Proofs.YtdiamlajmcikhaaGreatDoor
