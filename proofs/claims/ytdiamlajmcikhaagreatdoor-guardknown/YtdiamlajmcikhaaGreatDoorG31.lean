/-
  My own text: knownFields() of GuardKnown (printed by mkg29.py).
-/
import Derived.Test.YtdiamlajmcikhaaGreatDoorG28a
import Derived.Test.YtdiamlajmcikhaaGreatDoorGAM
import Derived.Test.YtdiamlajmcikhaaGreatDoorGKS
import Derived.Deep.CutRange
namespace Go.Proofs.YtdiamlajmcikhaaGreatDoor
open Go.RowKit

/-- The operation that is being made. -/
def OPb (W0 : World) (g : Nat) (c : Int) (wx : World) (A S Q N : Int) : Prop := Below W0.heap.size W0 wx ∧ W0.heap.size ≤ g ∧ wx.heap[g]? = some (.cells #[.int .i64 c, .int .i64 A, .int .i64 S, .int .i64 Q, .int .i64 N, .int .i64 1, .slice none 0 0, .slice none 0 0] 26 (0, 0))
theorem OPb.set {W0 : World} {g : Nat} {c A S Q N A' S' Q' N' : Int} {wx : World} (h : OPb W0 g c wx A S Q N) (i : Nat) (v : Value) (hc : (#[.int .i64 c, .int .i64 A, .int .i64 S, .int .i64 Q, .int .i64 N, .int .i64 1, .slice none 0 0, .slice none 0 0] : Array Value).setIfInBounds i v = #[.int .i64 c, .int .i64 A', .int .i64 S', .int .i64 Q', .int .i64 N', .int .i64 1, .slice none 0 0, .slice none 0 0]) : OPb W0 g c (wx.setCell ⟨g, i, none⟩ v) A' S' Q' N' :=
  ⟨h.1.setCell (p := ⟨g, i, none⟩) h.2.1 v, h.2.1, set_blk h.2.2 i v hc⟩
theorem five_new (w : World) (o1 o2 o3 o4 o5 : Obj) : Below w.heap.size w (((((w.alloc o1).alloc o2).alloc o3).alloc o4).alloc o5) ∧ (((((w.alloc o1).alloc o2).alloc o3).alloc o4).alloc o5).heap[w.heap.size]? = some o1 ∧ (((((w.alloc o1).alloc o2).alloc o3).alloc o4).alloc o5).heap[w.heap.size + 1]? = some o2 ∧ (((((w.alloc o1).alloc o2).alloc o3).alloc o4).alloc o5).heap[w.heap.size + 2]? = some o3 ∧ (((((w.alloc o1).alloc o2).alloc o3).alloc o4).alloc o5).heap[w.heap.size + 3]? = some o4 ∧ (((((w.alloc o1).alloc o2).alloc o3).alloc o4).alloc o5).heap[w.heap.size + 4]? = some o5 := by
  have s1 : (w.alloc o1).heap.size = w.heap.size + 1 := by simp
  have s2 : ((w.alloc o1).alloc o2).heap.size = w.heap.size + 2 := by simp
  have s3 : (((w.alloc o1).alloc o2).alloc o3).heap.size = w.heap.size + 3 := by simp
  have s4 : ((((w.alloc o1).alloc o2).alloc o3).alloc o4).heap.size = w.heap.size + 4 := by simp
  have n1 := alloc_new w o1
  have n2 := alloc_new (w.alloc o1) o2
  have n3 := alloc_new ((w.alloc o1).alloc o2) o3
  have n4 := alloc_new (((w.alloc o1).alloc o2).alloc o3) o4
  have n5 := alloc_new ((((w.alloc o1).alloc o2).alloc o3).alloc o4) o5
  rw [s1] at n2
  rw [s2] at n3
  rw [s3] at n4
  rw [s4] at n5
  refine ⟨?_, alloc_block (alloc_block (alloc_block (alloc_block n1))), alloc_block (alloc_block (alloc_block n2)), alloc_block (alloc_block n3), alloc_block n4, n5⟩
  have b1 := (Below.refl w.heap.size w).alloc (Nat.le_refl _) o1
  have b2 := b1.alloc b1.size o2
  have b3 := b2.alloc b2.size o3
  have b4 := b3.alloc b3.size o4
  exact b4.alloc b4.size o5
set_option maxRecDepth 100000 in
set_option maxHeartbeats 8000000 in
theorem knownFields_any (w : World) (hK : KG w) :
    Calls Tryz.prog 6 #[] w fun e w' => e = .returned (.bool true) ∧ Below w.heap.size w w' := by
  have HK := hide hK
  clear hK
  obtain ⟨W0, hW0⟩ : ∃ x, (w.alloc (.cells #[.int .i64 3, .int .i64 2, .int .i64 0, .int .i64 0, .int .i64 0] 34)).alloc (.cells #[.int .i64 (-9223372036854775808), .int .i64 (-1), .int .i64 0, .int .i64 1, .int .i64 2, .int .i64 3, .int .i64 65535, .int .i64 65536, .int .i64 65537, .int .i64 1099511627776, .int .i64 1099511627777, .int .i64 9223372036854775807] 3) = x := ⟨_, rfl⟩
  have HB0 : Hid (Below w.heap.size w W0) := hide (by rw [← hW0]; exact two_below w _ _)
  have NC : Hid (W0.heap[w.heap.size]? = some (.cells #[.int .i64 3, .int .i64 2, .int .i64 0, .int .i64 0, .int .i64 0] 34 (0, 0))) := hide (by rw [← hW0]; exact (two_new w _ _).1)
  have NE : Hid (W0.heap[w.heap.size + 1]? = some (.cells #[.int .i64 (-9223372036854775808), .int .i64 (-1), .int .i64 0, .int .i64 1, .int .i64 2, .int .i64 3, .int .i64 65535, .int .i64 65536, .int .i64 65537, .int .i64 1099511627776, .int .i64 1099511627777, .int .i64 9223372036854775807] 3 (0, 0))) := hide (by rw [← hW0]; exact (two_new w _ _).2)
  have HR := hide (Below.refl W0.heap.size W0)
  go_enter Tryz.func6, Tryz.ntmps6
  go_wp2_with fail
  clear hW0
  obtain ⟨gc, hgc⟩ : ∃ g, w.heap.size = g := ⟨_, rfl⟩
  rw [hgc] at NC NE ⊢
  clear hgc
  go_loopw [3] (fun i wr => ∃ c : Int, -1 ≤ c ∧ c ≤ 10 ∧ i = .int .i64 c ∧ Hid (Below W0.heap.size W0 wr)) (fun i _ => (10 - intOf i).toNat)
  case atStart => exact ⟨-1, by omega, by omega, rfl, HR⟩
  case round =>
    clear HR
    obtain ⟨c, hc0, hc1, rfl, HR⟩ := hrel
    by_cases hlt : c ≤ 9
    · have hd : decide (c ≤ 9) = true := by rw [decide_eq_true_eq]; omega
      by_cases h5 : c = 5
      · have hd5 : (c == 5) = true := by rw [beq_iff_eq]; exact h5
        have H5 := hide h5
        clear h5
        go_wp2_with fail
        go_roundw
        case rel => exact ⟨c + 1, by omega, by omega, by go_num, HR⟩
        case measure => simp [intOf]; omega
      have hd5 : (c == 5) = false := by simpa using h5
      go_wp2_with fail
      go_loopw [4] (fun i wr => ∃ k : Nat, k ≤ 12 ∧ i = .int .i64 (k : Int) ∧ Hid (Below W0.heap.size W0 wr)) (fun i _ => 12 - (intOf i).toNat)
      case atStart => exact ⟨0, by omega, rfl, HR⟩
      case round =>
        clear HR
        obtain ⟨i, hi, rfl, HR⟩ := hrel
        by_cases hlti : i < 12
        · have hdi : decide ((i : Int) < 12) = true := by rw [decide_eq_true_eq]; omega
          obtain ⟨x, hx⟩ := num_at (L := [-9223372036854775808, -1, 0, 1, 2, 3, 65535, 65536, 65537, 1099511627776, 1099511627777, 9223372036854775807]) (blk_later NE.out HR.out) rfl hlti
          have k0 : (0 : Int) ≤ (i : Int) := by omega
          have k1 : (i : Int) < 12 := by omega
          go_wp2_with fail
          clear hx
          go_loopw [6] (fun i wr => ∃ k : Nat, k ≤ 16 ∧ i = .int .i64 (k : Int) ∧ Hid (Below W0.heap.size W0 wr)) (fun i _ => 16 - (intOf i).toNat)
          case atStart => exact ⟨0, by omega, rfl, HR⟩
          case round =>
            clear HR
            obtain ⟨k, hk, rfl, HR⟩ := hrel
            by_cases hltk : k < 16
            · have hdk : decide ((k : Int) < 16) = true := by rw [decide_eq_true_eq]; omega
              have HJ : Hid (OPb W0 wr.heap.size c (wr.alloc (.cells #[.int .i64 c, .int .i64 2, .int .i64 1, .int .i64 1, .int .i64 1, .int .i64 1, .slice none 0 0, .slice none 0 0] 26)) 2 1 1 1) := hide ⟨HR.out.alloc HR.out.size _, HR.out.size, alloc_new wr _⟩
              go_upto_if 43 with fail
              generalize wr.alloc (.cells #[.int .i64 c, .int .i64 2, .int .i64 1, .int .i64 1, .int .i64 1, .int .i64 1, .slice none 0 0, .slice none 0 0] 26) = W1 at HJ ⊢
              obtain ⟨g, hg⟩ : ∃ g, wr.heap.size = g := ⟨_, rfl⟩
              rw [hg] at HJ ⊢
              clear hg HR
              have fz := no_froz HJ.out.2.2 2
              obtain ⟨y0, y1, y2, y3, y4, y5, y6, y7⟩ := eight_cells HJ.out.2.2 rfl
              go_cut [] from 35 to 102 (fun wx => ∃ A S Q N : Int, Hid (OPb W0 g c wx A S Q N))
              case first =>
                cases hb : ((k : Int) % 2 == 1) with
                | true =>
                  go_wp2_with fail
                  go_meet
                  exact ⟨_, _, _, _, hide (HJ.out.set 2 (.int .i64 2) rfl)⟩
                | false =>
                  go_wp2_with fail
                  go_meet
                  exact ⟨_, _, _, _, HJ⟩
              case rest =>
              clear fz y0 y1 y2 y3 y4 y5 y6 y7 HJ
              obtain ⟨A0, S0, Q0, N0, HJ0⟩ := hcut
              generalize wc = W2 at HJ0 ⊢
              clear wc
              go_upto_if 48 with fail
              have fz := no_froz HJ0.out.2.2 3
              obtain ⟨y0, y1, y2, y3, y4, y5, y6, y7⟩ := eight_cells HJ0.out.2.2 rfl
              go_cut [] from 35 to 102 (fun wx => ∃ A S Q N : Int, Hid (OPb W0 g c wx A S Q N))
              case first =>
                cases hb : ((k : Int) / 2 % 2 == 1) with
                | true =>
                  go_wp2_with fail
                  go_meet
                  exact ⟨_, _, _, _, hide (HJ0.out.set 3 (.int .i64 0) rfl)⟩
                | false =>
                  go_wp2_with fail
                  go_meet
                  exact ⟨_, _, _, _, HJ0⟩
              case rest =>
              clear fz y0 y1 y2 y3 y4 y5 y6 y7 HJ0
              obtain ⟨A1, S1, Q1, N1, HJ1⟩ := hcut
              generalize wc = W3 at HJ1 ⊢
              clear wc
              go_upto_if 53 with fail
              have fz := no_froz HJ1.out.2.2 4
              obtain ⟨y0, y1, y2, y3, y4, y5, y6, y7⟩ := eight_cells HJ1.out.2.2 rfl
              go_cut [] from 35 to 102 (fun wx => ∃ A S Q N : Int, Hid (OPb W0 g c wx A S Q N))
              case first =>
                cases hb : ((k : Int) / 4 % 2 == 1) with
                | true =>
                  go_wp2_with fail
                  go_meet
                  exact ⟨_, _, _, _, hide (HJ1.out.set 4 (.int .i64 0) rfl)⟩
                | false =>
                  go_wp2_with fail
                  go_meet
                  exact ⟨_, _, _, _, HJ1⟩
              case rest =>
              clear fz y0 y1 y2 y3 y4 y5 y6 y7 HJ1
              obtain ⟨A2, S2, Q2, N2, HJ2⟩ := hcut
              generalize wc = W4 at HJ2 ⊢
              clear wc
              go_upto_if 58 with fail
              have fz := no_froz HJ2.out.2.2 1
              obtain ⟨y0, y1, y2, y3, y4, y5, y6, y7⟩ := eight_cells HJ2.out.2.2 rfl
              go_cut [] from 35 to 102 (fun wx => ∃ A S Q N : Int, Hid (OPb W0 g c wx A S Q N))
              case first =>
                cases hb : ((k : Int) / 8 % 2 == 1) with
                | true =>
                  go_wp2_with fail
                  go_meet
                  exact ⟨_, _, _, _, hide (HJ2.out.set 1 (.int .i64 3) rfl)⟩
                | false =>
                  go_wp2_with fail
                  go_meet
                  exact ⟨_, _, _, _, HJ2⟩
              case rest =>
              clear fz y0 y1 y2 y3 y4 y5 y6 y7 HJ2
              obtain ⟨A3, S3, Q3, N3, HJ3⟩ := hcut
              generalize wc = W5 at HJ3 ⊢
              clear wc
              obtain ⟨bV, n1, n2, n3, n4, n5⟩ := five_new W5 (.cells #[.int .i64 c, .int .i64 x, .int .i64 S3, .int .i64 Q3, .int .i64 N3, .int .i64 1, .slice none 0 0, .slice none 0 0] 26) (.cells #[.int .i64 c, .int .i64 A3, .int .i64 x, .int .i64 Q3, .int .i64 N3, .int .i64 1, .slice none 0 0, .slice none 0 0] 26) (.cells #[.int .i64 c, .int .i64 A3, .int .i64 S3, .int .i64 x, .int .i64 N3, .int .i64 1, .slice none 0 0, .slice none 0 0] 26) (.cells #[.int .i64 c, .int .i64 A3, .int .i64 S3, .int .i64 Q3, .int .i64 x, .int .i64 1, .slice none 0 0, .slice none 0 0] 26) (.cells #[.int .i64 c, .int .i64 A3, .int .i64 S3, .int .i64 Q3, .int .i64 N3, .int .i64 x, .slice none 0 0, .slice none 0 0] 26)
              have HV := hide (HJ3.out.1.trans (bV.mono HJ3.out.1.size))
              have M1 := hide n1
              have M2 := hide n2
              have M3 := hide n3
              have M4 := hide n4
              have M5 := hide n5
              obtain ⟨y0_0, y1_0, y2_0, y3_0, y4_0, y5_0, y6_0, y7_0⟩ := eight_cells (HJ3.out.2.2) rfl
              obtain ⟨y0_1, y1_1, y2_1, y3_1, y4_1, y5_1, y6_1, y7_1⟩ := eight_cells (alloc_block (o := .cells #[.int .i64 c, .int .i64 x, .int .i64 S3, .int .i64 Q3, .int .i64 N3, .int .i64 1, .slice none 0 0, .slice none 0 0] 26) (HJ3.out.2.2)) rfl
              obtain ⟨y0_2, y1_2, y2_2, y3_2, y4_2, y5_2, y6_2, y7_2⟩ := eight_cells (alloc_block (o := .cells #[.int .i64 c, .int .i64 A3, .int .i64 x, .int .i64 Q3, .int .i64 N3, .int .i64 1, .slice none 0 0, .slice none 0 0] 26) (alloc_block (o := .cells #[.int .i64 c, .int .i64 x, .int .i64 S3, .int .i64 Q3, .int .i64 N3, .int .i64 1, .slice none 0 0, .slice none 0 0] 26) (HJ3.out.2.2))) rfl
              obtain ⟨y0_3, y1_3, y2_3, y3_3, y4_3, y5_3, y6_3, y7_3⟩ := eight_cells (alloc_block (o := .cells #[.int .i64 c, .int .i64 A3, .int .i64 S3, .int .i64 x, .int .i64 N3, .int .i64 1, .slice none 0 0, .slice none 0 0] 26) (alloc_block (o := .cells #[.int .i64 c, .int .i64 A3, .int .i64 x, .int .i64 Q3, .int .i64 N3, .int .i64 1, .slice none 0 0, .slice none 0 0] 26) (alloc_block (o := .cells #[.int .i64 c, .int .i64 x, .int .i64 S3, .int .i64 Q3, .int .i64 N3, .int .i64 1, .slice none 0 0, .slice none 0 0] 26) (HJ3.out.2.2)))) rfl
              obtain ⟨y0_4, y1_4, y2_4, y3_4, y4_4, y5_4, y6_4, y7_4⟩ := eight_cells (alloc_block (o := .cells #[.int .i64 c, .int .i64 A3, .int .i64 S3, .int .i64 Q3, .int .i64 x, .int .i64 1, .slice none 0 0, .slice none 0 0] 26) (alloc_block (o := .cells #[.int .i64 c, .int .i64 A3, .int .i64 S3, .int .i64 x, .int .i64 N3, .int .i64 1, .slice none 0 0, .slice none 0 0] 26) (alloc_block (o := .cells #[.int .i64 c, .int .i64 A3, .int .i64 x, .int .i64 Q3, .int .i64 N3, .int .i64 1, .slice none 0 0, .slice none 0 0] 26) (alloc_block (o := .cells #[.int .i64 c, .int .i64 x, .int .i64 S3, .int .i64 Q3, .int .i64 N3, .int .i64 1, .slice none 0 0, .slice none 0 0] 26) (HJ3.out.2.2))))) rfl
              clear bV n1 n2 n3 n4 n5
              obtain ⟨x0, x1, x2, x3, x4⟩ := five_cells (blk_later NC.out HV.out) rfl
              obtain ⟨z0, z1, z2, z3, z4, z5, z6, z7⟩ := eight_cells M1.out rfl
              have HBV := hide (HB0.out.trans (HV.out.mono HB0.out.size))
              have HC := hide (HK.out.chk _ 3 2 0 0 0 c x S3 Q3 N3 1 (.slice none 0 0) (.slice none 0 0) [] [] HBV.out (LG.RM.nil _) (KY.RM.nil _) (by decide) (by decide))
              clear HBV
              go_wp2_with fail
              refine HC.out.mono ?_
              rintro e v1 ⟨rfl, hb⟩
              clear y0_0 y1_0 y2_0 y3_0 y4_0 y5_0 y6_0 y7_0 y0_1 y1_1 y2_1 y3_1 y4_1 y5_1 y6_1 y7_1 y0_2 y1_2 y2_2 y3_2 y4_2 y5_2 y6_2 y7_2 y0_3 y1_3 y2_3 y3_3 y4_3 y5_3 y6_3 y7_3 y0_4 y1_4 y2_4 y3_4 y4_4 y5_4 y6_4 y7_4
              have HV1 := hide (HV.out.trans (hb.mono HV.out.size))
              have M2_1 := hide (blk_later M2.out hb)
              have M3_1 := hide (blk_later M3.out hb)
              have M4_1 := hide (blk_later M4.out hb)
              have M5_1 := hide (blk_later M5.out hb)
              clear hb HC x0 x1 x2 x3 x4 z0 z1 z2 z3 z4 z5 z6 z7 HV M1 M2 M3 M4 M5
              obtain ⟨x0, x1, x2, x3, x4⟩ := five_cells (blk_later NC.out HV1.out) rfl
              obtain ⟨z0, z1, z2, z3, z4, z5, z6, z7⟩ := eight_cells M2_1.out rfl
              have HBV := hide (HB0.out.trans (HV1.out.mono HB0.out.size))
              have HC := hide (HK.out.chk _ 3 2 0 0 0 c A3 x Q3 N3 1 (.slice none 0 0) (.slice none 0 0) [] [] HBV.out (LG.RM.nil _) (KY.RM.nil _) (by decide) (by decide))
              clear HBV
              go_wp2_with fail
              refine HC.out.mono ?_
              rintro e v2 ⟨rfl, hb⟩
              have HV2 := hide (HV1.out.trans (hb.mono HV1.out.size))
              have M3_2 := hide (blk_later M3_1.out hb)
              have M4_2 := hide (blk_later M4_1.out hb)
              have M5_2 := hide (blk_later M5_1.out hb)
              clear hb HC x0 x1 x2 x3 x4 z0 z1 z2 z3 z4 z5 z6 z7 HV1 M2_1 M3_1 M4_1 M5_1
              obtain ⟨x0, x1, x2, x3, x4⟩ := five_cells (blk_later NC.out HV2.out) rfl
              obtain ⟨z0, z1, z2, z3, z4, z5, z6, z7⟩ := eight_cells M3_2.out rfl
              have HBV := hide (HB0.out.trans (HV2.out.mono HB0.out.size))
              have HC := hide (HK.out.chk _ 3 2 0 0 0 c A3 S3 x N3 1 (.slice none 0 0) (.slice none 0 0) [] [] HBV.out (LG.RM.nil _) (KY.RM.nil _) (by decide) (by decide))
              clear HBV
              go_wp2_with fail
              refine HC.out.mono ?_
              rintro e v3 ⟨rfl, hb⟩
              have HV3 := hide (HV2.out.trans (hb.mono HV2.out.size))
              have M4_3 := hide (blk_later M4_2.out hb)
              have M5_3 := hide (blk_later M5_2.out hb)
              clear hb HC x0 x1 x2 x3 x4 z0 z1 z2 z3 z4 z5 z6 z7 HV2 M3_2 M4_2 M5_2
              obtain ⟨x0, x1, x2, x3, x4⟩ := five_cells (blk_later NC.out HV3.out) rfl
              obtain ⟨z0, z1, z2, z3, z4, z5, z6, z7⟩ := eight_cells M4_3.out rfl
              have HBV := hide (HB0.out.trans (HV3.out.mono HB0.out.size))
              have HC := hide (HK.out.chk _ 3 2 0 0 0 c A3 S3 Q3 x 1 (.slice none 0 0) (.slice none 0 0) [] [] HBV.out (LG.RM.nil _) (KY.RM.nil _) (by decide) (by decide))
              clear HBV
              go_wp2_with fail
              refine HC.out.mono ?_
              rintro e v4 ⟨rfl, hb⟩
              have HV4 := hide (HV3.out.trans (hb.mono HV3.out.size))
              have M5_4 := hide (blk_later M5_3.out hb)
              clear hb HC x0 x1 x2 x3 x4 z0 z1 z2 z3 z4 z5 z6 z7 HV3 M4_3 M5_3
              obtain ⟨x0, x1, x2, x3, x4⟩ := five_cells (blk_later NC.out HV4.out) rfl
              obtain ⟨z0, z1, z2, z3, z4, z5, z6, z7⟩ := eight_cells M5_4.out rfl
              have HBV := hide (HB0.out.trans (HV4.out.mono HB0.out.size))
              have HC := hide (HK.out.chk _ 3 2 0 0 0 c A3 S3 Q3 N3 x (.slice none 0 0) (.slice none 0 0) [] [] HBV.out (LG.RM.nil _) (KY.RM.nil _) (by decide) (by decide))
              clear HBV
              go_wp2_with fail
              refine HC.out.mono ?_
              rintro e v5 ⟨rfl, hb⟩
              have HV5 := hide (HV4.out.trans (hb.mono HV4.out.size))
              clear hb HC x0 x1 x2 x3 x4 z0 z1 z2 z3 z4 z5 z6 z7 HV4 M5_4
              go_wp2_with fail
              go_roundw
              case rel => exact ⟨k + 1, by omega, by go_num, HV5⟩
              case measure => simp [intOf]; omega
            · have hdk : decide ((k : Int) < 16) = false := by rw [decide_eq_false_iff_not]; omega
              go_wp2_with fail
              go_roundw
              case rel => exact ⟨i + 1, by omega, by go_num, HR⟩
              case measure => simp [intOf]; omega
        · have hdi : decide ((i : Int) < 12) = false := by rw [decide_eq_false_iff_not]; omega
          go_wp2_with fail
          go_roundw
          case rel => exact ⟨c + 1, by omega, by omega, by go_num, HR⟩
          case measure => simp [intOf]; omega
    · have hd : decide (c ≤ 9) = false := by rw [decide_eq_false_iff_not]; omega
      have HO0 : Hid (KY.OM wr W0.heap.size (.slice none 0 0) []) := hide (KY.OM.nil wr _)
      go_wp2_with fail
      go_loopw [13, 14] (fun l i wr => ∃ (k : Nat) (L : List KY.El) (ad : Option Addr) (cp : Nat), k ≤ 67 ∧ i = .int .i64 (k : Int) ∧ l = .slice ad L.length cp ∧ Hid (L.length = k) ∧ Hid (KY.OM wr W0.heap.size (.slice ad L.length cp) L) ∧ Hid (Below W0.heap.size W0 wr)) (fun _ i _ => 67 - (intOf i).toNat)
      case atStart => exact ⟨0, [], none, 0, by omega, rfl, rfl, hide rfl, HO0, HR⟩
      case round =>
        clear HO0 HR
        obtain ⟨k, L, ad, cp, hk, rfl, rfl, HLn, HO, HR⟩ := hrel
        by_cases hltk : k ≤ 66
        · have hdk : decide ((k : Int) ≤ 66) = true := by rw [decide_eq_true_eq]; omega
          have b1 := (Below.refl wr.heap.size wr).alloc (Nat.le_refl _) (.cells #[.int .i64 8, .int .i64 0, .int .i64 0, .int .i64 0, .int .i64 0, .int .i64 0, .slice none 0 0, .slice ad L.length cp] 26)
          have HR1 := hide (HR.out.trans (b1.mono HR.out.size))
          have HO1 := hide (HO.out.later b1)
          have M1 := hide (alloc_new wr (.cells #[.int .i64 8, .int .i64 0, .int .i64 0, .int .i64 0, .int .i64 0, .int .i64 0, .slice none 0 0, .slice ad L.length cp] 26))
          have HCP := hide (KY.copyM_any _ L _ HO1.out.rm (by have := HLn.out; omega))
          clear b1 HO HR
          go_wp2_with fail
          generalize wr.alloc (.cells #[.int .i64 8, .int .i64 0, .int .i64 0, .int .i64 0, .int .i64 0, .int .i64 0, .slice none 0 0, .slice ad L.length cp] 26) = V1 at HR1 HO1 M1 HCP ⊢
          obtain ⟨g, hg⟩ : ∃ g, wr.heap.size = g := ⟨_, rfl⟩
          rw [hg] at M1 ⊢
          clear hg
          refine HCP.out.mono ?_
          rintro e v2 ⟨bv, rfl, hOb, hb⟩
          have HR2 := hide (HR1.out.trans (hb.mono HR1.out.size))
          have HO2 := hide (HO1.out.later hb)
          have M2 := hide (blk_later M1.out hb)
          have b2 := (Below.refl v2.heap.size v2).alloc (Nat.le_refl _) (.cells #[.int .i64 0, .int .i64 2, .int .i64 3, .int .i64 0] 40)
          have hOb2 := hOb.later b2
          have hK2 : KY.RM (v2.alloc (.cells #[.int .i64 0, .int .i64 2, .int .i64 3, .int .i64 0] 40)) (.slice (some ⟨v2.heap.size, 0, none⟩) 2 2) [(0, 2), (3, 0)] := (KY.om_blk (B := v2.heap.size) (L := [(0, 2), (3, 0)]) (alloc_new v2 _) rfl (Nat.le_refl _) (by decide)).rm
          obtain ⟨bv3, v3, hrun, hO3, hg3⟩ := KY.run_append_rm (v2.alloc (.cells #[.int .i64 0, .int .i64 2, .int .i64 3, .int .i64 0] 40)) V1.heap.size 24 bv L hOb2 _ _ hK2 (by have := HLn.out; simp; omega) (by have := hb.size; simp; omega)
          have b3 : Below V1.heap.size V1 v3 := KY.grown_om (hb.trans (b2.mono hb.size)) (Nat.le_refl _) hOb2 hg3
          have HR3 := hide (HR1.out.trans (b3.mono HR1.out.size))
          have HO3 := hide (HO1.out.later b3)
          have M3 := hide (blk_later M1.out b3)
          have HB3 := hide hO3
          have HRn := hide hrun
          obtain ⟨ba, bc, hbs⟩ := KY.OM.slice hOb
          subst hbs
          obtain ⟨ba3, bc3, hbs3⟩ := KY.OM.slice hO3
          subst hbs3
          obtain ⟨L3, hL3⟩ : ∃ L3, L ++ [(0, 2), (3, 0)] = L3 := ⟨_, rfl⟩
          have HL3 : Hid (L3.length = k + 2) := hide (by rw [← hL3]; have := HLn.out; simp; omega)
          rw [hL3] at HB3 HRn
          clear hL3 hO3 hrun hOb hb b2 b3 hg3 hOb2 hK2 M1 M2 HR1 HR2 HO1 HO2 HCP
          obtain ⟨x0, x1, x2, x3, x4⟩ := five_cells (blk_later NC.out HR3.out) rfl
          obtain ⟨z0, z1, z2, z3, z4, z5, z6, z7⟩ := eight_cells M3.out rfl
          have HBV := hide (HB0.out.trans (HR3.out.mono HB0.out.size))
          have HC := hide (HK.out.chk _ 3 2 0 0 0 8 0 0 0 0 0 (.slice none 0 0) _ [] L HBV.out (LG.RM.nil _) HO3.out.rm (by decide) (by have := HLn.out; omega))
          go_wp2_with (at_builtin; refine Lib.wpList_append_run _ rfl _ _ _ _ rfl _ _ rfl rfl _ _ HRn.out ?_)
          refine HC.out.mono ?_
          rintro e v4 ⟨rfl, hb⟩
          have HR4 := hide (HR3.out.trans (hb.mono HR3.out.size))
          have HO4 := hide (HO3.out.later hb)
          have HB4 := hide (HB3.out.later hb)
          clear hb HC HBV x0 x1 x2 x3 x4 z0 z1 z2 z3 z4 z5 z6 z7 HR3 HO3 HB3 HRn M3
          obtain ⟨x0, x1, x2, x3, x4⟩ := five_cells (blk_later NC.out HR4.out) rfl
          have HBV := hide (HB0.out.trans (HR4.out.mono HB0.out.size))
          have HC := hide (HK.out.chk _ 3 2 0 0 0 8 0 0 0 0 0 (.slice none 0 0) _ [] L3 HBV.out (LG.RM.nil _) HB4.out.rm (by decide) (by have := HL3.out; omega))
          go_wp2_with fail
          refine HC.out.mono ?_
          rintro e v5 ⟨rfl, hb⟩
          have HR5 := hide (HR4.out.trans (hb.mono HR4.out.size))
          have HO5 := hide (HO4.out.later hb)
          clear hb HC HBV x0 x1 x2 x3 x4 HR4 HO4 HB4
          go_wp2_with (at_builtin; refine KY.wp_append_kept rfl _ _ rfl W0.heap.size _ L ((k : Int) % 3, (k : Int) % 2) _ rfl rfl (World.ownsRow.alloc HO5.out _) ?c1 ?c1b ?c2 ?c3 ?_)
          case c2 => have := HR5.out.size; simp; omega
          case c3 => have := HLn.out; omega
          intro v' w2 hO2 hG2 _
          have HO6 := hide hO2
          have HR6 := hide (hG2.toBelow (HR5.out.alloc HR5.out.size _) (by have := HR5.out.size; simp; omega) (fun g h => (World.ownsRow.lt HO5.out g h).1))
          obtain ⟨ad2, cp2, rfl⟩ := KY.OM.slice hO2
          clear hO2 hG2 HO5 HR5
          go_wp2_with fail
          go_roundw
          case rel => exact ⟨k + 1, L ++ [((k : Int) % 3, (k : Int) % 2)], ad2, cp2, by omega, by go_num, rfl, hide (by have := HLn.out; simp; omega), HO6, HR6⟩
          case measure => simp [intOf]; omega
        · have hdk : decide ((k : Int) ≤ 66) = false := by rw [decide_eq_false_iff_not]; omega
          have HB := hide (HB0.out.trans (HR.out.mono HB0.out.size))
          go_wp2_with fail
          go_ret
          exact ⟨rfl, HB.out⟩
end Go.Proofs.YtdiamlajmcikhaaGreatDoor
