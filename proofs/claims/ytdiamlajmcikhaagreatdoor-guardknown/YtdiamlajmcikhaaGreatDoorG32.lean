/-
  My own text: knownLegs() of GuardKnown (printed by mkg29.py).
-/
import Derived.Test.YtdiamlajmcikhaaGreatDoorG28a
import Derived.Test.YtdiamlajmcikhaaGreatDoorGAM
import Derived.Test.YtdiamlajmcikhaaGreatDoorGLS
import Derived.Test.YtdiamlajmcikhaaGreatDoorGLA
namespace Go.Proofs.YtdiamlajmcikhaaGreatDoor
open Go.RowKit

theorem odd_at {W : World} {g : Nat} {x : Int} (h : W.heap[g]? = some (.cells #[.int .i64 x, .int .i64 1, .int .i64 9, .int .i64 0, .int .i64 0, .int .i64 0, .int .i64 x, .int .i64 9, .int .i64 0, .int .i64 (-1), .int .i64 0, .int .i64 1, .int .i64 x, .int .i64 0, .int .i64 (-1), .int .i64 0, .int .i64 1, .int .i64 1, .int .i64 x, .int .i64 (-1), .int .i64 0, .int .i64 1, .int .i64 1, .int .i64 1, .int .i64 x, .int .i64 x, .int .i64 x, .int .i64 9, .int .i64 0, .int .i64 0, .int .i64 3, .int .i64 3, .int .i64 0, .int .i64 0, .int .i64 0, .int .i64 0, .int .i64 3, .int .i64 1, .int .i64 1, .int .i64 0] 38 (0, 0))) {k : Nat} (hk : k < 8) : ∃ a0 a1 a2 a3 a4 : Int, W.cell? ⟨g, k * 5, none⟩ = some (.int .i64 a0) ∧ W.cell? ⟨g, k * 5 + 1, none⟩ = some (.int .i64 a1) ∧ W.cell? ⟨g, k * 5 + 2, none⟩ = some (.int .i64 a2) ∧ W.cell? ⟨g, k * 5 + 3, none⟩ = some (.int .i64 a3) ∧ W.cell? ⟨g, k * 5 + 4, none⟩ = some (.int .i64 a4) := by
  match k, hk with
  | 0, _ => exact ⟨x, 1, 9, 0, 0, by rw [cell_of_row _ _ _ _ _ _ h]; rfl, by rw [cell_of_row _ _ _ _ _ _ h]; rfl, by rw [cell_of_row _ _ _ _ _ _ h]; rfl, by rw [cell_of_row _ _ _ _ _ _ h]; rfl, by rw [cell_of_row _ _ _ _ _ _ h]; rfl⟩
  | 1, _ => exact ⟨0, x, 9, 0, -1, by rw [cell_of_row _ _ _ _ _ _ h]; rfl, by rw [cell_of_row _ _ _ _ _ _ h]; rfl, by rw [cell_of_row _ _ _ _ _ _ h]; rfl, by rw [cell_of_row _ _ _ _ _ _ h]; rfl, by rw [cell_of_row _ _ _ _ _ _ h]; rfl⟩
  | 2, _ => exact ⟨0, 1, x, 0, -1, by rw [cell_of_row _ _ _ _ _ _ h]; rfl, by rw [cell_of_row _ _ _ _ _ _ h]; rfl, by rw [cell_of_row _ _ _ _ _ _ h]; rfl, by rw [cell_of_row _ _ _ _ _ _ h]; rfl, by rw [cell_of_row _ _ _ _ _ _ h]; rfl⟩
  | 3, _ => exact ⟨0, 1, 1, x, -1, by rw [cell_of_row _ _ _ _ _ _ h]; rfl, by rw [cell_of_row _ _ _ _ _ _ h]; rfl, by rw [cell_of_row _ _ _ _ _ _ h]; rfl, by rw [cell_of_row _ _ _ _ _ _ h]; rfl, by rw [cell_of_row _ _ _ _ _ _ h]; rfl⟩
  | 4, _ => exact ⟨0, 1, 1, 1, x, by rw [cell_of_row _ _ _ _ _ _ h]; rfl, by rw [cell_of_row _ _ _ _ _ _ h]; rfl, by rw [cell_of_row _ _ _ _ _ _ h]; rfl, by rw [cell_of_row _ _ _ _ _ _ h]; rfl, by rw [cell_of_row _ _ _ _ _ _ h]; rfl⟩
  | 5, _ => exact ⟨x, x, 9, 0, 0, by rw [cell_of_row _ _ _ _ _ _ h]; rfl, by rw [cell_of_row _ _ _ _ _ _ h]; rfl, by rw [cell_of_row _ _ _ _ _ _ h]; rfl, by rw [cell_of_row _ _ _ _ _ _ h]; rfl, by rw [cell_of_row _ _ _ _ _ _ h]; rfl⟩
  | 6, _ => exact ⟨3, 3, 0, 0, 0, by rw [cell_of_row _ _ _ _ _ _ h]; rfl, by rw [cell_of_row _ _ _ _ _ _ h]; rfl, by rw [cell_of_row _ _ _ _ _ _ h]; rfl, by rw [cell_of_row _ _ _ _ _ _ h]; rfl, by rw [cell_of_row _ _ _ _ _ _ h]; rfl⟩
  | 7, _ => exact ⟨0, 3, 1, 1, 0, by rw [cell_of_row _ _ _ _ _ _ h]; rfl, by rw [cell_of_row _ _ _ _ _ _ h]; rfl, by rw [cell_of_row _ _ _ _ _ _ h]; rfl, by rw [cell_of_row _ _ _ _ _ _ h]; rfl, by rw [cell_of_row _ _ _ _ _ _ h]; rfl⟩
theorem four_new (w : World) (o1 o2 o3 o4 : Obj) : Below w.heap.size w ((((w.alloc o1).alloc o2).alloc o3).alloc o4) ∧ ((((w.alloc o1).alloc o2).alloc o3).alloc o4).heap[w.heap.size]? = some o1 ∧ ((((w.alloc o1).alloc o2).alloc o3).alloc o4).heap[w.heap.size + 1]? = some o2 ∧ ((((w.alloc o1).alloc o2).alloc o3).alloc o4).heap[w.heap.size + 1 + 1]? = some o3 ∧ ((((w.alloc o1).alloc o2).alloc o3).alloc o4).heap[w.heap.size + 1 + 1 + 1]? = some o4 := by
  have s1 : (w.alloc o1).heap.size = w.heap.size + 1 := by simp
  have s2 : ((w.alloc o1).alloc o2).heap.size = w.heap.size + 1 + 1 := by simp
  have s3 : (((w.alloc o1).alloc o2).alloc o3).heap.size = w.heap.size + 1 + 1 + 1 := by simp
  have n1 := alloc_new w o1
  have n2 := alloc_new (w.alloc o1) o2
  have n3 := alloc_new ((w.alloc o1).alloc o2) o3
  have n4 := alloc_new (((w.alloc o1).alloc o2).alloc o3) o4
  rw [s1] at n2
  rw [s2] at n3
  rw [s3] at n4
  refine ⟨?_, alloc_block (alloc_block (alloc_block n1)), alloc_block (alloc_block n2), alloc_block n3, n4⟩
  have b1 := (Below.refl w.heap.size w).alloc (Nat.le_refl _) o1
  have b2 := b1.alloc b1.size o2
  have b3 := b2.alloc b2.size o3
  exact b3.alloc b3.size o4
set_option maxRecDepth 100000 in
set_option maxHeartbeats 8000000 in
theorem knownLegs_any (w : World) (hK : KG w) :
    Calls Tryz.prog 7 #[] w fun e w' => e = .returned (.bool true) ∧ Below w.heap.size w w' := by
  have HK := hide hK
  clear hK
  obtain ⟨b0, n1, n2, n3, n4⟩ := four_new w (.cells #[.int .i64 3, .int .i64 2, .int .i64 0, .int .i64 0, .int .i64 0] 34) (.cells #[.int .i64 0, .int .i64 1, .int .i64 1, .int .i64 1, .int .i64 0] 38) (.cells #[.int .i64 (-9223372036854775808), .int .i64 (-1), .int .i64 0, .int .i64 1, .int .i64 2, .int .i64 3, .int .i64 65536, .int .i64 65537, .int .i64 9223372036854775807] 3) (.cells #[.int .i64 (-1), .int .i64 0, .int .i64 1, .int .i64 1099511627776, .int .i64 1099511627777] 3)
  have HB0 := hide b0
  have NC := hide n1
  have NG := hide n2
  have NE := hide n3
  have NI := hide n4
  clear b0 n1 n2 n3 n4
  go_enter Tryz.func7, Tryz.ntmps7
  go_wp2_with fail
  generalize ((((w.alloc (.cells #[.int .i64 3, .int .i64 2, .int .i64 0, .int .i64 0, .int .i64 0] 34)).alloc (.cells #[.int .i64 0, .int .i64 1, .int .i64 1, .int .i64 1, .int .i64 0] 38)).alloc (.cells #[.int .i64 (-9223372036854775808), .int .i64 (-1), .int .i64 0, .int .i64 1, .int .i64 2, .int .i64 3, .int .i64 65536, .int .i64 65537, .int .i64 9223372036854775807] 3)).alloc (.cells #[.int .i64 (-1), .int .i64 0, .int .i64 1, .int .i64 1099511627776, .int .i64 1099511627777] 3)) = W0 at HB0 NC NG NE NI ⊢
  obtain ⟨gc, hgc⟩ : ∃ g, w.heap.size = g := ⟨_, rfl⟩
  rw [hgc] at NC NG NE NI ⊢
  clear hgc
  have HR := hide (Below.refl W0.heap.size W0)
  go_loopw [5] (fun i wr => ∃ k : Nat, k ≤ 9 ∧ i = .int .i64 (k : Int) ∧ Hid (Below W0.heap.size W0 wr)) (fun i _ => 9 - (intOf i).toNat)
  case atStart => exact ⟨0, by omega, rfl, HR⟩
  case round =>
    clear HR
    obtain ⟨i, hi, rfl, HR⟩ := hrel
    by_cases hlt : i < 9
    · have hd : decide ((i : Int) < 9) = true := by rw [decide_eq_true_eq]; omega
      have k0 : (0 : Int) ≤ (i : Int) := by omega
      have k1 : (i : Int) < 9 := by omega
      obtain ⟨x, hx⟩ := num_at (L := [-9223372036854775808, -1, 0, 1, 2, 3, 65536, 65537, 9223372036854775807]) (blk_later NE.out HR.out) rfl hlt
      have HR1 := hide (HR.out.alloc HR.out.size (.cells #[.int .i64 x, .int .i64 1, .int .i64 9, .int .i64 0, .int .i64 0, .int .i64 0, .int .i64 x, .int .i64 9, .int .i64 0, .int .i64 (-1), .int .i64 0, .int .i64 1, .int .i64 x, .int .i64 0, .int .i64 (-1), .int .i64 0, .int .i64 1, .int .i64 1, .int .i64 x, .int .i64 (-1), .int .i64 0, .int .i64 1, .int .i64 1, .int .i64 1, .int .i64 x, .int .i64 x, .int .i64 x, .int .i64 9, .int .i64 0, .int .i64 0, .int .i64 3, .int .i64 3, .int .i64 0, .int .i64 0, .int .i64 0, .int .i64 0, .int .i64 3, .int .i64 1, .int .i64 1, .int .i64 0] 38))
      have NO := hide (alloc_new wr (.cells #[.int .i64 x, .int .i64 1, .int .i64 9, .int .i64 0, .int .i64 0, .int .i64 0, .int .i64 x, .int .i64 9, .int .i64 0, .int .i64 (-1), .int .i64 0, .int .i64 1, .int .i64 x, .int .i64 0, .int .i64 (-1), .int .i64 0, .int .i64 1, .int .i64 1, .int .i64 x, .int .i64 (-1), .int .i64 0, .int .i64 1, .int .i64 1, .int .i64 1, .int .i64 x, .int .i64 x, .int .i64 x, .int .i64 9, .int .i64 0, .int .i64 0, .int .i64 3, .int .i64 3, .int .i64 0, .int .i64 0, .int .i64 0, .int .i64 0, .int .i64 3, .int .i64 1, .int .i64 1, .int .i64 0] 38))
      go_wp2_with fail
      clear hx HR
      generalize wr.alloc (.cells #[.int .i64 x, .int .i64 1, .int .i64 9, .int .i64 0, .int .i64 0, .int .i64 0, .int .i64 x, .int .i64 9, .int .i64 0, .int .i64 (-1), .int .i64 0, .int .i64 1, .int .i64 x, .int .i64 0, .int .i64 (-1), .int .i64 0, .int .i64 1, .int .i64 1, .int .i64 x, .int .i64 (-1), .int .i64 0, .int .i64 1, .int .i64 1, .int .i64 1, .int .i64 x, .int .i64 x, .int .i64 x, .int .i64 9, .int .i64 0, .int .i64 0, .int .i64 3, .int .i64 3, .int .i64 0, .int .i64 0, .int .i64 0, .int .i64 0, .int .i64 3, .int .i64 1, .int .i64 1, .int .i64 0] 38) = W1 at HR1 NO ⊢
      obtain ⟨go, hgo⟩ : ∃ g, wr.heap.size = g := ⟨_, rfl⟩
      rw [hgo] at NO ⊢
      clear hgo
      go_loopw [8] (fun i wr => ∃ k : Nat, k ≤ 8 ∧ i = .int .i64 (k : Int) ∧ Hid (Below W1.heap.size W1 wr)) (fun i _ => 8 - (intOf i).toNat)
      case atStart => exact ⟨0, by omega, rfl, hide (Below.refl _ _)⟩
      case round =>
        obtain ⟨k, hk, rfl, HV⟩ := hrel
        by_cases hltk : k < 8
        · have hdk : decide ((k : Int) < 8) = true := by rw [decide_eq_true_eq]; omega
          have m0 : (0 : Int) ≤ (k : Int) := by omega
          have m1 : (k : Int) < 8 := by omega
          have HO0 : Hid (LG.OM wr W1.heap.size (.slice none 0 0) []) := hide (LG.OM.nil wr _)
          go_wp2_with fail
          go_loopw [9, 10] (fun l i wr => ∃ (k : Nat) (L : List LG.El) (ad : Option Addr) (cp : Nat), k ≤ 6 ∧ i = .int .i64 (k : Int) ∧ l = .slice ad L.length cp ∧ Hid (L.length = k) ∧ Hid (LG.OM wr W1.heap.size (.slice ad L.length cp) L) ∧ Hid (Below W1.heap.size W1 wr)) (fun _ i _ => 6 - (intOf i).toNat)
          case atStart => exact ⟨0, [], none, 0, by omega, rfl, rfl, hide rfl, HO0, HV⟩
          case round =>
            clear HO0 HV
            obtain ⟨n, L, ad, cp, hn, rfl, rfl, HLn, HO, HV⟩ := hrel
            by_cases hltn : n ≤ 5
            · have hdn : decide ((n : Int) ≤ 5) = true := by rw [decide_eq_true_eq]; omega
              have HCP := hide (LG.copyM_any _ L _ HO.out.rm (by have := HLn.out; omega))
              go_wp2_with fail
              refine HCP.out.mono ?_
              rintro e v1 ⟨bv, rfl, hOb, hb⟩
              have HV1 := hide (HV.out.trans (hb.mono HV.out.size))
              obtain ⟨a0, a1, a2, a3, a4, c0, c1, c2, c3, c4⟩ := odd_at (blk_later NO.out HV1.out) hltk
              have b2 := (Below.refl v1.heap.size v1).alloc (Nat.le_refl _) (.cells #[.int .i64 a0, .int .i64 a1, .int .i64 a2, .int .i64 a3, .int .i64 a4] 38)
              have hOb2 := hOb.later b2
              have hK2 : LG.RM (v1.alloc (.cells #[.int .i64 a0, .int .i64 a1, .int .i64 a2, .int .i64 a3, .int .i64 a4] 38)) (.slice (some ⟨v1.heap.size, 0, none⟩) 1 1) [(a0, a1, a2, a3, a4)] := (LG.om_blk (B := v1.heap.size) (L := [(a0, a1, a2, a3, a4)]) (alloc_new v1 _) rfl (Nat.le_refl _) (show 1 ≤ 1000 by decide)).rm
              obtain ⟨bv3, v3, hrun, hO3, hg3⟩ := LG.run_append_rm (v1.alloc (.cells #[.int .i64 a0, .int .i64 a1, .int .i64 a2, .int .i64 a3, .int .i64 a4] 38)) wr.heap.size 23 bv L hOb2 _ _ hK2 (by have := HLn.out; simp; omega) (by have := hb.size; simp; omega)
              have b3 : Below wr.heap.size wr v3 := LG.grown_om (hb.trans (b2.mono hb.size)) (Nat.le_refl _) hOb2 hg3
              have HV3 := hide (HV.out.trans (b3.mono HV.out.size))
              have HO3 := hide (HO.out.later b3)
              have HB3 : Hid (LG.OM v3 wr.heap.size bv3 (L ++ [(a0, a1, a2, a3, a4)])) := hide hO3
              have HRn := hide hrun
              have HS3 := hide b3
              obtain ⟨ba, bc, hbs⟩ := LG.OM.slice hOb
              subst hbs
              obtain ⟨ba3, bc3, hbs3⟩ := LG.OM.slice hO3
              subst hbs3
              obtain ⟨L3, hL3⟩ : ∃ L3, L ++ [(a0, a1, a2, a3, a4)] = L3 := ⟨_, rfl⟩
              have HL3 : Hid (L3.length = n + 1) := hide (by rw [← hL3]; have := HLn.out; simp; omega)
              rw [hL3] at HB3 HRn
              clear hL3 hO3 hrun hOb hb b2 b3 hg3 hOb2 hK2 HV1 HCP
              go_wp2_with (at_builtin; refine Lib.wpList_append_run _ rfl _ _ _ _ rfl _ _ rfl rfl _ _ HRn.out ?_)
              clear HRn c0 c1 c2 c3 c4
              obtain ⟨V, hVV⟩ : ∃ V, wr = V := ⟨_, rfl⟩
              rw [hVV] at HB3 HS3 HO HV
              clear hVV
              go_loopw [12] (fun i wr => ∃ k : Nat, k ≤ 5 ∧ i = .int .i64 (k : Int) ∧ Hid (Below v3.heap.size v3 wr)) (fun i _ => 5 - (intOf i).toNat)
              case atStart => exact ⟨0, by omega, rfl, hide (Below.refl _ _)⟩
              case round =>
                obtain ⟨j, hj, rfl, HJ⟩ := hrel
                by_cases hltj : j < 5
                · have hdj : decide ((j : Int) < 5) = true := by rw [decide_eq_true_eq]; omega
                  have q0 : (0 : Int) ≤ (j : Int) := by omega
                  have q1 : (j : Int) < 5 := by omega
                  have HW := hide ((HR1.out.trans (HV3.out.mono HR1.out.size)).trans (HJ.out.mono (Nat.le_trans HR1.out.size HV3.out.size)))
                  obtain ⟨y, hy⟩ := num_at (L := [-1, 0, 1, 1099511627776, 1099511627777]) (blk_later NI.out HW.out) rfl hltj
                  have hcf := five_cells (blk_later NC.out HW.out) rfl
                  have HBV := hide (HB0.out.trans (HW.out.mono HB0.out.size))
                  have HC1 := hide (fun x : Gr wr => HK.out.chk x.1 3 2 0 0 0 5 0 0 0 0 y _ (.slice none 0 0) L [] (HBV.out.trans (x.2.mono HBV.out.size)) ((HO3.out.later HJ.out).rm.later x.2) (KY.RM.nil _) (by have := HLn.out; omega) (by decide))
                  have HC2 := hide (fun x : Gr wr => HK.out.chk x.1 3 2 0 0 0 5 0 0 0 0 y _ (.slice none 0 0) L3 [] (HBV.out.trans (x.2.mono HBV.out.size)) ((HB3.out.later HJ.out).rm.later x.2) (KY.RM.nil _) (by have := HL3.out; omega) (by decide))
                  have z0 : ∀ x : Gr wr, x.1.cell? ⟨gc, 0, none⟩ = some (.int .i64 3) := fun x => (x.2.cell (p := ⟨gc, 0, none⟩) (World.block_lt_of_cell? _ _ hcf.1)).trans hcf.1
                  have z1 : ∀ x : Gr wr, x.1.cell? ⟨gc, 1, none⟩ = some (.int .i64 2) := fun x => (x.2.cell (p := ⟨gc, 1, none⟩) (World.block_lt_of_cell? _ _ hcf.2.1)).trans hcf.2.1
                  have z2 : ∀ x : Gr wr, x.1.cell? ⟨gc, 2, none⟩ = some (.int .i64 0) := fun x => (x.2.cell (p := ⟨gc, 2, none⟩) (World.block_lt_of_cell? _ _ hcf.2.2.1)).trans hcf.2.2.1
                  have z3 : ∀ x : Gr wr, x.1.cell? ⟨gc, 3, none⟩ = some (.int .i64 0) := fun x => (x.2.cell (p := ⟨gc, 3, none⟩) (World.block_lt_of_cell? _ _ hcf.2.2.2.1)).trans hcf.2.2.2.1
                  have z4 : ∀ x : Gr wr, x.1.cell? ⟨gc, 4, none⟩ = some (.int .i64 0) := fun x => (x.2.cell (p := ⟨gc, 4, none⟩) (World.block_lt_of_cell? _ _ hcf.2.2.2.2)).trans hcf.2.2.2.2
                  have z5 : ∀ x : Gr wr, x.1.cell? ⟨gc + 1 + 1 + 1, j, none⟩ = some (.int .i64 y) := fun x => (x.2.cell (p := ⟨gc + 1 + 1 + 1, j, none⟩) (World.block_lt_of_cell? _ _ hy)).trans hy
                  clear hcf hy
                  go_wp2_with fail
                  have HG0 := hide ((Below.refl wr.heap.size wr).drew)
                  haveI : Nonempty (Gr wr) := ⟨⟨_, HG0.out⟩⟩
                  refine region_class (C := fun w' => ∃ x : Gr wr, w' = x.1) (by kernel_rfl) (by kernel_rfl) ⟨⟨_, HG0.out⟩, rfl⟩ ?_
                  repeat (first
                    | go_big_quiet_skip
                    | (go_big_quiet_want; (go_big_quiet_op; first
                        | go_big_quiet_on
                        | (apply Exists.intro; refine ⟨fun x => ?_, ?_⟩; (go_at_call 16; first | with_reducible exact x.call (HC1.out x) | with_reducible exact x.call (HC2.out x)); go_big_quiet_on))))
                  refine wpQuiet_nil ?_
                  rintro w8 ⟨x8, rfl⟩
                  obtain ⟨w8, hx8⟩ := x8
                  dsimp only
                  have HJ8 := hide (HJ.out.trans (hx8.mono HJ.out.size))
                  clear z0 z1 z2 z3 z4 z5 hx8 HC1 HC2 HG0 this HJ HW HBV
                  go_wp2_with fail
                  go_roundw
                  case rel => exact ⟨j + 1, by omega, by go_num, HJ8⟩
                  case measure => simp [intOf]; omega
                · have hdj : decide ((j : Int) < 5) = false := by rw [decide_eq_false_iff_not]; omega
                  obtain ⟨v4, hv4⟩ : ∃ v, wr = v := ⟨_, rfl⟩
                  rw [hv4] at HJ ⊢
                  clear hv4
                  have HV4 := hide (HV3.out.trans (HJ.out.mono HV3.out.size))
                  have hW4 := HR1.out.trans (HV4.out.mono HR1.out.size)
                  have b5 := (Below.refl v4.heap.size v4).alloc (Nat.le_refl _) (.cells #[.int .i64 0, .int .i64 1, .int .i64 1, .int .i64 1, .int .i64 0, .int .i64 7, .int .i64 0, .int .i64 0, .int .i64 0, .int .i64 0] 38)
                  have hOb := HB3.out.later HJ.out
                  have hOb2 := hOb.later b5
                  have hK2 : LG.RM (v4.alloc (.cells #[.int .i64 0, .int .i64 1, .int .i64 1, .int .i64 1, .int .i64 0, .int .i64 7, .int .i64 0, .int .i64 0, .int .i64 0, .int .i64 0] 38)) (.slice (some ⟨v4.heap.size, 0, none⟩) 2 2) [(0, 1, 1, 1, 0), (7, 0, 0, 0, 0)] := (LG.om_blk (B := v4.heap.size) (L := [(0, 1, 1, 1, 0), (7, 0, 0, 0, 0)]) (alloc_new v4 _) rfl (Nat.le_refl _) (by decide)).rm
                  have hs4 : V.heap.size ≤ v4.heap.size := Nat.le_trans HS3.out.size HJ.out.size
                  obtain ⟨bv6, v6, hrun, hO6, hg6⟩ := LG.run_append_rm (v4.alloc (.cells #[.int .i64 0, .int .i64 1, .int .i64 1, .int .i64 1, .int .i64 0, .int .i64 7, .int .i64 0, .int .i64 0, .int .i64 0, .int .i64 0] 38)) V.heap.size 23 _ L3 hOb2 _ _ hK2 (by have := HL3.out; simp; omega) (by simp; omega)
                  have b6 : Below V.heap.size v4 v6 := (b5.mono hs4).grown hg6 (by simp; omega) (fun g h => (World.ownsRow.lt hOb2 g h).1)
                  have b06 : Below V.heap.size V v6 := (HS3.out.trans (HJ.out.mono HS3.out.size)).trans b6
                  have HV6 := hide (HV.out.trans (b06.mono HV.out.size))
                  have HO6 := hide (HO.out.later b06)
                  have HB6 : Hid (LG.OM v6 V.heap.size bv6 (L3 ++ [(0, 1, 1, 1, 0), (7, 0, 0, 0, 0)])) := hide hO6
                  have HRn := hide hrun
                  obtain ⟨g0, g1, g2, g3, g4⟩ := five_cells (blk_later NG.out hW4) rfl
                  obtain ⟨ba6, bc6, hbs6⟩ := LG.OM.slice hO6
                  subst hbs6
                  obtain ⟨L6, hL6⟩ : ∃ L6, L3 ++ [(0, 1, 1, 1, 0), (7, 0, 0, 0, 0)] = L6 := ⟨_, rfl⟩
                  have HL6 : Hid (L6.length = n + 3) := hide (by rw [← hL6]; have := HL3.out; simp; omega)
                  rw [hL6] at HB6 HRn
                  have hW6 := HR1.out.trans (HV6.out.mono HR1.out.size)
                  obtain ⟨x0, x1, x2, x3, x4⟩ := five_cells (blk_later NC.out hW6) rfl
                  have HBV := hide (HB0.out.trans (hW6.mono HB0.out.size))
                  have HC := hide (HK.out.chk _ 3 2 0 0 0 5 0 0 0 0 1 _ (.slice none 0 0) L6 [] HBV.out HB6.out.rm (KY.RM.nil _) (by have := HL6.out; omega) (by decide))
                  clear hL6 hO6 hrun hOb hOb2 b5 b6 b06 hg6 hK2 hs4 hW4 hW6 HBV HJ HV4
                  go_wp2_with (at_builtin; refine Lib.wpList_append_run _ rfl _ _ _ _ rfl _ _ rfl rfl _ _ HRn.out ?_)
                  refine HC.out.mono ?_
                  rintro e v7 ⟨rfl, hb⟩
                  have HV7 := hide (HV6.out.trans (hb.mono HV6.out.size))
                  have HO7 := hide (HO6.out.later hb)
                  clear hb HC x0 x1 x2 x3 x4 g0 g1 g2 g3 g4 HRn HV6 HO6 HB6
                  have hW7 := HR1.out.trans (HV7.out.mono HR1.out.size)
                  obtain ⟨g0, g1, g2, g3, g4⟩ := five_cells (blk_later NG.out hW7) rfl
                  clear hW7
                  go_wp2_with (at_builtin; refine LG.wp_append_kept rfl _ _ rfl W1.heap.size _ L (0, 1, 1, 1, 0) _ rfl rfl (World.ownsRow.alloc HO7.out _) ?c1 ?c2 ?c3 ?c4 ?c5 ?c6 ?c7 ?_)
                  case c6 => have := HV7.out.size; simp; omega
                  case c7 => have := HLn.out; omega
                  intro v' w2 hO2 hG2 _
                  have HO8 := hide hO2
                  have HV8 := hide (hG2.toBelow (HV7.out.alloc HV7.out.size _) (by have := HV7.out.size; simp; omega) (fun g h => (World.ownsRow.lt HO7.out g h).1))
                  obtain ⟨ad2, cp2, rfl⟩ := LG.OM.slice hO2
                  clear hO2 hG2 HO7 HV7 g0 g1 g2 g3 g4
                  go_wp2_with fail
                  go_roundw
                  case rel => exact ⟨n + 1, L ++ [(0, 1, 1, 1, 0)], ad2, cp2, by omega, by go_num, rfl, hide (by have := HLn.out; simp; omega), HO8, HV8⟩
                  case measure => simp [intOf]; omega
            · have hdn : decide ((n : Int) ≤ 5) = false := by rw [decide_eq_false_iff_not]; omega
              go_wp2_with fail
              go_roundw
              case rel => exact ⟨k + 1, by omega, by go_num, HV⟩
              case measure => simp [intOf]; omega
        · have hdk : decide ((k : Int) < 8) = false := by rw [decide_eq_false_iff_not]; omega
          go_wp2_with fail
          go_roundw
          case rel => exact ⟨i + 1, by omega, by go_num, hide (HR1.out.trans (HV.out.mono HR1.out.size))⟩
          case measure => simp [intOf]; omega
    · have hd : decide ((i : Int) < 9) = false := by rw [decide_eq_false_iff_not]; omega
      have HB := hide (HB0.out.trans (HR.out.mono HB0.out.size))
      go_wp2_with fail
      go_ret
      exact ⟨rfl, HB.out⟩
end Go.Proofs.YtdiamlajmcikhaaGreatDoor
