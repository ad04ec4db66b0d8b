/-
  My own text: G29, G30 in one.
-/
import Derived.Test.YtdiamlajmcikhaaGreatDoorG28a
import Derived.Test.YtdiamlajmcikhaaGreatDoorGIA
namespace Go.Proofs.YtdiamlajmcikhaaGreatDoor
open Go.RowKit

theorem cf_at {W : World} {g : Nat} {x : Int} (h : W.heap[g]? = some (.cells #[.int .i64 x, .int .i64 1, .int .i64 0, .int .i64 1, .int .i64 0, .int .i64 1, .int .i64 x, .int .i64 0, .int .i64 1, .int .i64 0, .int .i64 1, .int .i64 1, .int .i64 0, .int .i64 x, .int .i64 0, .int .i64 1, .int .i64 1, .int .i64 x, .int .i64 1, .int .i64 0, .int .i64 1, .int .i64 1, .int .i64 0, .int .i64 1, .int .i64 x] 34 (0, 0))) {k : Nat} (hk : k < 5) : ∃ a0 a1 a2 a3 a4 : Int, W.cell? ⟨g, k * 5, none⟩ = some (.int .i64 a0) ∧ W.cell? ⟨g, k * 5 + 1, none⟩ = some (.int .i64 a1) ∧ W.cell? ⟨g, k * 5 + 2, none⟩ = some (.int .i64 a2) ∧ W.cell? ⟨g, k * 5 + 3, none⟩ = some (.int .i64 a3) ∧ W.cell? ⟨g, k * 5 + 4, none⟩ = some (.int .i64 a4) := by
  match k, hk with
  | 0, _ => exact ⟨x, 1, 0, 1, 0, by rw [cell_of_row _ _ _ _ _ _ h]; rfl, by rw [cell_of_row _ _ _ _ _ _ h]; rfl, by rw [cell_of_row _ _ _ _ _ _ h]; rfl, by rw [cell_of_row _ _ _ _ _ _ h]; rfl, by rw [cell_of_row _ _ _ _ _ _ h]; rfl⟩
  | 1, _ => exact ⟨1, x, 0, 1, 0, by rw [cell_of_row _ _ _ _ _ _ h]; rfl, by rw [cell_of_row _ _ _ _ _ _ h]; rfl, by rw [cell_of_row _ _ _ _ _ _ h]; rfl, by rw [cell_of_row _ _ _ _ _ _ h]; rfl, by rw [cell_of_row _ _ _ _ _ _ h]; rfl⟩
  | 2, _ => exact ⟨1, 1, 0, x, 0, by rw [cell_of_row _ _ _ _ _ _ h]; rfl, by rw [cell_of_row _ _ _ _ _ _ h]; rfl, by rw [cell_of_row _ _ _ _ _ _ h]; rfl, by rw [cell_of_row _ _ _ _ _ _ h]; rfl, by rw [cell_of_row _ _ _ _ _ _ h]; rfl⟩
  | 3, _ => exact ⟨1, 1, x, 1, 0, by rw [cell_of_row _ _ _ _ _ _ h]; rfl, by rw [cell_of_row _ _ _ _ _ _ h]; rfl, by rw [cell_of_row _ _ _ _ _ _ h]; rfl, by rw [cell_of_row _ _ _ _ _ _ h]; rfl, by rw [cell_of_row _ _ _ _ _ _ h]; rfl⟩
  | 4, _ => exact ⟨1, 1, 0, 1, x, by rw [cell_of_row _ _ _ _ _ _ h]; rfl, by rw [cell_of_row _ _ _ _ _ _ h]; rfl, by rw [cell_of_row _ _ _ _ _ _ h]; rfl, by rw [cell_of_row _ _ _ _ _ _ h]; rfl, by rw [cell_of_row _ _ _ _ _ _ h]; rfl⟩
set_option maxRecDepth 100000 in
set_option maxHeartbeats 8000000 in
theorem knownFits_any (w : World) (hK : KG w) :
    Calls Tryz.prog 9 #[] w fun e w' => e = .returned (.bool true) ∧ Below w.heap.size w w' := by
  have HK := hide hK
  clear hK
  have HP0 : Hid (Below w.heap.size w (w.alloc (.cells #[.int .i64 (-9223372036854775808), .int .i64 (-1), .int .i64 0, .int .i64 1, .int .i64 8, .int .i64 9, .int .i64 64, .int .i64 65, .int .i64 256, .int .i64 257, .int .i64 65536, .int .i64 65537, .int .i64 9223372036854775807] 3)) ∧ (w.alloc (.cells #[.int .i64 (-9223372036854775808), .int .i64 (-1), .int .i64 0, .int .i64 1, .int .i64 8, .int .i64 9, .int .i64 64, .int .i64 65, .int .i64 256, .int .i64 257, .int .i64 65536, .int .i64 65537, .int .i64 9223372036854775807] 3)).heap[w.heap.size]? = some (.cells #[.int .i64 (-9223372036854775808), .int .i64 (-1), .int .i64 0, .int .i64 1, .int .i64 8, .int .i64 9, .int .i64 64, .int .i64 65, .int .i64 256, .int .i64 257, .int .i64 65536, .int .i64 65537, .int .i64 9223372036854775807] 3 (0, 0))) := hide ⟨(Below.refl w.heap.size w).alloc (Nat.le_refl _) _, alloc_new w _⟩
  have HF := hide (fun W : World => fits_any 65536 65536 256 64 8 W)
  rw [show ftE 65536 65536 256 64 8 = 0 by rfl, errV_zero] at HF
  go_enter Tryz.func9, Tryz.ntmps9
  go_wp2_with fail
  generalize w.alloc (.cells #[.int .i64 (-9223372036854775808), .int .i64 (-1), .int .i64 0, .int .i64 1, .int .i64 8, .int .i64 9, .int .i64 64, .int .i64 65, .int .i64 256, .int .i64 257, .int .i64 65536, .int .i64 65537, .int .i64 9223372036854775807] 3) = W0 at *
  go_loopw [2] (fun i wr => ∃ k : Nat, k ≤ 13 ∧ i = .int .i64 (k : Int) ∧ Hid (Below w.heap.size w wr ∧ wr.heap[w.heap.size]? = some (.cells #[.int .i64 (-9223372036854775808), .int .i64 (-1), .int .i64 0, .int .i64 1, .int .i64 8, .int .i64 9, .int .i64 64, .int .i64 65, .int .i64 256, .int .i64 257, .int .i64 65536, .int .i64 65537, .int .i64 9223372036854775807] 3 (0, 0)))) (fun i _ => 13 - (intOf i).toNat)
  case atStart => exact ⟨0, by omega, rfl, HP0⟩
  case round =>
    clear HP0
    obtain ⟨i, hi, rfl, HP⟩ := hrel
    by_cases hlt : i < 13
    · have hd : decide ((i : Int) < 13) = true := by rw [decide_eq_true_eq]; omega
      obtain ⟨x, hx⟩ := num_at (L := [-9223372036854775808, -1, 0, 1, 8, 9, 64, 65, 256, 257, 65536, 65537, 9223372036854775807]) HP.out.2 rfl hlt
      have k0 : (0 : Int) ≤ (i : Int) := by omega
      have k1 : (i : Int) < 13 := by omega
      have b1 := (Below.refl wr.heap.size wr).alloc (Nat.le_refl _) (.cells #[.int .i64 x, .int .i64 1, .int .i64 0, .int .i64 1, .int .i64 0, .int .i64 1, .int .i64 x, .int .i64 0, .int .i64 1, .int .i64 0, .int .i64 1, .int .i64 1, .int .i64 0, .int .i64 x, .int .i64 0, .int .i64 1, .int .i64 1, .int .i64 x, .int .i64 1, .int .i64 0, .int .i64 1, .int .i64 1, .int .i64 0, .int .i64 1, .int .i64 x] 34)
      have HP1 : Hid ((Below w.heap.size w (wr.alloc (.cells #[.int .i64 x, .int .i64 1, .int .i64 0, .int .i64 1, .int .i64 0, .int .i64 1, .int .i64 x, .int .i64 0, .int .i64 1, .int .i64 0, .int .i64 1, .int .i64 1, .int .i64 0, .int .i64 x, .int .i64 0, .int .i64 1, .int .i64 1, .int .i64 x, .int .i64 1, .int .i64 0, .int .i64 1, .int .i64 1, .int .i64 0, .int .i64 1, .int .i64 x] 34)) ∧ (wr.alloc (.cells #[.int .i64 x, .int .i64 1, .int .i64 0, .int .i64 1, .int .i64 0, .int .i64 1, .int .i64 x, .int .i64 0, .int .i64 1, .int .i64 0, .int .i64 1, .int .i64 1, .int .i64 0, .int .i64 x, .int .i64 0, .int .i64 1, .int .i64 1, .int .i64 x, .int .i64 1, .int .i64 0, .int .i64 1, .int .i64 1, .int .i64 0, .int .i64 1, .int .i64 x] 34)).heap[w.heap.size]? = some (.cells #[.int .i64 (-9223372036854775808), .int .i64 (-1), .int .i64 0, .int .i64 1, .int .i64 8, .int .i64 9, .int .i64 64, .int .i64 65, .int .i64 256, .int .i64 257, .int .i64 65536, .int .i64 65537, .int .i64 9223372036854775807] 3 (0, 0))) ∧ (wr.alloc (.cells #[.int .i64 x, .int .i64 1, .int .i64 0, .int .i64 1, .int .i64 0, .int .i64 1, .int .i64 x, .int .i64 0, .int .i64 1, .int .i64 0, .int .i64 1, .int .i64 1, .int .i64 0, .int .i64 x, .int .i64 0, .int .i64 1, .int .i64 1, .int .i64 x, .int .i64 1, .int .i64 0, .int .i64 1, .int .i64 1, .int .i64 0, .int .i64 1, .int .i64 x] 34)).heap[wr.heap.size]? = some (.cells #[.int .i64 x, .int .i64 1, .int .i64 0, .int .i64 1, .int .i64 0, .int .i64 1, .int .i64 x, .int .i64 0, .int .i64 1, .int .i64 0, .int .i64 1, .int .i64 1, .int .i64 0, .int .i64 x, .int .i64 0, .int .i64 1, .int .i64 1, .int .i64 x, .int .i64 1, .int .i64 0, .int .i64 1, .int .i64 1, .int .i64 0, .int .i64 1, .int .i64 x] 34 (0, 0))) := hide ⟨⟨HP.out.1.trans (b1.mono HP.out.1.size), blk_later HP.out.2 b1⟩, alloc_new wr _⟩
      clear b1 HP
      go_wp2_with fail
      obtain ⟨g, hg⟩ : ∃ g, wr.heap.size = g := ⟨_, rfl⟩
      rw [hg] at HP1 ⊢
      clear hg
      generalize wr.alloc (.cells #[.int .i64 x, .int .i64 1, .int .i64 0, .int .i64 1, .int .i64 0, .int .i64 1, .int .i64 x, .int .i64 0, .int .i64 1, .int .i64 0, .int .i64 1, .int .i64 1, .int .i64 0, .int .i64 x, .int .i64 0, .int .i64 1, .int .i64 1, .int .i64 x, .int .i64 1, .int .i64 0, .int .i64 1, .int .i64 1, .int .i64 0, .int .i64 1, .int .i64 x] 34) = W1 at *
      clear hx
      go_loopw [5] (fun i wr => ∃ k : Nat, k ≤ 5 ∧ i = .int .i64 (k : Int) ∧ Hid ((Below w.heap.size w wr ∧ wr.heap[w.heap.size]? = some (.cells #[.int .i64 (-9223372036854775808), .int .i64 (-1), .int .i64 0, .int .i64 1, .int .i64 8, .int .i64 9, .int .i64 64, .int .i64 65, .int .i64 256, .int .i64 257, .int .i64 65536, .int .i64 65537, .int .i64 9223372036854775807] 3 (0, 0))) ∧ wr.heap[g]? = some (.cells #[.int .i64 x, .int .i64 1, .int .i64 0, .int .i64 1, .int .i64 0, .int .i64 1, .int .i64 x, .int .i64 0, .int .i64 1, .int .i64 0, .int .i64 1, .int .i64 1, .int .i64 0, .int .i64 x, .int .i64 0, .int .i64 1, .int .i64 1, .int .i64 x, .int .i64 1, .int .i64 0, .int .i64 1, .int .i64 1, .int .i64 0, .int .i64 1, .int .i64 x] 34 (0, 0)))) (fun i _ => 5 - (intOf i).toNat)
      case atStart => exact ⟨0, by omega, rfl, HP1⟩
      case round =>
        clear HP1
        obtain ⟨k, hk, rfl, HP⟩ := hrel
        by_cases hltk : k < 5
        · have hdk : decide ((k : Int) < 5) = true := by rw [decide_eq_true_eq]; omega
          obtain ⟨a0, a1, a2, a3, a4, c0, c1, c2, c3, c4⟩ := cf_at HP.out.2 hltk
          have HC := hide (HK.out.fit wr a0 a1 a2 a3 a4 HP.out.1.1)
          have m0 : (0 : Int) ≤ (k : Int) := by omega
          have m1 : (k : Int) < 5 := by omega
          go_wp2_with fail
          refine HC.out.mono ?_
          rintro e w1 ⟨rfl, hb⟩
          have HP1 : Hid ((Below w.heap.size w w1 ∧ w1.heap[w.heap.size]? = some (.cells #[.int .i64 (-9223372036854775808), .int .i64 (-1), .int .i64 0, .int .i64 1, .int .i64 8, .int .i64 9, .int .i64 64, .int .i64 65, .int .i64 256, .int .i64 257, .int .i64 65536, .int .i64 65537, .int .i64 9223372036854775807] 3 (0, 0))) ∧ w1.heap[g]? = some (.cells #[.int .i64 x, .int .i64 1, .int .i64 0, .int .i64 1, .int .i64 0, .int .i64 1, .int .i64 x, .int .i64 0, .int .i64 1, .int .i64 0, .int .i64 1, .int .i64 1, .int .i64 0, .int .i64 x, .int .i64 0, .int .i64 1, .int .i64 1, .int .i64 x, .int .i64 1, .int .i64 0, .int .i64 1, .int .i64 1, .int .i64 0, .int .i64 1, .int .i64 x] 34 (0, 0))) := hide ⟨⟨HP.out.1.1.trans (hb.mono HP.out.1.1.size), blk_later HP.out.1.2 hb⟩, blk_later HP.out.2 hb⟩
          clear hb HC c0 c1 c2 c3 c4 HP
          go_wp2_with fail
          go_roundw
          case rel => exact ⟨k + 1, by omega, by go_num, HP1⟩
          case measure => simp [intOf]; omega
        · have hdk : decide ((k : Int) < 5) = false := by rw [decide_eq_false_iff_not]; omega
          go_wp2_with fail
          go_roundw
          case rel => exact ⟨i + 1, by omega, by go_num, hide HP.out.1⟩
          case measure => simp [intOf]; omega
    · have hd : decide ((i : Int) < 13) = false := by rw [decide_eq_false_iff_not]; omega
      have B1 := hide HP.out.1
      clear HP
      go_wp2_with fail
      refine (HF.out _).mono ?_
      rintro e w1 ⟨rfl, hb⟩
      have B2 := hide (B1.out.trans (hb.mono B1.out.size))
      clear hb
      go_wp2_with fail
      go_ret
      exact ⟨rfl, B2.out⟩
end Go.Proofs.YtdiamlajmcikhaaGreatDoor
namespace Go.Proofs.YtdiamlajmcikhaaGreatDoor
open Go.RowKit

theorem kr_one (w : World) (c : Int) : LN.OM (w.alloc (.cells #[.int .i64 c] 2)) w.heap.size (.slice (some ⟨w.heap.size, 0, none⟩) 1 1) [c] := LN.om_blk (L := [c]) (alloc_new w _) rfl (Nat.le_refl _) (show 1 ≤ 1000 by decide)
theorem kr_up {w W : World} {v : Value} {L : List Int} (h : LN.OM W W.heap.size v L) (hB : Below w.heap.size w W) : LN.OM W w.heap.size v L := h.base fun g hg => Nat.le_trans hB.size (World.ownsRow.lt h g hg).1
theorem kr_quo4 {n : Nat} : ((n : Int)).tdiv 4 = ((n / 4 : Nat) : Int) := by rw [Int.tdiv_eq_ediv_of_nonneg (by omega)]; rfl
theorem kr_rem6 {n : Nat} : ((n : Int)).tmod 6 = ((n % 6 : Nat) : Int) := by rw [Int.tmod_eq_emod_of_nonneg (by omega)]; rfl
theorem kr_sm {n : Nat} (h : n < 1000) : IntKind.i64.wrap (n : Int) = (n : Int) := by rw [IntKind.wrap_i64]; omega
theorem kr_sm64 {n : Nat} (h : n < 1000) : wrap64 (n : Int) = (n : Int) := by unfold wrap64; omega
theorem kr_low {w0 w w' : World} {B : Nat} {v v' : Value} {L : List Int} (hg : Grew w v w' v') (hO : LN.OM w B v L) (hb : Below B w0 w) (h0 : B ≤ w0.heap.size) : Below B w0 w' := hg.toBelow hb (Nat.le_trans h0 hb.size) (fun g h => (World.ownsRow.lt hO g h).1)
theorem kr_lg67 (w : World) : LG.RM (w.alloc (.cells #[.int .i64 6, .int .i64 0, .int .i64 0, .int .i64 0, .int .i64 0, .int .i64 0, .int .i64 7, .int .i64 0, .int .i64 0, .int .i64 0] 38)) (.slice (some ⟨w.heap.size, 0, none⟩) 2 2) [(6, 0, 0, 0, 0), (0, 7, 0, 0, 0)] := (LG.om_blk (B := w.heap.size) (L := [(6, 0, 0, 0, 0), (0, 7, 0, 0, 0)]) (alloc_new w _) rfl (Nat.le_refl _) (by decide)).rm
theorem kr_ky8 (w : World) : KY.RM (w.alloc (.cells #[.int .i64 8, .int .i64 0] 40)) (.slice (some ⟨w.heap.size, 0, none⟩) 1 1) [(8, 0)] := (KY.om_blk (B := w.heap.size) (L := [(8, 0)]) (alloc_new w _) rfl (Nat.le_refl _) (by decide)).rm
theorem kr_l0 (w : World) : LN.RM (w.alloc (.cells #[.int .i64 4294967296] 2)) (.slice (some ⟨w.heap.size, 0, none⟩) 1 1) [4294967296] := (LN.om_blk (B := w.heap.size) (L := [4294967296]) (alloc_new w _) rfl (Nat.le_refl _) (by decide)).rm
theorem kr_l1 (w : World) : LN.RM (w.alloc (.cells #[.int .i64 4294967297, .int .i64 0, .int .i64 0, .int .i64 1] 2)) (.slice (some ⟨w.heap.size, 0, none⟩) 4 4) [4294967297, 0, 0, 1] := (LN.om_blk (B := w.heap.size) (L := [4294967297, 0, 0, 1]) (alloc_new w _) rfl (Nat.le_refl _) (by decide)).rm
theorem kr_l2 (w : World) : LN.RM (w.alloc (.cells #[.int .i64 5, .int .i64 9223372036854775807, .int .i64 (-9223372036854775808), .int .i64 9223372036854775807, .int .i64 0, .int .i64 (-1), .int .i64 (-9223372036854775808)] 2)) (.slice (some ⟨w.heap.size, 0, none⟩) 7 7) [5, 9223372036854775807, -9223372036854775808, 9223372036854775807, 0, -1, -9223372036854775808] := (LN.om_blk (B := w.heap.size) (L := [5, 9223372036854775807, -9223372036854775808, 9223372036854775807, 0, -1, -9223372036854775808]) (alloc_new w _) rfl (Nat.le_refl _) (by decide)).rm
set_option maxRecDepth 100000 in
set_option maxHeartbeats 8000000 in
theorem knownRows_any (w : World) (hK : KG w) :
    Calls Tryz.prog 5 #[] w fun e w' => e = .returned (.bool true) ∧ Below w.heap.size w w' := by
  have HK := hide hK
  clear hK
  have HB0 := hide (Below.refl w.heap.size w)
  go_enter Tryz.func5, Tryz.ntmps5
  go_wp2_with fail
  go_loopw [1] (fun i wr => ∃ c : Int, -1 ≤ c ∧ c ≤ 11 ∧ i = .int .i64 c ∧ Hid (Below w.heap.size w wr)) (fun i _ => (11 - intOf i).toNat)
  case atStart => exact ⟨-1, by omega, by omega, rfl, HB0⟩
  case round =>
    clear HB0
    obtain ⟨c, hc0, hc1, rfl, HB⟩ := hrel
    by_cases hlt : c ≤ 10
    · have hd : decide (c ≤ 10) = true := by rw [decide_eq_true_eq]; omega
      have HO0 : Hid (LN.OM (wr.alloc (.cells #[.int .i64 c] 2)) w.heap.size (.slice (some ⟨wr.heap.size, 0, none⟩) 1 1) [c]) := hide (World.ownsRow.mono (kr_one wr c) HB.out.size)
      have HB1 := hide (HB.out.alloc HB.out.size (.cells #[.int .i64 c] 2))
      clear HB
      go_wp2_with fail
      generalize wr.alloc (.cells #[.int .i64 c] 2) = W1 at *
      go_loopw [2, 3] (fun l i wr => ∃ (k : Nat) (L : List Int) (ad : Option Addr) (cp : Nat), k ≤ 24 ∧ i = .int .i64 (k : Int) ∧ l = .slice ad L.length cp ∧ Hid (L.length = k + 1) ∧ Hid (LN.OM wr w.heap.size (.slice ad L.length cp) L) ∧ Hid (Below w.heap.size w wr)) (fun _ i _ => 24 - (intOf i).toNat)
      case atStart => exact ⟨0, [c], _, 1, by omega, rfl, rfl, hide rfl, HO0, HB1⟩
      case round =>
        clear HO0 HB1
        obtain ⟨k, L, ad, cp, hk, rfl, rfl, HLn, HO, HB⟩ := hrel
        by_cases hltk : k < 24
        · have hdk : decide ((k : Int) < 24) = true := by rw [decide_eq_true_eq]; omega
          have HC := hide (HK.out.dec wr _ L HB.out HO.out.rm (by have := HLn.out; omega))
          go_wp2_with fail
          refine HC.out.mono ?_
          rintro e w1 ⟨rfl, hb⟩
          have HO1 := hide (HO.out.later hb)
          have HB1 := hide (HB.out.trans (hb.mono HB.out.size))
          clear hb HC HO HB
          go_wp2_with (at_builtin; refine LN.wp_append_kept rfl _ _ rfl w.heap.size _ L ((k : Int) - 2) _ rfl rfl (World.ownsRow.alloc HO1.out _) ?c1 ?c2 ?c3 ?_)
          case c1 => rw [cell_of_row _ _ 0 _ _ _ (alloc_new _ _)]; rfl
          case c2 => have := HB1.out.size; simp; omega
          case c3 => have := HLn.out; omega
          intro v' w2 hO2 hG2 _
          have HO2 := hide hO2
          have HB2 := hide (kr_low hG2 (World.ownsRow.alloc HO1.out _) (HB1.out.alloc HB1.out.size _) (Nat.le_refl _))
          obtain ⟨ad2, cp2, rfl⟩ := LN.OM.slice hO2
          clear hO2 hG2 HO1 HB1
          go_wp2_with fail
          go_roundw
          case rel => exact ⟨k + 1, L ++ [(k : Int) - 2], ad2, cp2, by omega, by go_num, rfl, hide (by have := HLn.out; simp; omega), HO2, HB2⟩
          case measure => simp [intOf]; omega
        · have hdk : decide ((k : Int) < 24) = false := by rw [decide_eq_false_iff_not]; omega
          have b1 := (Below.refl wr.heap.size wr).alloc (Nat.le_refl _) (.cells #[.int .i64 6, .int .i64 0, .int .i64 0, .int .i64 0, .int .i64 0, .int .i64 0, .int .i64 7, .int .i64 0, .int .i64 0, .int .i64 0] 38)
          have z1 : (wr.alloc (.cells #[.int .i64 6, .int .i64 0, .int .i64 0, .int .i64 0, .int .i64 0, .int .i64 0, .int .i64 7, .int .i64 0, .int .i64 0, .int .i64 0] 38)).heap.size = wr.heap.size + 1 := by simp
          have q1 := kr_lg67 wr
          have b2 := (Below.refl (wr.alloc (.cells #[.int .i64 6, .int .i64 0, .int .i64 0, .int .i64 0, .int .i64 0, .int .i64 0, .int .i64 7, .int .i64 0, .int .i64 0, .int .i64 0] 38)).heap.size (wr.alloc (.cells #[.int .i64 6, .int .i64 0, .int .i64 0, .int .i64 0, .int .i64 0, .int .i64 0, .int .i64 7, .int .i64 0, .int .i64 0, .int .i64 0] 38))).alloc (Nat.le_refl _) (.cells #[.int .i64 8, .int .i64 0] 40)
          have q2 := kr_ky8 (wr.alloc (.cells #[.int .i64 6, .int .i64 0, .int .i64 0, .int .i64 0, .int .i64 0, .int .i64 0, .int .i64 7, .int .i64 0, .int .i64 0, .int .i64 0] 38))
          have z2 : ((wr.alloc (.cells #[.int .i64 6, .int .i64 0, .int .i64 0, .int .i64 0, .int .i64 0, .int .i64 0, .int .i64 7, .int .i64 0, .int .i64 0, .int .i64 0] 38)).alloc (.cells #[.int .i64 8, .int .i64 0] 40)).heap.size = wr.heap.size + 2 := by simp
          have b3 := (Below.refl ((wr.alloc (.cells #[.int .i64 6, .int .i64 0, .int .i64 0, .int .i64 0, .int .i64 0, .int .i64 0, .int .i64 7, .int .i64 0, .int .i64 0, .int .i64 0] 38)).alloc (.cells #[.int .i64 8, .int .i64 0] 40)).heap.size ((wr.alloc (.cells #[.int .i64 6, .int .i64 0, .int .i64 0, .int .i64 0, .int .i64 0, .int .i64 0, .int .i64 7, .int .i64 0, .int .i64 0, .int .i64 0] 38)).alloc (.cells #[.int .i64 8, .int .i64 0] 40))).alloc (Nat.le_refl _) (.cells #[.int .i64 c, .int .i64 1, .int .i64 2, .int .i64 3, .int .i64 4, .int .i64 5, .slice (some ⟨wr.heap.size, 0, none⟩) 2 2, .slice (some ⟨wr.heap.size + 1, 0, none⟩) 1 1] 26)
          have n3 := alloc_new ((wr.alloc (.cells #[.int .i64 6, .int .i64 0, .int .i64 0, .int .i64 0, .int .i64 0, .int .i64 0, .int .i64 7, .int .i64 0, .int .i64 0, .int .i64 0] 38)).alloc (.cells #[.int .i64 8, .int .i64 0] 40)) (.cells #[.int .i64 c, .int .i64 1, .int .i64 2, .int .i64 3, .int .i64 4, .int .i64 5, .slice (some ⟨wr.heap.size, 0, none⟩) 2 2, .slice (some ⟨wr.heap.size + 1, 0, none⟩) 1 1] 26)
          rw [z1] at q2
          rw [z2] at n3
          have b12 := b1.trans (b2.mono b1.size)
          have b13 := b12.trans (b3.mono b12.size)
          have HB3 := hide (HB.out.trans (b13.mono HB.out.size))
          have HQ1 := hide ((q1.later b2).later b3)
          have HQ2 := hide (q2.later b3)
          have N3 := hide n3
          have y0 := eight_cells n3 rfl
          obtain ⟨y0, y1, y2, y3, y4, y5, y6, y7⟩ := y0
          clear b1 b2 b3 b12 b13 q1 q2 n3 z1 z2 HB HO
          go_wp2_with fail
          obtain ⟨W3, hW3⟩ : ∃ x, (((wr.alloc (.cells #[.int .i64 6, .int .i64 0, .int .i64 0, .int .i64 0, .int .i64 0, .int .i64 0, .int .i64 7, .int .i64 0, .int .i64 0, .int .i64 0] 38)).alloc (.cells #[.int .i64 8, .int .i64 0] 40)).alloc (.cells #[.int .i64 c, .int .i64 1, .int .i64 2, .int .i64 3, .int .i64 4, .int .i64 5, .slice (some ⟨wr.heap.size, 0, none⟩) 2 2, .slice (some ⟨wr.heap.size + 1, 0, none⟩) 1 1] 26)) = x := ⟨_, rfl⟩
          rw [hW3] at HB3 HQ1 HQ2 y0 y1 y2 y3 y4 y5 y6 y7 ⊢
          have HC := hide (HK.out.enc W3 c 1 2 3 4 5 _ _ _ _ HB3.out HQ1.out HQ2.out (by simp) (by simp))
          clear hW3
          refine HC.out.mono ?_
          rintro e w4 ⟨rfl, hb⟩
          have HB4 := hide (HB3.out.trans (hb.mono HB3.out.size))
          clear hb HC y0 y1 y2 y3 y4 y5 y6 y7
          have HC := hide (HK.out.enc w4 c 0 0 0 0 0 _ _ _ _ HB4.out (LG.RM.nil w4) (KY.RM.nil w4) (by simp) (by simp))
          go_wp2_with fail
          refine HC.out.mono ?_
          rintro e w5 ⟨rfl, hb⟩
          have HB5 := hide (HB4.out.trans (hb.mono HB4.out.size))
          clear hb HC
          go_wp2_with fail
          go_roundw
          case rel => exact ⟨c + 1, by omega, by omega, by go_num, HB5⟩
          case measure => simp [intOf]; omega
    · have hd : decide (c ≤ 10) = false := by rw [decide_eq_false_iff_not]; omega
      obtain ⟨W0, hW0⟩ : ∃ x, wr.alloc (.cells #[.int .i64 (-9223372036854775808), .int .i64 (-4611686018427387904), .int .i64 (-4294967296), .int .i64 2147483648, .int .i64 4294967296, .int .i64 9223372036854775807] 2) = x := ⟨_, rfl⟩
      have NE := hide (alloc_new wr (.cells #[.int .i64 (-9223372036854775808), .int .i64 (-4611686018427387904), .int .i64 (-4294967296), .int .i64 2147483648, .int .i64 4294967296, .int .i64 9223372036854775807] 2))
      have HB0 := hide (HB.out.alloc HB.out.size (.cells #[.int .i64 (-9223372036854775808), .int .i64 (-4611686018427387904), .int .i64 (-4294967296), .int .i64 2147483648, .int .i64 4294967296, .int .i64 9223372036854775807] 2))
      clear HB
      rw [hW0] at NE HB0
      go_wp2_with fail
      clear hW0
      obtain ⟨g, hg⟩ : ∃ g, wr.heap.size = g := ⟨_, rfl⟩
      rw [hg] at NE ⊢
      clear hg
      have HR := hide (Below.refl W0.heap.size W0)
      go_loopw [6] (fun i wr => ∃ k : Nat, 1 ≤ k ∧ k ≤ 9 ∧ i = .int .i64 (k : Int) ∧ Hid (Below W0.heap.size W0 wr)) (fun i _ => 9 - (intOf i).toNat)
      case atStart => exact ⟨1, by omega, by omega, rfl, HR⟩
      case round =>
        clear HR
        obtain ⟨cd, hcd0, hcd1, rfl, HR⟩ := hrel
        by_cases hltc : cd < 9
        · have hdc : decide ((cd : Int) < 9) = true := by rw [decide_eq_true_eq]; omega
          go_wp2_with fail
          go_loopw [7] (fun i wr => ∃ k : Nat, k ≤ 6 ∧ i = .int .i64 (k : Int) ∧ Hid (Below W0.heap.size W0 wr)) (fun i _ => 6 - (intOf i).toNat)
          case atStart => exact ⟨0, by omega, rfl, HR⟩
          case round =>
            clear HR
            obtain ⟨i, hi, rfl, HR⟩ := hrel
            by_cases hlti : i < 6
            · have hdi : decide ((i : Int) < 6) = true := by rw [decide_eq_true_eq]; omega
              have HO0 : Hid (LN.OM (wr.alloc (.cells #[.int .i64 (cd : Int)] 2)) W0.heap.size (.slice (some ⟨wr.heap.size, 0, none⟩) 1 1) [(cd : Int)]) := hide (World.ownsRow.mono (kr_one wr cd) HR.out.size)
              have HR1 := hide (HR.out.alloc HR.out.size (.cells #[.int .i64 (cd : Int)] 2))
              clear HR
              go_wp2_with fail
              generalize wr.alloc (.cells #[.int .i64 (cd : Int)] 2) = W1 at *
              go_loopw [8, 9] (fun l i wr => ∃ (k : Nat) (L : List Int) (ad : Option Addr) (cp : Nat), k ≤ 13 ∧ i = .int .i64 (k : Int) ∧ l = .slice ad L.length cp ∧ Hid (L.length = k + 1) ∧ Hid (LN.OM wr W0.heap.size (.slice ad L.length cp) L) ∧ Hid (Below W0.heap.size W0 wr)) (fun _ i _ => 13 - (intOf i).toNat)
              case atStart => exact ⟨0, [(cd : Int)], _, 1, by omega, rfl, rfl, hide rfl, HO0, HR1⟩
              case round =>
                clear HO0 HR1
                obtain ⟨k, L, ad, cp, hk, rfl, rfl, HLn, HO, HR⟩ := hrel
                by_cases hltk : k < 13
                · have hdk : decide ((k : Int) < 13) = true := by rw [decide_eq_true_eq]; omega
                  have HW := hide (HB0.out.trans (HR.out.mono HB0.out.size))
                  have HC := hide (HK.out.dec wr _ L HW.out HO.out.rm (by have := HLn.out; omega))
                  go_wp2_with fail
                  refine HC.out.mono ?_
                  rintro e w1 ⟨rfl, hb⟩
                  have HO1 := hide (HO.out.later hb)
                  have HR1 := hide (HR.out.trans (hb.mono HR.out.size))
                  clear hb HC HO HR HW
                  have HW := hide (HB0.out.trans (HR1.out.mono HB0.out.size))
                  have HC := hide (HK.out.bck w1 _ L HW.out HO1.out.rm (by have := HLn.out; omega))
                  go_wp2_with fail
                  refine HC.out.mono ?_
                  rintro e w2 ⟨rfl, hb⟩
                  have HO2 := hide (HO1.out.later hb)
                  have HR2 := hide (HR1.out.trans (hb.mono HR1.out.size))
                  clear hb HC HO1 HR1 HW
                  have f0 := kr_quo4 (n := k)
                  obtain ⟨q, hq⟩ : ∃ q : Nat, q = k / 4 := ⟨_, rfl⟩
                  obtain ⟨r, hr⟩ : ∃ r : Nat, r = i + q := ⟨_, rfl⟩
                  obtain ⟨s, hs⟩ : ∃ s : Nat, s = r % 6 := ⟨_, rfl⟩
                  have hq4 : q ≤ 3 := by omega
                  have hs6 : s < 6 := by rw [hs]; exact Nat.mod_lt _ (by decide)
                  have f1 : (i : Int) + (q : Int) = (r : Int) := by rw [hr]; rfl
                  have f2 := kr_rem6 (n := r)
                  have f3 := kr_sm (n := r) (by omega)
                  have f4 := kr_sm64 (n := r) (by omega)
                  have f5 : (r : Int) % 6 = (s : Int) := by rw [hs]; rfl
                  have f6 : (k : Int) / 4 = (q : Int) := by rw [hq]; rfl
                  rw [← hq] at f0
                  rw [← hs] at f2
                  obtain ⟨y, hy⟩ := num_at (L := [-9223372036854775808, -4611686018427387904, -4294967296, 2147483648, 4294967296, 9223372036854775807]) (blk_later NE.out HR2.out) rfl hs6
                  have k0 : (0 : Int) ≤ (s : Int) := Int.natCast_nonneg s
                  have k1 : (s : Int) < 6 := Int.ofNat_lt.2 hs6
                  clear hq hr hs hq4
                  go_wp2_with (at_builtin; refine LN.wp_append_kept rfl _ _ rfl W0.heap.size _ L y _ rfl rfl (World.ownsRow.alloc HO2.out _) ?c1 ?c2 ?c3 ?_)
                  case c1 => rw [cell_of_row _ _ 0 _ _ _ (alloc_new _ _)]; rfl
                  case c2 => have := HR2.out.size; simp; omega
                  case c3 => have := HLn.out; omega
                  intro v' w2 hO2 hG2 _
                  have HO3 := hide hO2
                  have HR3 := hide (kr_low hG2 (World.ownsRow.alloc HO2.out _) (HR2.out.alloc HR2.out.size _) (Nat.le_refl _))
                  obtain ⟨ad2, cp2, rfl⟩ := LN.OM.slice hO2
                  clear hO2 hG2 HO2 HR2 f0 f1 f2 f3 f4 f5 f6 hy
                  go_wp2_with fail
                  go_roundw
                  case rel => exact ⟨k + 1, L ++ [y], ad2, cp2, by omega, by go_num, rfl, hide (by have := HLn.out; simp; omega), HO3, HR3⟩
                  case measure => simp [intOf]; omega
                · have hdk : decide ((k : Int) < 13) = false := by rw [decide_eq_false_iff_not]; omega
                  go_wp2_with fail
                  go_roundw
                  case rel => exact ⟨i + 1, by omega, by go_num, HR⟩
                  case measure => simp [intOf]; omega
            · have hdi : decide ((i : Int) < 6) = false := by rw [decide_eq_false_iff_not]; omega
              go_wp2_with fail
              go_roundw
              case rel => exact ⟨cd + 1, by omega, by omega, by go_num, HR⟩
              case measure => simp [intOf]; omega
        · have hdc : decide ((cd : Int) < 9) = false := by rw [decide_eq_false_iff_not]; omega
          have HW := hide (HB0.out.trans (HR.out.mono HB0.out.size))
          have HC := hide (HK.out.dec wr (.slice none 0 0) [] HW.out (LN.RM.nil wr) (by simp))
          clear HR
          go_wp2_with fail
          refine HC.out.mono ?_
          rintro e v0 ⟨rfl, hb⟩
          have HV0 := hide (HW.out.trans (hb.mono HW.out.size))
          clear hb HC HW
          have HA0 := hide (HV0.out.alloc HV0.out.size (.cells #[.int .i64 4294967296] 2))
          have HC := hide (HK.out.dec _ _ _ HA0.out (kr_l0 v0) (by simp))
          go_wp2_with fail
          refine HC.out.mono ?_
          rintro e v1 ⟨rfl, hb⟩
          have HV1 := hide (HA0.out.trans (hb.mono HA0.out.size))
          clear hb HC HA0 HV0
          have HA1 := hide (HV1.out.alloc HV1.out.size (.cells #[.int .i64 4294967297, .int .i64 0, .int .i64 0, .int .i64 1] 2))
          have HC := hide (HK.out.dec _ _ _ HA1.out (kr_l1 v1) (by simp))
          go_wp2_with fail
          refine HC.out.mono ?_
          rintro e v2 ⟨rfl, hb⟩
          have HV2 := hide (HA1.out.trans (hb.mono HA1.out.size))
          clear hb HC HA1 HV1
          have HA2 := hide (HV2.out.alloc HV2.out.size (.cells #[.int .i64 5, .int .i64 9223372036854775807, .int .i64 (-9223372036854775808), .int .i64 9223372036854775807, .int .i64 0, .int .i64 (-1), .int .i64 (-9223372036854775808)] 2))
          have HC := hide (HK.out.dec _ _ _ HA2.out (kr_l2 v2) (by simp))
          go_wp2_with fail
          refine HC.out.mono ?_
          rintro e v3 ⟨rfl, hb⟩
          have HV3 := hide (HA2.out.trans (hb.mono HA2.out.size))
          clear hb HC HA2 HV2
          go_wp2_with fail
          go_ret
          exact ⟨rfl, HV3.out⟩
end Go.Proofs.YtdiamlajmcikhaaGreatDoor
