/-
  My own text: what the closed law asks about dates and Easter: its walks.
-/
import Derived.Test.YtdfeehimnfogmaaGreatDoorD6
namespace Go.Proofs.YtdfeehimnfogmaaGreatDoor
open Go.RowKit

/-- Some numbers in a block's first cells. -/
def IA (w : World) (g n : Nat) : Prop := g < w.heap.size ∧ ∀ j, j < n → ∃ x : Int, w.cell? ⟨g, j, none⟩ = some (.int .i64 x)
theorem IA.later {w w' : World} {g n B : Nat} (h : IA w g n) (hb : Below B w w') (hg : g < B) : IA w' g n :=
  ⟨Nat.lt_of_lt_of_le h.1 hb.size, fun j hj => by
    obtain ⟨x, hx⟩ := h.2 j hj
    exact ⟨x, (hb.cell (p := ⟨g, j, none⟩) hg).trans hx⟩⟩
theorem IA.low {w w' : World} {g n : Nat} (h : IA w g n) (hb : Below w.heap.size w w') : IA w' g n := h.later hb h.1
theorem IA.new (w : World) (L : List Int) (t : TypeId) : IA (w.alloc (.cells (L.map (Value.int .i64)).toArray t)) w.heap.size L.length := by
  have h := (MapKept.heap_alloc w (.cells (L.map (Value.int .i64)).toArray t)).1
  refine ⟨by simp, fun j hj => ⟨L[j], ?_⟩⟩
  unfold World.cell?
  rw [h]
  simp [hj]
theorem below_new {B : Nat} {w w' : World} (hb : Below B w w') (hB : B ≤ w.heap.size) (o : Obj) : Below B w (w'.alloc o) := hb.alloc (Nat.le_trans hB hb.size) o
theorem below_on {B : Nat} {w w1 w2 : World} (hb : Below B w w1) (h2 : Below w1.heap.size w1 w2) (hB : B ≤ w.heap.size) : Below B w w2 := hb.trans (h2.mono (Nat.le_trans hB hb.size))

set_option maxRecDepth 100000 in
set_option maxHeartbeats 4000000 in
theorem dates_known (w : World) (hL : Lies w) :
    Calls Tryz.prog 5 #[] w fun e w' => e = .returned (.bool true) ∧ Below w.heap.size w w' := by
  have HL := hide hL
  have HA := hide (IA.new w [-9223372036854775808, -1, 0, 1, 4, 100, 400, 1600, 1900, 2000, 2023, 2024, 2100, 9996, 9999, 10000, 9223372036854775807] 3)
  have HB0 := hide (below_new (Below.refl w.heap.size w) (Nat.le_refl _) (.cells (([-9223372036854775808, -1, 0, 1, 4, 100, 400, 1600, 1900, 2000, 2023, 2024, 2100, 9996, 9999, 10000, 9223372036854775807] : List Int).map (Value.int .i64)).toArray 3))
  clear hL
  go_enter Tryz.func5, Tryz.ntmps5
  go_wp2_with fail
  go_loopw [8] (fun i wr => ∃ k : Nat, k ≤ 17 ∧ i = .int .i64 k ∧ Hid (Below w.heap.size w wr) ∧ Hid (IA wr w.heap.size 17)) (fun i _ => 17 - (intOf i).toNat)
  case atStart => exact ⟨0, Nat.zero_le _, rfl, HB0, HA⟩
  case round =>
    clear HA HB0
    obtain ⟨k, hk, rfl, HB, HI⟩ := hrel
    by_cases hlt : k < 17
    · obtain ⟨x, hx⟩ := HI.out.2 k hlt
      have hd : decide ((k : Int) < 17) = true := by rw [decide_eq_true_eq]; omega
      go_wp2_with fail
      clear hx
      go_loopw [3] (fun m wr => ∃ t : Int, -1 ≤ t ∧ t ≤ 14 ∧ m = .int .i64 t ∧ Hid (Below w.heap.size w wr) ∧ Hid (IA wr w.heap.size 17)) (fun m _ => (14 - intOf m).toNat)
      case atStart => exact ⟨-1, by omega, by omega, rfl, HB, HI⟩
      case round =>
        clear HB HI
        obtain ⟨t, t0, t1, rfl, HB, HI⟩ := hrel
        obtain ⟨wm, hwm⟩ : ∃ x, x = wr := ⟨_, rfl⟩
        subst hwm
        by_cases htl : t < 14
        · have HJ := hide (IA.new wm [-9223372036854775808, -1, 0, 1, 2, 27, 28, 29, 30, 31, 32, 9223372036854775807] 3)
          have HB1 := hide (below_new HB.out (Nat.le_refl _) (.cells (([-9223372036854775808, -1, 0, 1, 2, 27, 28, 29, 30, 31, 32, 9223372036854775807] : List Int).map (Value.int .i64)).toArray 3))
          have HI1 := hide (HI.out.low ((Below.refl _ _).alloc (Nat.le_refl _) (.cells (([-9223372036854775808, -1, 0, 1, 2, 27, 28, 29, 30, 31, 32, 9223372036854775807] : List Int).map (Value.int .i64)).toArray 3)))
          have hd2 : decide (t < 14) = true := by rw [decide_eq_true_eq]; omega
          go_wp2_with fail
          go_loopw [18] (fun i wr => ∃ j : Nat, j ≤ 12 ∧ i = .int .i64 j ∧ Hid (Below w.heap.size w wr) ∧ Hid (IA wr w.heap.size 17) ∧ Hid (IA wr wm.heap.size 12)) (fun i _ => 12 - (intOf i).toNat)
          case atStart => exact ⟨0, Nat.zero_le _, rfl, HB1, HI1, HJ⟩
          case round =>
            clear HB1 HI1 HJ
            obtain ⟨j, hj, rfl, HB1, HI1, HJ⟩ := hrel
            by_cases hjl : j < 12
            · obtain ⟨y, hy⟩ := HJ.out.2 j hjl
              go_wp2_with fail
              refine (dates_law _ _ _ _ _ (HL.out.below HB1.out)).mono ?_
              rintro e w2 ⟨rfl, hb2⟩
              clear hy
              go_wp2_with fail
              go_roundw
              case rel => exact ⟨j + 1, by omega, by go_num, hide (below_on HB1.out hb2 (Nat.le_refl _)), hide (HI1.out.low hb2), hide (HJ.out.low hb2)⟩
              case measure => simp [intOf]; omega
            · have hj' : j = 12 := by omega
              subst hj'
              rw [show ((12 : Nat) : Int) = 12 from rfl]
              go_wp2_with fail
              go_roundw
              case rel => exact ⟨t + 1, by omega, by omega, by go_num, HB1, HI1⟩
              case measure => simp [intOf]; omega
        · have ht' : t = 14 := by omega
          subst ht'
          go_wp2_with fail
          go_roundw
          case rel => exact ⟨k + 1, by omega, by go_num, HB, HI⟩
          case measure => simp [intOf]; omega
    · have hk' : k = 17 := by omega
      subst hk'
      rw [show ((17 : Nat) : Int) = 17 from rfl]
      go_wp2_with fail
      refine (dates_law _ _ _ _ _ (HL.out.below HB.out)).mono ?_
      rintro e w2 ⟨rfl, hb2⟩
      have hB2 := below_on HB.out hb2 (Nat.le_refl _)
      go_wp2_with fail
      refine (dates_law _ _ _ _ _ (HL.out.below hB2)).mono ?_
      rintro e w3 ⟨rfl, hb3⟩
      go_wp2_with fail
      go_ret
      exact ⟨rfl, below_on hB2 hb3 (Nat.le_refl _)⟩
end Go.Proofs.YtdfeehimnfogmaaGreatDoor
