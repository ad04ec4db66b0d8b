/-
  My own text: the sum, by the program's table and bit by bit.
-/
import Derived.Test.YtbkgegiglegnjabDoorW4
import Derived.Test.YtbkgegiglegnjabDoorW2
import Derived.Test.YtbkgegiglegnjabDoorWCrc
import Derived.Laws.BitsAllLaws
namespace Go.Proofs.YtbkgegiglegnjabDoor
open Go.RowKit Go.Extern

theorem bv_lt (s : BitVec 32) : (s.toNat : Int) < 4294967296 := by have := s.isLt; omega
theorem xor_bv (a b : BitVec 32) : bits .xor .u32 (a.toNat : Int) (b.toNat : Int) = ((a ^^^ b).toNat : Int) := by
  rw [u32_xor_nat _ _ a.isLt b.isLt, BitVec.toNat_xor]
/-- What the table holds. -/
def Tab (w : World) : Prop := ∀ i, i < 16 → w.cell? ⟨1, i, none⟩ = some (.int .u32 (tab4 i : Int))
theorem Tab.lt {w : World} (h : Tab w) : 1 < w.heap.size := by
  rcases Nat.lt_or_ge 1 w.heap.size with h0 | h0
  · exact h0
  · have := h 0 (by decide)
    simp [World.cell?, Array.getElem?_eq_none h0] at this
theorem Tab.below {w w' : World} (h : Tab w) (hb : Below w.heap.size w w') : Tab w' := fun i hi => (hb.cell (p := ⟨1, i, none⟩) h.lt).trans (h i hi)
theorem tab_lt (i : Nat) : tab4 i < 4294967296 := (gn 4 (BitVec.ofNat 32 i)).isLt
/-- Four bits, as the program has them. -/
theorem nib (a : BitVec 32) : bits .xor .u32 ((a.toNat : Int) / 16) (tab4 (a.toNat % 16) : Int) = ((gn 4 a).toNat : Int) := by
  have e : ((a.toNat : Int) / 16) = ((a.toNat / 16 : Nat) : Int) := by omega
  have := a.isLt
  rw [e, u32_xor_nat _ _ (by omega) (tab_lt _), gn4_nat]
set_option maxRecDepth 100000 in
set_option maxHeartbeats 1000000 in
theorem turned_any (s : BitVec 32) (g : Nat) (v : Value) (l : List UInt8) (w : World) (hv : RG w g v l) (hT : Tab w) (hl : l.length ≤ 140737488355328) :
    Calls Tryd.prog 28 #[.int .u32 (s.toNat : Int), v] w fun e w' => e = .returned (.int .u32 ((crc s l).toNat : Int)) ∧ w' = w := by
  obtain ⟨a, cap, rfl, hcap, hr⟩ := hv
  have HT := hide hT
  clear hT
  go_enter Tryd.func28, Tryd.ntmps28
  go_wp2_with fail
  go_loop [0, 9] (fun x i => ∃ k : Nat, k ≤ l.length ∧ i = .int .i64 k ∧ x = .int .u32 ((crc s (l.take k)).toNat : Int)) (fun _ i => l.length - (intOf i).toNat)
  case atStart => exact ⟨0, Nat.zero_le _, rfl, rfl⟩
  case round =>
    obtain ⟨k, hk, rfl, rfl⟩ := hrel
    by_cases hlt : k < l.length
    · obtain ⟨c, hc⟩ := some_at hlt
      rcases hr with h0 | ⟨off, rfl, hlg, hcell⟩
      · rw [h0] at hlt; simp at hlt
      have hx1 := hcell k c hc
      have HS : Hid (crc s (l.take (k + 1)) = stepB (crc s (l.take k)) c) := hide (by rw [List.take_add_one, hc]; exact crc_snoc _ _ _)
      clear hcell hc
      generalize crc s (l.take k) = q at HS ⊢
      have h1 := xor_bv q (w8 c)
      rw [w8_nat] at h1
      have h2 := nib (q ^^^ w8 c)
      have h3 := nib (gn 4 (q ^^^ w8 c))
      have t1 := HT.out ((q ^^^ w8 c).toNat % 16) (Nat.mod_lt _ (by decide))
      have t2 := HT.out ((gn 4 (q ^^^ w8 c)).toNat % 16) (Nat.mod_lt _ (by decide))
      have h4 : ((gn 4 (gn 4 (q ^^^ w8 c))).toNat : Int) = ((stepB q c).toNat : Int) := by unfold stepB; rw [← gn_add 4 4]
      have l1 := bv_lt (q ^^^ w8 c)
      have l2 := bv_lt (gn 4 (q ^^^ w8 c))
      have e1 : (q ^^^ w8 c).toNat % 16 = (((q ^^^ w8 c).toNat : Int) % 16).toNat := by omega
      have e2 : (gn 4 (q ^^^ w8 c)).toNat % 16 = (((gn 4 (q ^^^ w8 c)).toNat : Int) % 16).toNat := by omega
      have HST : Hid (stepB q c = crc s (l.take (k + 1))) := hide HS.out.symm
      rw [h4] at h3
      rw [HST.out] at h3
      rw [e1] at t1 h2
      rw [e2] at t2 h3
      clear e1 e2 h4 HS HST
      obtain ⟨y, hy⟩ : ∃ y : Int, Hid (((q ^^^ w8 c).toNat : Int) = y) := ⟨_, hide rfl⟩
      obtain ⟨z, hz⟩ : ∃ z : Int, Hid (((gn 4 (q ^^^ w8 c)).toNat : Int) = z) := ⟨_, hide rfl⟩
      have y0 : 0 ≤ y := by have := hy.out; omega
      have z0 : 0 ≤ z := by have := hz.out; omega
      rw [hy.out] at h1 h2 t1 l1
      rw [hz.out] at h2 h3 t2 l2
      obtain ⟨a1, ha1⟩ : ∃ a1 : Int, Hid ((tab4 (y % 16).toNat : Int) = a1) := ⟨_, hide rfl⟩
      obtain ⟨a2, ha2⟩ : ∃ a2 : Int, Hid ((tab4 (z % 16).toNat : Int) = a2) := ⟨_, hide rfl⟩
      rw [ha1.out] at t1 h2
      rw [ha2.out] at t2 h3
      have hw8 : IntKind.u32.wrap (c.toNat : Int) = (c.toNat : Int) := by have := c.toNat_lt; rw [IntKind.wrap_u32]; omega
      go_wp2_with fail
      go_round
      case rel => exact ⟨k + 1, by omega, by go_num, rfl⟩
      case measure => simp [intOf]; omega
    · have hk' : k = l.length := by omega
      subst hk'
      rw [List.take_length]
      go_wp2_with fail
      go_ret
      exact ⟨rfl, rfl⟩
theorem ones_nat : ((ones.toNat : Nat) : Int) = 4294967295 := by decide
theorem not_bv (a : BitVec 32) : bits .xor .u32 4294967295 (a.toNat : Int) = ((a ^^^ ones).toNat : Int) := by
  rw [BitVec.xor_comm, ← xor_bv ones a, ones_nat]

end Go.Proofs.YtbkgegiglegnjabDoor
