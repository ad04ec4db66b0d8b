/-
  My own text: the closed law on tags: rows of lines.
-/
import Derived.Test.YtpkgaidnpooahaaGreatDoorTKB
namespace Go.Proofs.YtpkgaidnpooahaaGreatDoor
open Go.RowKit

def lnL : List (List UInt8) := [[], [58, 50, 48, 67, 58, 58, 83, 69, 77, 69, 47, 47, 65, 10], [58, 50, 48, 67, 58, 10], [58, 50, 48, 67, 58, 58, 83, 69, 77, 69, 47, 47, 10], [58, 50, 48, 67, 58, 45, 10], [109, 111, 114, 101, 10], [45, 10], [10], [58, 10], [58, 58, 10], [58, 58, 58, 10], [58, 50, 48, 67, 10], [58, 50, 48, 67, 58, 58, 10], [58, 50, 48, 67, 58, 58, 83, 69, 77, 69, 10], [58, 50, 48, 67, 58, 58, 83, 69, 77, 69, 47, 10], [58, 50, 48, 67, 58, 58, 83, 69, 77, 47, 47, 65, 10], [58, 50, 48, 67, 58, 58, 83, 69, 77, 69, 83, 47, 47, 65, 10], [58, 50, 48, 67, 58, 58, 58, 10], [58, 50, 48, 48, 58, 65, 10], [58, 50, 48, 67, 67, 58, 65, 10], [58, 50, 58, 65, 10], [58, 49, 54, 82, 58, 65, 10], [58, 49, 54, 83, 58, 65, 10], [58, 49, 54, 83, 58, 97, 10], [58, 49, 54, 82, 58, 97, 10], [58, 49, 54, 83, 58, 65, 66, 10], [58, 49, 54, 83, 58, 32, 65, 10], [58, 49, 54, 82, 58, 66, 10], [58, 49, 54, 83, 58, 66, 10], [58, 49, 54, 82, 58, 10], [58, 49, 54, 83, 58, 10], [58, 49, 54, 82, 58, 58, 65, 10], [58, 49, 54, 84, 58, 65, 10], [58, 49, 54, 82, 58, 65, 66, 67, 68, 69, 70, 71, 72, 73, 74, 75, 76, 77, 78, 79, 80, 10], [58, 49, 54, 82, 58, 65, 66, 67, 68, 69, 70, 71, 72, 73, 74, 75, 76, 77, 78, 79, 80, 81, 10], [58, 50, 48, 67, 58, 65], [120], [58, 49, 54, 82, 58, 65], [128, 10], [58, 50, 48, 67, 58, 128, 10], [128]]
set_option maxRecDepth 100000 in
set_option maxHeartbeats 8000000 in
theorem linesK_any (w : World) (hL : KL w) :
    Calls Tryz.prog 6 #[] w fun e w' => e = .returned (.bool true) ∧ Below w.heap.size w w' := by
  have HL := hide hL
  have HB0 : Hid (Below w.heap.size w (w.alloc (.cells (lnL.map fun x => Value.string ⟨x.toArray⟩).toArray 9))) := hide ((Below.refl _ _).alloc (Nat.le_refl _) _)
  have HS0 : Hid (ST (w.alloc (.cells (lnL.map fun x => Value.string ⟨x.toArray⟩).toArray 9)) w.heap.size lnL) := hide (ST.new w lnL 9)
  have HLN : Hid (∀ k : Nat, k < 41 → ∃ l : List UInt8, lnL[k]? = some l ∧ l.length ≤ 1000) := hide (by decide)
  clear hL
  go_enter Tryz.func6, Tryz.ntmps6
  go_wp2_with fail
  go_loopw [2] (fun i wr => ∃ k : Nat, k ≤ 41 ∧ i = .int .i64 k ∧ Hid (Below w.heap.size w wr) ∧ Hid (ST wr w.heap.size lnL)) (fun i _ => 41 - (intOf i).toNat)
  case atStart => exact ⟨0, Nat.zero_le _, rfl, HB0, HS0⟩
  case round =>
    clear HB0 HS0
    obtain ⟨k, hk, rfl, HB, HS⟩ := hrel
    by_cases hkl : k < 41
    · have hd1 : decide ((k : Int) < 41) = true := by rw [decide_eq_true_eq]; omega
      go_wp2_with fail
      go_loopw [3] (fun i wr => ∃ k : Nat, k ≤ 41 ∧ i = .int .i64 k ∧ Hid (Below w.heap.size w wr) ∧ Hid (ST wr w.heap.size lnL)) (fun i _ => 41 - (intOf i).toNat)
      case atStart => exact ⟨0, Nat.zero_le _, rfl, HB, HS⟩
      case round =>
        clear HB HS
        obtain ⟨j, hj, rfl, HB, HS⟩ := hrel
        by_cases hjl : j < 41
        · have hd2 : decide ((j : Int) < 41) = true := by rw [decide_eq_true_eq]; omega
          obtain ⟨x, hx, x1⟩ := HLN.out k hkl
          obtain ⟨y, hy, y1⟩ := HLN.out j hjl
          have hxc := HS.out.2 k x hx
          have hyc := HS.out.2 j y hy
          have hly := HS.out.1
          have HX0 : Hid (Below wr.heap.size wr wr.drew) := hide (Below.refl _ _).drew
          have HCX : Hid (∀ W, Below wr.heap.size wr W → W.cell? ⟨w.heap.size, k, none⟩ = some (.string ⟨x.toArray⟩)) := hide (fun W hW => (hW.cell (p := ⟨w.heap.size, k, none⟩) hly).trans hxc)
          have HCY : Hid (∀ W, Below wr.heap.size wr W → W.cell? ⟨w.heap.size, j, none⟩ = some (.string ⟨y.toArray⟩)) := hide (fun W hW => (hW.cell (p := ⟨w.heap.size, j, none⟩) hly).trans hyc)
          have HBx : Hid (∀ q : Gr wr, Below w.heap.size w q.1) := hide (fun q => HB.out.trans (q.2.mono HB.out.size))
          have k0 : (0 : Int) ≤ (k : Int) := by omega
          have k1 : (k : Int) < 41 := by omega
          have j0 : (0 : Int) ≤ (j : Int) := by omega
          have j1 : (j : Int) < 41 := by omega
          clear hxc hyc hly hx hy
          go_wp2_with fail
          haveI : Nonempty (Gr wr) := ⟨⟨_, HX0.out⟩⟩
          refine region_class (C := fun W => ∃ z : Gr wr, W = z.1) (by kernel_rfl) (by kernel_rfl) ⟨⟨_, HX0.out⟩, rfl⟩ ?_
          repeat (first
            | go_big_quiet_skip
            | (go_big_quiet_want; first
                | (refine quiet_cellV 9 _ rfl w.heap.size k rfl (.string ⟨x.toArray⟩) (fun W ⟨z, hz⟩ => by subst hz; exact HCX.out _ z.2) Tryz.aggStr ?_; simp only [Act.put, List.setIfInBounds_toArray, List.set_cons_zero, List.set_cons_succ]; go_big_quiet_on)
                | (refine quiet_cellV 9 _ rfl w.heap.size j rfl (.string ⟨y.toArray⟩) (fun W ⟨z, hz⟩ => by subst hz; exact HCY.out _ z.2) Tryz.aggStr ?_; simp only [Act.put, List.setIfInBounds_toArray, List.set_cons_zero, List.set_cons_succ]; go_big_quiet_on)
                | (go_big_quiet_op; first
                    | go_big_quiet_on
                    | (apply Exists.intro; refine ⟨fun q => ?_, ?_⟩; (first
                        | (go_at_call 14; exact q.call (HL.out.par q.1 _ (HBx.out q) (by simp [ByteArray.size] <;> omega)))
                        | (go_at_call 16; exact q.call (HL.out.plc q.1 _ (HBx.out q) (by simp [ByteArray.size] <;> omega)))); go_big_quiet_on))))
          refine wpQuiet_nil ?_
          rintro w3 ⟨q3, rfl⟩
          obtain ⟨w3, hw3⟩ := q3
          dsimp only
          have HB3 := hide (HB.out.trans (hw3.mono HB.out.size))
          have HS3 := hide (HS.out.low hw3)
          clear HX0 this hw3 HB HS HCX HCY HBx
          go_wp2_with fail
          go_roundw
          case rel => exact ⟨j + 1, by omega, by go_num, HB3, HS3⟩
          case measure => simp [intOf]; omega
        · have h' : j = 41 := by omega
          subst h'
          rw [show ((41 : Nat) : Int) = 41 from rfl]
          go_wp2_with fail
          go_roundw
          case rel => exact ⟨k + 1, by omega, by go_num, HB, HS⟩
          case measure => simp [intOf]; omega
    · have h' : k = 41 := by omega
      subst h'
      rw [show ((41 : Nat) : Int) = 41 from rfl]
      go_wp2_with fail
      go_ret
      exact ⟨rfl, HB.out⟩
end Go.Proofs.YtpkgaidnpooahaaGreatDoor
