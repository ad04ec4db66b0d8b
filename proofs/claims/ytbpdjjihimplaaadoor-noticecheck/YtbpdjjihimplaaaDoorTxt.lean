/-
  My own text: identifiers as texts.
-/
import Derived.Test.YtbpdjjihimplaaaDoorPad
namespace Go.Proofs.YtbpdjjihimplaaaDoor.LC
open Go.RowKit

theorem Tryd.infoByte : (Tryd.prog.info? 5).map (fun i => (i.zero, i.size, i.bytes)) = some (some (.int .u8 0), 1, 1) := by kernel_rfl
set_option maxRecDepth 100000 in
set_option maxHeartbeats 1000000 in
theorem textIsin_any (l : List UInt8) (w : World) (hl : l.length = 12) :
    Calls Tryd.prog 44 #[.agg (cel l)] w fun e w' => e = .returned (.string ⟨l.toArray⟩) ∧ Below w.heap.size w w' := by
  have HLEN := hide hl
  have hsi : (Tryd.prog.info? 23).map (·.size) = some (cel l).size := by rw [cel_size, hl]; kernel_rfl
  clear hl
  have HSI := hide hsi
  clear hsi
  have hmk : ∀ W : World, (Instr.makeSlice 98 (.int .i64 12) (.int .i64 12)).run Tryd.prog W = .ok (.slice (some ⟨W.heap.size, 0, none⟩) 12 12) (W.alloc (.cells (madeCells #[.int .u8 0] 12) 5)) := fun W => run_make_row' (P := Tryd.prog) 98 5 (.int .u8 0) 1 Tryd.underlying98 Tryd.infoByte rfl .i64 .i64 12 (by decide) (by decide) W
  have hb0 : Below w.heap.size w ((w.alloc (.cells (cel l) 23)).alloc (.cells (madeCells #[.int .u8 0] 12) 5)) := ((Below.refl _ _).alloc (Nat.le_refl _) _).alloc (by simp) _
  have hr0 : ((w.alloc (.cells (cel l) 23)).alloc (.cells (madeCells #[.int .u8 0] 12) 5)).rowIs (w.heap.size + 1) 5 12 (padC l 0) := by
    have h := World.rowIs_made (w.alloc (.cells (cel l) 23)) (.int .u8 0) 12 5
    rw [show (w.alloc (.cells (cel l) 23)).heap.size = w.heap.size + 1 by simp] at h
    exact h.congr fun j _ => by unfold padC; rw [if_neg (by omega)]
  have hg0 := alloc_block (o := .cells (madeCells #[.int .u8 0] 12) 5) (alloc_new w (.cells (cel l) 23))
  go_enter Tryd.func44, Tryd.ntmps44
  go_wp2_with (refine wpList_load_row rfl 23 (.tmp 1) rfl w.heap.size rfl _ (cel l) _ _ (alloc_new w _) Tryd.underlying23 rfl HSI.out ?_)
  go_loopw [10] (fun i wr => ∃ k : Nat, k ≤ 12 ∧ i = .int .i64 k ∧ wr.rowIs (w.heap.size + 1) 5 12 (padC l k) ∧ Hid (wr.heap[w.heap.size]? = some (.cells (cel l) 23 (0, 0))) ∧ Below w.heap.size w wr) (fun i _ => 12 - (intOf i).toNat)
  case atStart => exact ⟨0, by omega, rfl, hr0, hide hg0, hb0⟩
  case round =>
    clear hr0 hg0 hb0 hmk
    obtain ⟨k, hk, rfl, hr, HG, hB⟩ := hrel
    by_cases hlt : k < 12
    · obtain ⟨c, Hc⟩ : ∃ c, Hid (l.getD k 0 = c) := ⟨_, hide rfl⟩
      have cL : wr.cell? ⟨w.heap.size, k, none⟩ = some (.int .u8 (c.toNat : Int)) := by
        rw [cell_of_row _ _ k _ _ _ HG.out, cel_at (by rw [HLEN.out]; exact hlt), Hc.out]
      have cR := hr.cell hlt
      have fR := hr.frozen k
      have HR := hide hr
      clear hr
      go_wp2_with fail
      go_roundw
      case rel =>
        refine ⟨k + 1, by omega, by go_num, (HR.out.set k (.int .u8 (c.toNat : Int))).congr fun j _ => padC_step (by rw [Hc.out]), hide ?_, hB.setCell (p := ⟨w.heap.size + 1, k, none⟩) (by simp) _⟩
        exact (((Below.refl (w.heap.size + 1) wr).setCell (p := ⟨w.heap.size + 1, k, none⟩) (by simp) _).block _ (by omega)).trans HG.out
      case measure => simp [intOf]; omega
    · have hk' : k = 12 := by omega
      subst hk'
      have hcv : (convert 98 9 (.slice (some ⟨w.heap.size + 1, 0, none⟩) 12 12)).run Tryd.prog wr = .ok (.string ⟨l.toArray⟩) wr := by
        have h := run_convert_bytes_back (P := Tryd.prog) wr 98 9 5 ⟨w.heap.size + 1, 0, none⟩ 12 l Tryd.underlying98 Tryd.underlying5 Tryd.underlying9 (fun j hj => by
          rw [Addr.add_mid, Nat.zero_add, hr.cell (by rw [← HLEN.out]; exact hj)]
          unfold padC; rw [if_pos (by rw [← HLEN.out]; exact hj), getD_at hj])
        rw [HLEN.out] at h; exact h
      have HB := hide hB
      clear hr hB
      go_wp2_with fail
      go_ret
      exact ⟨rfl, HB.out⟩
end Go.Proofs.YtbpdjjihimplaaaDoor.LC
