/-
  My own text: C5, Pad, Txt in one.
-/
import Derived.Test.YtbaideeiljeamaaGreatDoorArrs
import Derived.Deep.OwnRows
import Derived.Test.YtbaideeiljeamaaGreatDoorGr0
import Derived.Deep.WholeRow
namespace Go.Proofs.YtbaideeiljeamaaGreatDoor.LC
open Go.RowKit

/-- The first n bytes, zeros behind. -/
def pad (n : Nat) (l : List UInt8) : List UInt8 := (l ++ zer n).take n
theorem pad_len (n : Nat) (l : List UInt8) : (pad n l).length = n := by simp [pad, zer]
theorem pad_self {n : Nat} {l : List UInt8} (h : l.length = n) : pad n l = l := by
  unfold pad; rw [← h, List.take_left]
theorem pad_at {n : Nat} {l : List UInt8} {j : Nat} (h : j < n) : (pad n l).getD j 0 = l.getD j 0 := by
  unfold pad
  rw [List.getD_eq_getElem?_getD, List.getElem?_take, if_pos h, List.getD_eq_getElem?_getD]
  by_cases hj : j < l.length
  · rw [List.getElem?_append_left hj]
  · rw [List.getElem?_append_right (by omega), List.getElem?_eq_none (by omega : l.length ≤ j)]
    unfold zer
    rw [List.getElem?_replicate]; split <;> rfl
/-- The cells of a padded text, k of them written. -/
def padC (l : List UInt8) (k j : Nat) : Value := if j < k then .int .u8 ((l.getD j 0).toNat : Int) else .int .u8 0
theorem pad_cells {n : Nat} {l : List UInt8} {k : Nat} (hk : min n l.length ≤ k) {w : World} {b : Nat} {t : TypeId} (h : w.rowIs b t n (padC l k)) : w.heap[b]? = some (.cells (cel (pad n l)) t (0, 0)) := by
  obtain ⟨c, hb, hs, hc⟩ := h
  rw [hb]
  congr 2
  apply Array.ext_getElem?
  intro i
  by_cases hi : i < n
  · rw [hc i hi, cel_at (by rw [pad_len]; exact hi), pad_at hi]
    unfold padC
    by_cases hik : i < k
    · rw [if_pos hik]
    · rw [if_neg hik, List.getD_eq_getElem?_getD, List.getElem?_eq_none (by omega)]; rfl
  · rw [Array.getElem?_eq_none (by omega), Array.getElem?_eq_none (by rw [cel_size, pad_len]; omega)]
theorem padC_step {l : List UInt8} {k j : Nat} {v : Value} (hv : v = .int .u8 ((l.getD k 0).toNat : Int)) : (if j = k then v else padC l k j) = padC l (k + 1) j := by
  unfold padC
  by_cases e : j = k
  · subst e; rw [if_pos rfl, if_pos (by omega)]; exact hv
  · rw [if_neg e]
    by_cases h : j < k
    · rw [if_pos h, if_pos (by omega)]
    · rw [if_neg h, if_neg (by omega)]
theorem row_zero (w : World) (n : Nat) (t : TypeId) (l : List UInt8) : (w.alloc (.cells (cel (zer n)) t)).rowIs w.heap.size t n (padC l 0) := by
  refine ⟨cel (zer n), alloc_new w _, by rw [cel_size]; simp [zer], fun i hi => ?_⟩
  rw [cel_at (by simpa [zer] using hi)]
  unfold padC
  rw [if_neg (by omega)]
  have : (zer n).getD i 0 = 0 := by unfold zer; rw [List.getD_eq_getElem?_getD, List.getElem?_replicate]; split <;> rfl
  rw [this]; rfl

theorem err6_isin (l : List UInt8) : Err6 (isinR l) := by
  by_cases h : Form l isinF
  · by_cases hs : lsum (spr l) % 10 = 0
    · rw [isinR_ok h hs]; exact .inr (by decide)
    · rw [isinR_sum h hs]; exact .inr (by decide)
  · rw [isinR_bad h]; exact err6_form l isinF
theorem isinR_len {l : List UInt8} (h : (isinR l).1 = 0) : l.length = 12 := by
  by_cases hf : Form l isinF
  · exact hf.1
  · rw [isinR_bad hf] at h; exact absurd h (form_ne hf)
theorem rng_new (w : World) (l : List UInt8) (t : TypeId) : (w.alloc (.cells (cel l) t)).rangeAt w.heap.size 0 (cel l).toList := fun j v hv => by
  rw [Nat.zero_add, cell_of_row _ _ j _ _ _ (alloc_new w _)]
  simpa using hv
theorem below_step {B : Nat} {w W w' : World} (hb : Below W.heap.size W w') (h : Below B w W) (hB : B ≤ w.heap.size) : Below B w w' := h.trans (hb.mono (Nat.le_trans hB h.size))
theorem errT_later {W w' : World} (hb : Below W.heap.size W w') (h : ErrType W) : ErrType w' := h.below hb
theorem cel_list_one (l : List UInt8) : ∀ v ∈ (cel l).toList, v.oneCell' = true := by
  intro v hv
  simp [cel] at hv
  obtain ⟨c, _, rfl⟩ := hv; rfl
theorem len12 {l : List UInt8} (h : l.length = 12) : ∃ c0 c1 c2 c3 c4 c5 c6 c7 c8 c9 c10 c11, l = [c0, c1, c2, c3, c4, c5, c6, c7, c8, c9, c10, c11] :=
  ⟨l.getD 0 0, l.getD 1 0, l.getD 2 0, l.getD 3 0, l.getD 4 0, l.getD 5 0, l.getD 6 0, l.getD 7 0, l.getD 8 0, l.getD 9 0, l.getD 10 0, l.getD 11 0, by
    apply List.ext_getElem (by rw [h]; rfl)
    intro i h1 h2
    rw [← getD_at h1]
    rw [h] at h1
    match i, h1 with
    | 0, _ => rfl
    | 1, _ => rfl
    | 2, _ => rfl
    | 3, _ => rfl
    | 4, _ => rfl
    | 5, _ => rfl
    | 6, _ => rfl
    | 7, _ => rfl
    | 8, _ => rfl
    | 9, _ => rfl
    | 10, _ => rfl
    | 11, _ => rfl⟩
end Go.Proofs.YtbaideeiljeamaaGreatDoor.LC

namespace Go.Proofs.YtbaideeiljeamaaGreatDoor.LC
open Go.RowKit

theorem Tryz.infoByte : (Tryz.prog.info? 5).map (fun i => (i.zero, i.size, i.bytes)) = some (some (.int .u8 0), 1, 1) := by kernel_rfl
set_option maxRecDepth 100000 in
set_option maxHeartbeats 1000000 in
theorem textIsin_any (l : List UInt8) (w : World) (hl : l.length = 12) :
    Calls Tryz.prog 95 #[.agg (cel l)] w fun e w' => e = .returned (.string ⟨l.toArray⟩) ∧ Below w.heap.size w w' := by
  have HLEN := hide hl
  have hsi : (Tryz.prog.info? 23).map (·.size) = some (cel l).size := by rw [cel_size, hl]; kernel_rfl
  clear hl
  have HSI := hide hsi
  clear hsi
  have hmk : ∀ W : World, (Instr.makeSlice 99 (.int .i64 12) (.int .i64 12)).run Tryz.prog W = .ok (.slice (some ⟨W.heap.size, 0, none⟩) 12 12) (W.alloc (.cells (madeCells #[.int .u8 0] 12) 5)) := fun W => run_make_row' (P := Tryz.prog) 99 5 (.int .u8 0) 1 Tryz.underlying99 Tryz.infoByte rfl .i64 .i64 12 (by decide) (by decide) W
  have hb0 : Below w.heap.size w ((w.alloc (.cells (cel l) 23)).alloc (.cells (madeCells #[.int .u8 0] 12) 5)) := ((Below.refl _ _).alloc (Nat.le_refl _) _).alloc (by simp) _
  have hr0 : ((w.alloc (.cells (cel l) 23)).alloc (.cells (madeCells #[.int .u8 0] 12) 5)).rowIs (w.heap.size + 1) 5 12 (padC l 0) := by
    have h := World.rowIs_made (w.alloc (.cells (cel l) 23)) (.int .u8 0) 12 5
    rw [show (w.alloc (.cells (cel l) 23)).heap.size = w.heap.size + 1 by simp] at h
    exact h.congr fun j _ => by unfold padC; rw [if_neg (by omega)]
  have hg0 := alloc_block (o := .cells (madeCells #[.int .u8 0] 12) 5) (alloc_new w (.cells (cel l) 23))
  go_enter Tryz.func95, Tryz.ntmps95
  go_wp2_with (refine wpList_load_row rfl 23 (.tmp 1) rfl w.heap.size rfl _ (cel l) _ _ (alloc_new w _) Tryz.underlying23 rfl HSI.out ?_)
  go_loopw [10] (fun i wr => ∃ k : Nat, k ≤ 12 ∧ i = .int .i64 k ∧ wr.rowIs (w.heap.size + 1) 5 12 (padC l k) ∧ Hid (wr.heap[w.heap.size]? = some (.cells (cel l) 23 (0, 0))) ∧ Below w.heap.size w wr) (fun i _ => 12 - (intOf i).toNat)
  case atStart => exact ⟨0, by omega, rfl, hr0, hide hg0, hb0⟩
  case round =>
    clear hr0 hg0 hb0 hmk
    obtain ⟨k, hk, rfl, hr, HG, hB⟩ := hrel
    by_cases hlt : k < 12
    · obtain ⟨c, Hc⟩ : ∃ c, Hid (l.getD k 0 = c) := ⟨_, hide rfl⟩
      have cL : wr.cell? ⟨w.heap.size, k, none⟩ = some (.int .u8 (c.toNat : Int)) := by
        rw [cell_of_row _ _ k _ _ _ HG.out, cel_at (by rw [HLEN.out]; exact hlt), Hc.out]
      have cR := hr.cell hlt
      have fR := hr.frozen k
      have HR := hide hr
      clear hr
      go_wp2_with fail
      go_roundw
      case rel =>
        refine ⟨k + 1, by omega, by go_num, (HR.out.set k (.int .u8 (c.toNat : Int))).congr fun j _ => padC_step (by rw [Hc.out]), hide ?_, hB.setCell (p := ⟨w.heap.size + 1, k, none⟩) (by simp) _⟩
        exact (((Below.refl (w.heap.size + 1) wr).setCell (p := ⟨w.heap.size + 1, k, none⟩) (by simp) _).block _ (by omega)).trans HG.out
      case measure => simp [intOf]; omega
    · have hk' : k = 12 := by omega
      subst hk'
      have hcv : (convert 99 9 (.slice (some ⟨w.heap.size + 1, 0, none⟩) 12 12)).run Tryz.prog wr = .ok (.string ⟨l.toArray⟩) wr := by
        have h := run_convert_bytes_back (P := Tryz.prog) wr 99 9 5 ⟨w.heap.size + 1, 0, none⟩ 12 l Tryz.underlying99 Tryz.underlying5 Tryz.underlying9 (fun j hj => by
          rw [Addr.add_mid, Nat.zero_add, hr.cell (by rw [← HLEN.out]; exact hj)]
          unfold padC; rw [if_pos (by rw [← HLEN.out]; exact hj), getD_at hj])
        rw [HLEN.out] at h; exact h
      have HB := hide hB
      clear hr hB
      go_wp2_with fail
      go_ret
      exact ⟨rfl, HB.out⟩
end Go.Proofs.YtbaideeiljeamaaGreatDoor.LC
