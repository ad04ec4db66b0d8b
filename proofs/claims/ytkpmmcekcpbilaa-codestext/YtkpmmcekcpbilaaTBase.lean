/-
  My own text: identifiers as texts, over a seat of their own.
-/
import Derived.Test.YtkpmmcekcpbilaaProg
import Derived.WalkKit
import Derived.WalkLawsBesides
import Derived.WalkSpells
import Derived.RowKit
import Derived.WalkSmall
import Derived.RegionTactic
import Derived.Laws.IdiomStrings
import Derived.Laws.Rows
import Derived.Laws.Tables
import Derived.Laws.ResultCell
import Derived.Laws.CopyOwn
import Derived.Deep.MidRow
import Derived.Deep.OwnRows
import Derived.Deep.WholeRow
import Derived.MapKept
namespace Go.Proofs.Ytkpmmcekcpbilaa
open Go.RowKit

theorem hide {p : Prop} (h : p) : Hid p := h
theorem unhide {p : Prop} (h : Hid p) : p := h
theorem bytes_size (l : List UInt8) : (⟨l.toArray⟩ : ByteArray).size = l.length := by simp [ByteArray.size]
theorem bytes_app (a b : List UInt8) : (⟨a.toArray⟩ : ByteArray) ++ ⟨b.toArray⟩ = ⟨(a ++ b).toArray⟩ := by
  apply ByteArray.ext; simp
theorem getD_at {l : List UInt8} {k : Nat} (h : k < l.length) : l.getD k 0 = l[k] := by rw [List.getD_eq_getElem?_getD, List.getElem?_eq_getElem h]; rfl
theorem alloc_block {w : World} {b : Nat} {o x : Obj} (hh : w.heap[b]? = some x) : (w.alloc o).heap[b]? = some x := by
  have hlt : b < w.heap.size := by
    by_cases hc : b < w.heap.size
    · exact hc
    · rw [Array.getElem?_eq_none (by omega)] at hh; cases hh
  rw [Below.heap_alloc _ _ _ hlt]; exact hh
theorem alloc_new (w : World) (o : Obj) : (w.alloc o).heap[w.heap.size]? = some o := (MapKept.heap_alloc w o).1

/-- The bytes of a text as cells, as an array's value. -/
def cel (l : List UInt8) : Array Value := (l.map (fun b => Value.int .u8 (b.toNat : Int))).toArray
def arr (l : List UInt8) : Value := .agg (cel l)
def zer (n : Nat) : List UInt8 := List.replicate n 0
theorem cel_size (l : List UInt8) : (cel l).size = l.length := by simp [cel]
theorem cel_one (l : List UInt8) : (cel l).all (·.oneCell') = true := by simp [cel, Value.oneCell']
theorem cel_at {a : List UInt8} {i : Nat} (h : i < a.length) : (cel a)[i]? = some (.int .u8 ((a.getD i 0).toNat : Int)) := by
  rw [getD_at h]; simp [cel, List.getElem?_eq_getElem h]
theorem bytes_take (l : List UInt8) (n : Nat) : (⟨l.toArray⟩ : ByteArray).extract 0 n = ⟨(l.take n).toArray⟩ := by
  apply ByteArray.ext; simp
/-- The first n bytes, zeros behind. -/
def pad (n : Nat) (l : List UInt8) : List UInt8 := (l ++ zer n).take n
theorem pad_len (n : Nat) (l : List UInt8) : (pad n l).length = n := by simp [pad, zer]
theorem pad_self {n : Nat} {l : List UInt8} (h : l.length = n) : pad n l = l := by
  unfold pad; rw [← h, List.take_left]
theorem pad_at {n : Nat} {l : List UInt8} {j : Nat} (h : j < n) : (pad n l).getD j 0 = l.getD j 0 := by
  unfold pad
  rw [List.getD_eq_getElem?_getD, List.getElem?_take, if_pos h, List.getD_eq_getElem?_getD]
  by_cases hj : j < l.length
  · rw [List.getElem?_append_left hj]
  · rw [List.getElem?_append_right (by omega), List.getElem?_eq_none (by omega : l.length ≤ j)]
    unfold zer
    rw [List.getElem?_replicate]; split <;> rfl
/-- The cells of a padded text, k of them written. -/
def padC (l : List UInt8) (k j : Nat) : Value := if j < k then .int .u8 ((l.getD j 0).toNat : Int) else .int .u8 0
theorem pad_cells {n : Nat} {l : List UInt8} {k : Nat} (hk : min n l.length ≤ k) {w : World} {b : Nat} {t : TypeId} (h : w.rowIs b t n (padC l k)) : w.heap[b]? = some (.cells (cel (pad n l)) t (0, 0)) := by
  obtain ⟨c, hb, hs, hc⟩ := h
  rw [hb]
  congr 2
  apply Array.ext_getElem?
  intro i
  by_cases hi : i < n
  · rw [hc i hi, cel_at (by rw [pad_len]; exact hi), pad_at hi]
    unfold padC
    by_cases hik : i < k
    · rw [if_pos hik]
    · rw [if_neg hik, List.getD_eq_getElem?_getD, List.getElem?_eq_none (by omega)]; rfl
  · rw [Array.getElem?_eq_none (by omega), Array.getElem?_eq_none (by rw [cel_size, pad_len]; omega)]
theorem padC_step {l : List UInt8} {k j : Nat} {v : Value} (hv : v = .int .u8 ((l.getD k 0).toNat : Int)) : (if j = k then v else padC l k j) = padC l (k + 1) j := by
  unfold padC
  by_cases e : j = k
  · subst e; rw [if_pos rfl, if_pos (by omega)]; exact hv
  · rw [if_neg e]
    by_cases h : j < k
    · rw [if_pos h, if_pos (by omega)]
    · rw [if_neg h, if_neg (by omega)]
theorem row_zero (w : World) (n : Nat) (t : TypeId) (l : List UInt8) : (w.alloc (.cells (cel (zer n)) t)).rowIs w.heap.size t n (padC l 0) := by
  refine ⟨cel (zer n), alloc_new w _, by rw [cel_size]; simp [zer], fun i hi => ?_⟩
  rw [cel_at (by simpa [zer] using hi)]
  unfold padC
  rw [if_neg (by omega)]
  have : (zer n).getD i 0 = 0 := by unfold zer; rw [List.getD_eq_getElem?_getD, List.getElem?_replicate]; split <;> rfl
  rw [this]; rfl

theorem Try.sizeIsin : (Try.prog.info? 25).map (·.size) = some 12 := by kernel_rfl
theorem Try.sizeLei : (Try.prog.info? 29).map (·.size) = some 20 := by kernel_rfl
theorem Try.infoByte : (Try.prog.info? 5).map (fun i => (i.zero, i.size, i.bytes)) = some (some (.int .u8 0), 1, 1) := by kernel_rfl
set_option maxRecDepth 100000 in
set_option maxHeartbeats 1000000 in
theorem lawIsin_any (l : List UInt8) (w : World) (hl : l.length ≤ 140737488355328) :
    Calls Try.prog 6 #[.string ⟨l.toArray⟩] w fun e w' => e = .returned (arr (pad 12 l)) ∧ Below w.heap.size w w' := by
  have hb0 : Below w.heap.size w ((w.alloc (.cells (cel (zer 12)) 25)).alloc (.cells (cel (zer 12)) 25)) := ((Below.refl _ _).alloc (Nat.le_refl _) _).alloc (by simp) _
  have hr0 := row_zero (w.alloc (.cells (cel (zer 12)) 25)) 12 25 l
  rw [show (w.alloc (.cells (cel (zer 12)) 25)).heap.size = w.heap.size + 1 by simp] at hr0
  have hg0 := alloc_block (o := .cells (cel (zer 12)) 25) (alloc_new w (.cells (cel (zer 12)) 25))
  go_enter Try.func6, Try.ntmps6
  go_wp2_with fail
  go_loopw [4] (fun i wr => ∃ k : Nat, k ≤ 12 ∧ k ≤ l.length ∧ i = .int .i64 k ∧ wr.rowIs (w.heap.size + 1) 25 12 (padC l k) ∧ Hid (wr.heap[w.heap.size]? = some (.cells (cel (zer 12)) 25 (0, 0))) ∧ Below w.heap.size w wr) (fun i _ => 12 - (intOf i).toNat)
  case atStart => exact ⟨0, by omega, by omega, rfl, hr0, hide hg0, hb0⟩
  case round =>
    clear hr0 hg0 hb0
    obtain ⟨k, hk, hk2, rfl, hr, HG, hB⟩ := hrel
    by_cases h12 : k < 12
    · by_cases hlt : k < l.length
      · have hs1 : k < (⟨l.toArray⟩ : ByteArray).size := by rw [bytes_size]; exact hlt
        obtain ⟨c, hc, Hc⟩ : ∃ c, (⟨l.toArray⟩ : ByteArray)[k]'hs1 = c ∧ Hid (l.getD k 0 = c) := ⟨_, rfl, by rw [getD_at hlt]; exact hide rfl⟩
        have cR := hr.cell h12
        have fR := hr.frozen k
        have HR := hide hr
        clear hr
        go_wp2_with fail
        go_roundw
        case rel =>
          refine ⟨k + 1, by omega, by omega, by go_num, (HR.out.set k (.int .u8 (c.toNat : Int))).congr fun j _ => padC_step (by rw [Hc.out]), hide ?_, hB.setCell (p := ⟨w.heap.size + 1, k, none⟩) (by simp) _⟩
          exact (((Below.refl (w.heap.size + 1) wr).setCell (p := ⟨w.heap.size + 1, k, none⟩) (by simp) _).block _ (by omega)).trans HG.out
        case measure => simp [intOf]; omega
      · have HP := hide (pad_cells (n := 12) (l := l) (k := k) (by omega) hr)
        have HB := hide hB
        clear hr hB
        go_wp2_with (first
          | (refine wpList_load_row rfl 25 (.tmp 3) rfl (w.heap.size + 1) rfl _ _ _ _ HP.out Try.underlying25 rfl (by rw [cel_size, pad_len]; exact Try.sizeIsin) ?_)
          | (refine wpList_store_row rfl 25 (.tmp 2) _ rfl w.heap.size (cel (pad 12 l)) rfl rfl _ _ HG.out (by rw [cel_size, pad_len]; exact Try.sizeIsin) (by rw [cel_size, cel_size, pad_len]; rfl) (cel_one _) ?_))
        exact bodyPost_ret (results_cell_row rfl _ _ w.heap.size 25 (cel (pad 12 l)) (0, 0) _ rfl (setRow_heap _ _ _ _ _ _ HG.out) Try.underlying25 rfl (by rw [cel_size, pad_len]; exact Try.sizeIsin)) rfl ⟨rfl, below_setRow HB.out (Nat.le_refl _) _⟩
    · have HP := hide (pad_cells (n := 12) (l := l) (k := k) (by omega) hr)
      have HB := hide hB
      clear hr hB
      go_wp2_with (first
        | (refine wpList_load_row rfl 25 (.tmp 3) rfl (w.heap.size + 1) rfl _ _ _ _ HP.out Try.underlying25 rfl (by rw [cel_size, pad_len]; exact Try.sizeIsin) ?_)
        | (refine wpList_store_row rfl 25 (.tmp 2) _ rfl w.heap.size (cel (pad 12 l)) rfl rfl _ _ HG.out (by rw [cel_size, pad_len]; exact Try.sizeIsin) (by rw [cel_size, cel_size, pad_len]; rfl) (cel_one _) ?_))
      exact bodyPost_ret (results_cell_row rfl _ _ w.heap.size 25 (cel (pad 12 l)) (0, 0) _ rfl (setRow_heap _ _ _ _ _ _ HG.out) Try.underlying25 rfl (by rw [cel_size, pad_len]; exact Try.sizeIsin)) rfl ⟨rfl, below_setRow HB.out (Nat.le_refl _) _⟩
set_option maxRecDepth 100000 in
set_option maxHeartbeats 1000000 in
theorem lawLei_any (l : List UInt8) (w : World) (hl : l.length ≤ 140737488355328) :
    Calls Try.prog 8 #[.string ⟨l.toArray⟩] w fun e w' => e = .returned (arr (pad 20 l)) ∧ Below w.heap.size w w' := by
  have hb0 : Below w.heap.size w ((w.alloc (.cells (cel (zer 20)) 29)).alloc (.cells (cel (zer 20)) 29)) := ((Below.refl _ _).alloc (Nat.le_refl _) _).alloc (by simp) _
  have hr0 := row_zero (w.alloc (.cells (cel (zer 20)) 29)) 20 29 l
  rw [show (w.alloc (.cells (cel (zer 20)) 29)).heap.size = w.heap.size + 1 by simp] at hr0
  have hg0 := alloc_block (o := .cells (cel (zer 20)) 29) (alloc_new w (.cells (cel (zer 20)) 29))
  go_enter Try.func8, Try.ntmps8
  go_wp2_with fail
  go_loopw [4] (fun i wr => ∃ k : Nat, k ≤ 20 ∧ k ≤ l.length ∧ i = .int .i64 k ∧ wr.rowIs (w.heap.size + 1) 29 20 (padC l k) ∧ Hid (wr.heap[w.heap.size]? = some (.cells (cel (zer 20)) 29 (0, 0))) ∧ Below w.heap.size w wr) (fun i _ => 20 - (intOf i).toNat)
  case atStart => exact ⟨0, by omega, by omega, rfl, hr0, hide hg0, hb0⟩
  case round =>
    clear hr0 hg0 hb0
    obtain ⟨k, hk, hk2, rfl, hr, HG, hB⟩ := hrel
    by_cases h20 : k < 20
    · by_cases hlt : k < l.length
      · have hs1 : k < (⟨l.toArray⟩ : ByteArray).size := by rw [bytes_size]; exact hlt
        obtain ⟨c, hc, Hc⟩ : ∃ c, (⟨l.toArray⟩ : ByteArray)[k]'hs1 = c ∧ Hid (l.getD k 0 = c) := ⟨_, rfl, by rw [getD_at hlt]; exact hide rfl⟩
        have cR := hr.cell h20
        have fR := hr.frozen k
        have HR := hide hr
        clear hr
        go_wp2_with fail
        go_roundw
        case rel =>
          refine ⟨k + 1, by omega, by omega, by go_num, (HR.out.set k (.int .u8 (c.toNat : Int))).congr fun j _ => padC_step (by rw [Hc.out]), hide ?_, hB.setCell (p := ⟨w.heap.size + 1, k, none⟩) (by simp) _⟩
          exact (((Below.refl (w.heap.size + 1) wr).setCell (p := ⟨w.heap.size + 1, k, none⟩) (by simp) _).block _ (by omega)).trans HG.out
        case measure => simp [intOf]; omega
      · have HP := hide (pad_cells (n := 20) (l := l) (k := k) (by omega) hr)
        have HB := hide hB
        clear hr hB
        go_wp2_with (first
          | (refine wpList_load_row rfl 29 (.tmp 3) rfl (w.heap.size + 1) rfl _ _ _ _ HP.out Try.underlying29 rfl (by rw [cel_size, pad_len]; exact Try.sizeLei) ?_)
          | (refine wpList_store_row rfl 29 (.tmp 2) _ rfl w.heap.size (cel (pad 20 l)) rfl rfl _ _ HG.out (by rw [cel_size, pad_len]; exact Try.sizeLei) (by rw [cel_size, cel_size, pad_len]; rfl) (cel_one _) ?_))
        exact bodyPost_ret (results_cell_row rfl _ _ w.heap.size 29 (cel (pad 20 l)) (0, 0) _ rfl (setRow_heap _ _ _ _ _ _ HG.out) Try.underlying29 rfl (by rw [cel_size, pad_len]; exact Try.sizeLei)) rfl ⟨rfl, below_setRow HB.out (Nat.le_refl _) _⟩
    · have HP := hide (pad_cells (n := 20) (l := l) (k := k) (by omega) hr)
      have HB := hide hB
      clear hr hB
      go_wp2_with (first
        | (refine wpList_load_row rfl 29 (.tmp 3) rfl (w.heap.size + 1) rfl _ _ _ _ HP.out Try.underlying29 rfl (by rw [cel_size, pad_len]; exact Try.sizeLei) ?_)
        | (refine wpList_store_row rfl 29 (.tmp 2) _ rfl w.heap.size (cel (pad 20 l)) rfl rfl _ _ HG.out (by rw [cel_size, pad_len]; exact Try.sizeLei) (by rw [cel_size, cel_size, pad_len]; rfl) (cel_one _) ?_))
      exact bodyPost_ret (results_cell_row rfl _ _ w.heap.size 29 (cel (pad 20 l)) (0, 0) _ rfl (setRow_heap _ _ _ _ _ _ HG.out) Try.underlying29 rfl (by rw [cel_size, pad_len]; exact Try.sizeLei)) rfl ⟨rfl, below_setRow HB.out (Nat.le_refl _) _⟩
set_option maxRecDepth 100000 in
set_option maxHeartbeats 1000000 in
theorem textIsin_any (l : List UInt8) (w : World) (hl : l.length = 12) :
    Calls Try.prog 5 #[.agg (cel l)] w fun e w' => e = .returned (.string ⟨l.toArray⟩) ∧ Below w.heap.size w w' := by
  have HLEN := hide hl
  have hsi : (Try.prog.info? 25).map (·.size) = some (cel l).size := by rw [cel_size, hl]; kernel_rfl
  clear hl
  have HSI := hide hsi
  clear hsi
  have hmk : ∀ W : World, (Instr.makeSlice 32 (.int .i64 12) (.int .i64 12)).run Try.prog W = .ok (.slice (some ⟨W.heap.size, 0, none⟩) 12 12) (W.alloc (.cells (madeCells #[.int .u8 0] 12) 5)) := fun W => run_make_row' (P := Try.prog) 32 5 (.int .u8 0) 1 Try.underlying32 Try.infoByte rfl .i64 .i64 12 (by decide) (by decide) W
  have hb0 : Below w.heap.size w ((w.alloc (.cells (cel l) 25)).alloc (.cells (madeCells #[.int .u8 0] 12) 5)) := ((Below.refl _ _).alloc (Nat.le_refl _) _).alloc (by simp) _
  have hr0 : ((w.alloc (.cells (cel l) 25)).alloc (.cells (madeCells #[.int .u8 0] 12) 5)).rowIs (w.heap.size + 1) 5 12 (padC l 0) := by
    have h := World.rowIs_made (w.alloc (.cells (cel l) 25)) (.int .u8 0) 12 5
    rw [show (w.alloc (.cells (cel l) 25)).heap.size = w.heap.size + 1 by simp] at h
    exact h.congr fun j _ => by unfold padC; rw [if_neg (by omega)]
  have hg0 := alloc_block (o := .cells (madeCells #[.int .u8 0] 12) 5) (alloc_new w (.cells (cel l) 25))
  go_enter Try.func5, Try.ntmps5
  go_wp2_with (refine wpList_load_row rfl 25 (.tmp 1) rfl w.heap.size rfl _ (cel l) _ _ (alloc_new w _) Try.underlying25 rfl HSI.out ?_)
  go_loopw [10] (fun i wr => ∃ k : Nat, k ≤ 12 ∧ i = .int .i64 k ∧ wr.rowIs (w.heap.size + 1) 5 12 (padC l k) ∧ Hid (wr.heap[w.heap.size]? = some (.cells (cel l) 25 (0, 0))) ∧ Below w.heap.size w wr) (fun i _ => 12 - (intOf i).toNat)
  case atStart => exact ⟨0, by omega, rfl, hr0, hide hg0, hb0⟩
  case round =>
    clear hr0 hg0 hb0 hmk
    obtain ⟨k, hk, rfl, hr, HG, hB⟩ := hrel
    by_cases hlt : k < 12
    · obtain ⟨c, Hc⟩ : ∃ c, Hid (l.getD k 0 = c) := ⟨_, hide rfl⟩
      have cL : wr.cell? ⟨w.heap.size, k, none⟩ = some (.int .u8 (c.toNat : Int)) := by
        rw [cell_of_row _ _ k _ _ _ HG.out, cel_at (by rw [HLEN.out]; exact hlt), Hc.out]
      have cR := hr.cell hlt
      have fR := hr.frozen k
      have HR := hide hr
      clear hr
      go_wp2_with fail
      go_roundw
      case rel =>
        refine ⟨k + 1, by omega, by go_num, (HR.out.set k (.int .u8 (c.toNat : Int))).congr fun j _ => padC_step (by rw [Hc.out]), hide ?_, hB.setCell (p := ⟨w.heap.size + 1, k, none⟩) (by simp) _⟩
        exact (((Below.refl (w.heap.size + 1) wr).setCell (p := ⟨w.heap.size + 1, k, none⟩) (by simp) _).block _ (by omega)).trans HG.out
      case measure => simp [intOf]; omega
    · have hk' : k = 12 := by omega
      subst hk'
      have hcv : (convert 32 9 (.slice (some ⟨w.heap.size + 1, 0, none⟩) 12 12)).run Try.prog wr = .ok (.string ⟨l.toArray⟩) wr := by
        have h := run_convert_bytes_back (P := Try.prog) wr 32 9 5 ⟨w.heap.size + 1, 0, none⟩ 12 l Try.underlying32 Try.underlying5 Try.underlying9 (fun j hj => by
          rw [Addr.add_mid, Nat.zero_add, hr.cell (by rw [← HLEN.out]; exact hj)]
          unfold padC; rw [if_pos (by rw [← HLEN.out]; exact hj), getD_at hj])
        rw [HLEN.out] at h; exact h
      have HB := hide hB
      clear hr hB
      go_wp2_with fail
      go_ret
      exact ⟨rfl, HB.out⟩
set_option maxRecDepth 100000 in
set_option maxHeartbeats 1000000 in
theorem textLei_any (l : List UInt8) (w : World) (hl : l.length = 20) :
    Calls Try.prog 7 #[.agg (cel l)] w fun e w' => e = .returned (.string ⟨l.toArray⟩) ∧ Below w.heap.size w w' := by
  have HLEN := hide hl
  have hsi : (Try.prog.info? 29).map (·.size) = some (cel l).size := by rw [cel_size, hl]; kernel_rfl
  clear hl
  have HSI := hide hsi
  clear hsi
  have hmk : ∀ W : World, (Instr.makeSlice 32 (.int .i64 20) (.int .i64 20)).run Try.prog W = .ok (.slice (some ⟨W.heap.size, 0, none⟩) 20 20) (W.alloc (.cells (madeCells #[.int .u8 0] 20) 5)) := fun W => run_make_row' (P := Try.prog) 32 5 (.int .u8 0) 1 Try.underlying32 Try.infoByte rfl .i64 .i64 20 (by decide) (by decide) W
  have hb0 : Below w.heap.size w ((w.alloc (.cells (cel l) 29)).alloc (.cells (madeCells #[.int .u8 0] 20) 5)) := ((Below.refl _ _).alloc (Nat.le_refl _) _).alloc (by simp) _
  have hr0 : ((w.alloc (.cells (cel l) 29)).alloc (.cells (madeCells #[.int .u8 0] 20) 5)).rowIs (w.heap.size + 1) 5 20 (padC l 0) := by
    have h := World.rowIs_made (w.alloc (.cells (cel l) 29)) (.int .u8 0) 20 5
    rw [show (w.alloc (.cells (cel l) 29)).heap.size = w.heap.size + 1 by simp] at h
    exact h.congr fun j _ => by unfold padC; rw [if_neg (by omega)]
  have hg0 := alloc_block (o := .cells (madeCells #[.int .u8 0] 20) 5) (alloc_new w (.cells (cel l) 29))
  go_enter Try.func7, Try.ntmps7
  go_wp2_with (refine wpList_load_row rfl 29 (.tmp 1) rfl w.heap.size rfl _ (cel l) _ _ (alloc_new w _) Try.underlying29 rfl HSI.out ?_)
  go_loopw [10] (fun i wr => ∃ k : Nat, k ≤ 20 ∧ i = .int .i64 k ∧ wr.rowIs (w.heap.size + 1) 5 20 (padC l k) ∧ Hid (wr.heap[w.heap.size]? = some (.cells (cel l) 29 (0, 0))) ∧ Below w.heap.size w wr) (fun i _ => 20 - (intOf i).toNat)
  case atStart => exact ⟨0, by omega, rfl, hr0, hide hg0, hb0⟩
  case round =>
    clear hr0 hg0 hb0 hmk
    obtain ⟨k, hk, rfl, hr, HG, hB⟩ := hrel
    by_cases hlt : k < 20
    · obtain ⟨c, Hc⟩ : ∃ c, Hid (l.getD k 0 = c) := ⟨_, hide rfl⟩
      have cL : wr.cell? ⟨w.heap.size, k, none⟩ = some (.int .u8 (c.toNat : Int)) := by
        rw [cell_of_row _ _ k _ _ _ HG.out, cel_at (by rw [HLEN.out]; exact hlt), Hc.out]
      have cR := hr.cell hlt
      have fR := hr.frozen k
      have HR := hide hr
      clear hr
      go_wp2_with fail
      go_roundw
      case rel =>
        refine ⟨k + 1, by omega, by go_num, (HR.out.set k (.int .u8 (c.toNat : Int))).congr fun j _ => padC_step (by rw [Hc.out]), hide ?_, hB.setCell (p := ⟨w.heap.size + 1, k, none⟩) (by simp) _⟩
        exact (((Below.refl (w.heap.size + 1) wr).setCell (p := ⟨w.heap.size + 1, k, none⟩) (by simp) _).block _ (by omega)).trans HG.out
      case measure => simp [intOf]; omega
    · have hk' : k = 20 := by omega
      subst hk'
      have hcv : (convert 32 9 (.slice (some ⟨w.heap.size + 1, 0, none⟩) 20 20)).run Try.prog wr = .ok (.string ⟨l.toArray⟩) wr := by
        have h := run_convert_bytes_back (P := Try.prog) wr 32 9 5 ⟨w.heap.size + 1, 0, none⟩ 20 l Try.underlying32 Try.underlying5 Try.underlying9 (fun j hj => by
          rw [Addr.add_mid, Nat.zero_add, hr.cell (by rw [← HLEN.out]; exact hj)]
          unfold padC; rw [if_pos (by rw [← HLEN.out]; exact hj), getD_at hj])
        rw [HLEN.out] at h; exact h
      have HB := hide hB
      clear hr hB
      go_wp2_with fail
      go_ret
      exact ⟨rfl, HB.out⟩
end Go.Proofs.Ytkpmmcekcpbilaa
