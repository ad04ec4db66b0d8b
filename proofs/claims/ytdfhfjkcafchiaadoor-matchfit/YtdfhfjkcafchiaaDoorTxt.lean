/-
  My own text: C5, Pad, Txt in one.
-/
import Derived.Test.YtdfhfjkcafchiaaDoorArrs
import Derived.Deep.OwnRows
import Derived.Test.YtdfhfjkcafchiaaDoorGr0
import Derived.Deep.WholeRow
namespace Go.Proofs.YtdfhfjkcafchiaaDoor.LC
open Go.RowKit

/-- The first n bytes, zeros behind. -/
def pad (n : Nat) (l : List UInt8) : List UInt8 := (l ++ zer n).take n
theorem pad_len (n : Nat) (l : List UInt8) : (pad n l).length = n := by simp [pad, zer]
theorem pad_self {n : Nat} {l : List UInt8} (h : l.length = n) : pad n l = l := by
  unfold pad; rw [← h, List.take_left]
theorem pad_at {n : Nat} {l : List UInt8} {j : Nat} (h : j < n) : (pad n l).getD j 0 = l.getD j 0 := by
  unfold pad
  rw [List.getD_eq_getElem?_getD, List.getElem?_take, if_pos h, List.getD_eq_getElem?_getD]
  by_cases hj : j < l.length
  · rw [List.getElem?_append_left hj]
  · rw [List.getElem?_append_right (by omega), List.getElem?_eq_none (by omega : l.length ≤ j)]
    unfold zer
    rw [List.getElem?_replicate]; split <;> rfl
/-- The cells of a padded text, k of them written. -/
def padC (l : List UInt8) (k j : Nat) : Value := if j < k then .int .u8 ((l.getD j 0).toNat : Int) else .int .u8 0
theorem pad_cells {n : Nat} {l : List UInt8} {k : Nat} (hk : min n l.length ≤ k) {w : World} {b : Nat} {t : TypeId} (h : w.rowIs b t n (padC l k)) : w.heap[b]? = some (.cells (cel (pad n l)) t (0, 0)) := by
  obtain ⟨c, hb, hs, hc⟩ := h
  rw [hb]
  congr 2
  apply Array.ext_getElem?
  intro i
  by_cases hi : i < n
  · rw [hc i hi, cel_at (by rw [pad_len]; exact hi), pad_at hi]
    unfold padC
    by_cases hik : i < k
    · rw [if_pos hik]
    · rw [if_neg hik, List.getD_eq_getElem?_getD, List.getElem?_eq_none (by omega)]; rfl
  · rw [Array.getElem?_eq_none (by omega), Array.getElem?_eq_none (by rw [cel_size, pad_len]; omega)]
theorem padC_step {l : List UInt8} {k j : Nat} {v : Value} (hv : v = .int .u8 ((l.getD k 0).toNat : Int)) : (if j = k then v else padC l k j) = padC l (k + 1) j := by
  unfold padC
  by_cases e : j = k
  · subst e; rw [if_pos rfl, if_pos (by omega)]; exact hv
  · rw [if_neg e]
    by_cases h : j < k
    · rw [if_pos h, if_pos (by omega)]
    · rw [if_neg h, if_neg (by omega)]
theorem row_zero (w : World) (n : Nat) (t : TypeId) (l : List UInt8) : (w.alloc (.cells (cel (zer n)) t)).rowIs w.heap.size t n (padC l 0) := by
  refine ⟨cel (zer n), alloc_new w _, by rw [cel_size]; simp [zer], fun i hi => ?_⟩
  rw [cel_at (by simpa [zer] using hi)]
  unfold padC
  rw [if_neg (by omega)]
  have : (zer n).getD i 0 = 0 := by unfold zer; rw [List.getD_eq_getElem?_getD, List.getElem?_replicate]; split <;> rfl
  rw [this]; rfl

theorem err6_isin (l : List UInt8) : Err6 (isinR l) := by
  by_cases h : Form l isinF
  · by_cases hs : lsum (spr l) % 10 = 0
    · rw [isinR_ok h hs]; exact .inr (by decide)
    · rw [isinR_sum h hs]; exact .inr (by decide)
  · rw [isinR_bad h]; exact err6_form l isinF
theorem isinR_len {l : List UInt8} (h : (isinR l).1 = 0) : l.length = 12 := by
  by_cases hf : Form l isinF
  · exact hf.1
  · rw [isinR_bad hf] at h; exact absurd h (form_ne hf)
theorem rng_new (w : World) (l : List UInt8) (t : TypeId) : (w.alloc (.cells (cel l) t)).rangeAt w.heap.size 0 (cel l).toList := fun j v hv => by
  rw [Nat.zero_add, cell_of_row _ _ j _ _ _ (alloc_new w _)]
  simpa using hv
theorem below_step {B : Nat} {w W w' : World} (hb : Below W.heap.size W w') (h : Below B w W) (hB : B ≤ w.heap.size) : Below B w w' := h.trans (hb.mono (Nat.le_trans hB h.size))
theorem cel_list_one (l : List UInt8) : ∀ v ∈ (cel l).toList, v.oneCell' = true := by
  intro v hv
  simp [cel] at hv
  obtain ⟨c, _, rfl⟩ := hv; rfl
theorem len12 {l : List UInt8} (h : l.length = 12) : ∃ c0 c1 c2 c3 c4 c5 c6 c7 c8 c9 c10 c11, l = [c0, c1, c2, c3, c4, c5, c6, c7, c8, c9, c10, c11] :=
  ⟨l.getD 0 0, l.getD 1 0, l.getD 2 0, l.getD 3 0, l.getD 4 0, l.getD 5 0, l.getD 6 0, l.getD 7 0, l.getD 8 0, l.getD 9 0, l.getD 10 0, l.getD 11 0, by
    apply List.ext_getElem (by rw [h]; rfl)
    intro i h1 h2
    rw [← getD_at h1]
    rw [h] at h1
    match i, h1 with
    | 0, _ => rfl
    | 1, _ => rfl
    | 2, _ => rfl
    | 3, _ => rfl
    | 4, _ => rfl
    | 5, _ => rfl
    | 6, _ => rfl
    | 7, _ => rfl
    | 8, _ => rfl
    | 9, _ => rfl
    | 10, _ => rfl
    | 11, _ => rfl⟩
end Go.Proofs.YtdfhfjkcafchiaaDoor.LC

namespace Go.Proofs.YtdfhfjkcafchiaaDoor.LC
open Go.RowKit

theorem Tryd.infoByte : (Tryd.prog.info? 5).map (fun i => (i.zero, i.size, i.bytes)) = some (some (.int .u8 0), 1, 1) := by kernel_rfl
end Go.Proofs.YtdfhfjkcafchiaaDoor.LC
