/-
  My own text: C3, C4, Arrs, C5 in one.
-/
import Derived.Test.YtcdhblfefpkjgaaDoorErrG
import Derived.Laws.IdiomStrings
import Derived.Laws.Cover3
import Derived.Laws.Rows
import Derived.Laws.Tables
import Derived.Laws.ResultCell
import Derived.Deep.MidRow
import Derived.ChangeKeysEq
import Derived.Laws.StructEq
import Derived.Deep.OwnRows
import Derived.Test.YtcdhblfefpkjgaaDoorHeld
import Derived.Deep.WholeRow
namespace Go.Proofs.YtcdhblfefpkjgaaDoor.LC
open Go.RowKit

def isinF : List UInt8 := [67, 67, 83, 83, 83, 83, 83, 83, 83, 83, 83, 68]
def isinH : List UInt8 := [67, 67, 83, 83, 83, 83, 83, 83, 83, 83, 83]
/-- The bytes of a text as cells, as an array's value. -/
def cel (l : List UInt8) : Array Value := (l.map (fun b => Value.int .u8 (b.toNat : Int))).toArray
def arr (l : List UInt8) : Value := .agg (cel l)
def zer (n : Nat) : List UInt8 := List.replicate n 0
theorem cel_size (l : List UInt8) : (cel l).size = l.length := by simp [cel]
theorem cel_one (l : List UInt8) : (cel l).all (·.oneCell') = true := by simp [cel, Value.oneCell']
/-- The error of a number, and its place. -/
def isinR (l : List UInt8) : Int × Int := if (formR l isinF).1 = 0 then (if lsum (spr l) % 10 = 0 then (0, 0) else (7, 0)) else formR l isinF
theorem isinR_bad {l : List UInt8} (h : ¬ Form l isinF) : isinR l = formR l isinF := by
  rcases form_cases l isinF with h2 | h2
  · exact absurd h2.1 h
  · unfold isinR; rw [if_neg h2.2]
theorem isinR_sum {l : List UInt8} (h : Form l isinF) (hs : lsum (spr l) % 10 ≠ 0) : isinR l = (7, 0) := by
  rcases form_cases l isinF with h2 | h2
  · unfold isinR; rw [h2.2, if_pos rfl, if_neg hs]
  · exact absurd h h2.1
theorem isinR_ok {l : List UInt8} (h : Form l isinF) (hs : lsum (spr l) % 10 = 0) : isinR l = (0, 0) := by
  rcases form_cases l isinF with h2 | h2
  · unfold isinR; rw [h2.2, if_pos rfl, if_pos hs]
  · exact absurd h h2.1
theorem errF_iface {r : Int × Int} (h : r.1 ≠ 0) : ∃ t u, errF r = .iface t u := by
  unfold errF; rw [if_neg h]; split <;> exact ⟨_, _, rfl⟩
theorem form_ne {l f : List UInt8} (h : ¬ Form l f) : (formR l f).1 ≠ 0 := by
  rcases form_cases l f with h2 | h2
  · exact absurd h2.1 h
  · exact h2.2
theorem form_eq {l f : List UInt8} (h : Form l f) : formR l f = (0, 0) := by
  rcases form_cases l f with h2 | h2
  · exact h2.2
  · exact absurd h h2.1
theorem Tryd.sizeIsin : (Tryd.prog.info? 24).map (·.size) = some 12 := by kernel_rfl
theorem ret_tv {a b c d : Value} (h : a = c) (h2 : b = d) : Ending.returned (.tuple #[a, b]) = .returned (.tuple #[c, d]) := by rw [h, h2]

/-- The world behind '[]byte(s)'. -/
def bw (l : List UInt8) (W : World) : World :=
  W.drew.alloc (.cells (bytesRow ⟨l.toArray⟩ (grownCap W (⟨l.toArray⟩ : ByteArray).size 0 5)) 5 ((bytesRow ⟨l.toArray⟩ (grownCap W (⟨l.toArray⟩ : ByteArray).size 0 5)).size, (bytesRow ⟨l.toArray⟩ (grownCap W (⟨l.toArray⟩ : ByteArray).size 0 5)).size + 1))
def bcap (l : List UInt8) (W : World) : Nat := grownCap W (⟨l.toArray⟩ : ByteArray).size 0 5
theorem run_bytes (l : List UInt8) {n : Nat} (hn : l.length = n) (W : World) : (convert 9 107 (.string ⟨l.toArray⟩)).run Tryd.prog W = .ok (.slice (some ⟨W.heap.size, 0, none⟩) n (bcap l W)) (bw l W) := by
  rw [run_bytes_of_string W 9 107 5 ⟨l.toArray⟩ Tryd.underlying9 Tryd.underlying107 Tryd.underlying5]
  simp only [bytes_size, hn, bcap, bw]
theorem bw_below {l : List UInt8} {W : World} {B : Nat} (h : B ≤ W.heap.size) : Below B W (bw l W) := ((Below.refl B W).drew).alloc h _
theorem bw_range (l : List UInt8) (W : World) : (bw l W).rangeAt W.heap.size 0 (cel l).toList := by
  intro j v hv
  unfold bw
  rw [show (⟨W.heap.size, 0 + j, none⟩ : Addr) = ⟨W.drew.heap.size, j, none⟩ by rw [Nat.zero_add]; rfl, World.cell?_alloc_mark]
  have hj : j < l.length := by
    have := (List.getElem?_eq_some_iff.1 hv).1
    simpa [cel] using this
  rw [bytesRow_at _ _ _ (by simpa using hj)]
  rw [← hv]
  simp [cel, List.getElem?_eq_getElem hj]
end Go.Proofs.YtcdhblfefpkjgaaDoor.LC
namespace Go.Proofs.YtcdhblfefpkjgaaDoor.LC
open Go.RowKit

/-- The check digit's byte, 0 beside an error. -/
def digV (l : List UInt8) : Int := if (formR l isinH).1 = 0 then 48 + chk (spr l) else 0
theorem digV_bad {l : List UInt8} (h : ¬ Form l isinH) : digV l = 0 := by unfold digV; rw [if_neg (form_ne h)]
theorem digV_ok {l : List UInt8} (h : Form l isinH) : digV l = 48 + chk (spr l) := by unfold digV; rw [form_eq h]; rfl
theorem ret_bv {a c : Int} {b d : Value} (h : a = c) (h2 : b = d) : Ending.returned (.tuple #[.int .u8 a, b]) = .returned (.tuple #[.int .u8 c, d]) := by rw [h, h2]

theorem isinF_dg {l : List UInt8} {c : UInt8} (h : Form l isinH) (hc : isDg c = true) : Form (l ++ [c]) isinF := by
  have hl : l.length = 11 := h.1
  refine ⟨by rw [List.length_append, hl]; rfl, fun j hj => ?_⟩
  rw [List.length_append, hl] at hj
  by_cases e : j = 11
  · subst e
    rw [List.getD_eq_getElem?_getD, List.getElem?_append_right (by omega), hl]
    exact hc
  · have hj' : j < l.length := by simp at hj; omega
    have h2 := h.2 j hj'
    rw [List.getD_eq_getElem?_getD, List.getElem?_append_left hj', ← List.getD_eq_getElem?_getD]
    rw [show isinF.getD j 0 = isinH.getD j 0 by
      have : ∀ j, j < 11 → isinF.getD j 0 = isinH.getD j 0 := by decide
      exact this j (by omega)]
    exact h2
theorem sign_snoc {l : List UInt8} {c : UInt8} (h : ∀ x ∈ l, Sign x) (hc : isDg c = true) : ∀ x ∈ l ++ [c], Sign x := by
  intro x hx
  rcases List.mem_append.1 hx with h1 | h1
  · exact h x h1
  · simp at h1; subst h1; exact .inl hc
theorem dg_of {k : Nat} (h : k ≤ 9) : isDg (UInt8.ofNat (48 + k)) = true ∧ sprc (UInt8.ofNat (48 + k)) = [(k : Int)] := by
  have e : (UInt8.ofNat (48 + k)).toNat = 48 + k := by rw [UInt8.toNat_ofNat']; omega
  refine ⟨isDg_yes e (by omega) (by omega), ?_⟩
  rw [sprc_d e (by omega)]; congr 1; omega
theorem ret_bii {a : Int} {b c : Int} {a' b' c' : Int} (h : a = a') (h2 : b = b') (h3 : c = c') : Ending.returned (.tuple #[.int .u8 a, .int .i64 b, .int .i64 c]) = .returned (.tuple #[.int .u8 a', .int .i64 b', .int .i64 c']) := by rw [h, h2, h3]
end Go.Proofs.YtcdhblfefpkjgaaDoor.LC
namespace Go.Proofs.YtcdhblfefpkjgaaDoor.LC
open Go.RowKit

theorem Tryd.cells8 : Tryd.prog.cellsOf 5 = 1 := by kernel_rfl
theorem cel_at {a : List UInt8} {i : Nat} (h : i < a.length) : (cel a)[i]? = some (.int .u8 ((a.getD i 0).toNat : Int)) := by
  rw [getD_at h]; simp [cel, List.getElem?_eq_getElem h]
theorem part_cel {a : List UInt8} {i : Nat} (h : i < a.length) (w : World) : (part 5 (cel a) i).run Tryd.prog w = .ok (.int .u8 ((a.getD i 0).toNat : Int)) w := by
  have := cel_at h
  simp [part, isAgg, underlying, Tryd.underlying5, this, Result.andThen]
theorem equal8 (d : Nat) (x y : UInt8) (w : World) : (Op.equalIn (d + 1) 5 (.int .u8 (x.toNat : Int)) (.int .u8 (y.toNat : Int))).run Tryd.prog w = .ok (x == y) w := by
  have h : ((x.toNat : Int) == (y.toNat : Int)) = (x == y) := by
    by_cases e : x = y
    · subst e; simp
    · rw [u8_ne e]; symm; simpa using e
  simp [Op.equalIn, run_underlying Tryd.underlying5, h]
theorem eqItems_cel (d : Nat) (a b : List UInt8) (w : World) : ∀ is : List Nat, (∀ i ∈ is, i < a.length ∧ i < b.length) →
    (Op.eqItems (d + 1) 5 1 (cel a) (cel b) is).run Tryd.prog w = .ok (is.all fun i => a.getD i 0 == b.getD i 0) w
  | [], _ => by simp [Op.eqItems]
  | i :: is, h => by
    have hi := h i (List.mem_cons_self ..)
    have ih := eqItems_cel d a b w is (fun j hj => h j (List.mem_cons_of_mem _ hj))
    simp only [Op.eqItems, Sem.run_bind, Nat.mul_one, part_cel hi.1, part_cel hi.2, equal8, Result.andThen_ok]
    rw [List.all_cons]
    generalize (a.getD i 0 == b.getD i 0) = q
    cases q
    · simp
    · simpa using ih
theorem all_range (a b : List UInt8) (h : a.length = b.length) : ((List.range a.length).all fun i => a.getD i 0 == b.getD i 0) = decide (a = b) := by
  by_cases e : a = b
  · subst e; simp
  · rw [decide_eq_false e, List.all_eq_false]
    apply Classical.byContradiction
    intro hn
    apply e
    apply List.ext_getElem h
    intro i h1 h2
    apply Classical.byContradiction
    intro hne
    apply hn
    refine ⟨i, List.mem_range.2 h1, ?_⟩
    rw [getD_at h1, getD_at h2]
    simpa using hne
theorem run_neq_cel {t : TypeId} {n : Nat} (hu : Tryd.prog.underlying t = some (.array n 5)) (a b : List UInt8) (ha : a.length = n) (hb : b.length = n) (w : World) :
    (binOp .neq t (.agg (cel a)) (.agg (cel b))).run Tryd.prog w = .ok (.bool (!decide (a = b))) w := by
  obtain ⟨i, hi, _⟩ := info_parts (P := Tryd.prog) (t := 5) (z := .int .u8 0) (s := 1) (b := 1) (by kernel_rfl)
  have h := run_equalIn_array (P := Tryd.prog) w 9999 (cel a) (cel b) hu hi
  rw [Tryd.cells8, eqItems_cel 9998 a b w (List.range n) (fun i hi => by have := List.mem_range.1 hi; omega), ← ha, all_range a b (by omega)] at h
  simp only [binOp]
  simp [Op.equal, Op.maxDepth, h]
end Go.Proofs.YtcdhblfefpkjgaaDoor.LC
namespace Go.Proofs.YtcdhblfefpkjgaaDoor.LC
open Go.RowKit

/-- The first n bytes, zeros behind. -/
def pad (n : Nat) (l : List UInt8) : List UInt8 := (l ++ zer n).take n
theorem pad_len (n : Nat) (l : List UInt8) : (pad n l).length = n := by simp [pad, zer]
theorem pad_self {n : Nat} {l : List UInt8} (h : l.length = n) : pad n l = l := by
  unfold pad; rw [← h, List.take_left]
theorem pad_at {n : Nat} {l : List UInt8} {j : Nat} (h : j < n) : (pad n l).getD j 0 = l.getD j 0 := by
  unfold pad
  rw [List.getD_eq_getElem?_getD, List.getElem?_take, if_pos h, List.getD_eq_getElem?_getD]
  by_cases hj : j < l.length
  · rw [List.getElem?_append_left hj]
  · rw [List.getElem?_append_right (by omega), List.getElem?_eq_none (by omega : l.length ≤ j)]
    unfold zer
    rw [List.getElem?_replicate]; split <;> rfl
/-- The cells of a padded text, k of them written. -/
def padC (l : List UInt8) (k j : Nat) : Value := if j < k then .int .u8 ((l.getD j 0).toNat : Int) else .int .u8 0
theorem pad_cells {n : Nat} {l : List UInt8} {k : Nat} (hk : min n l.length ≤ k) {w : World} {b : Nat} {t : TypeId} (h : w.rowIs b t n (padC l k)) : w.heap[b]? = some (.cells (cel (pad n l)) t (0, 0)) := by
  obtain ⟨c, hb, hs, hc⟩ := h
  rw [hb]
  congr 2
  apply Array.ext_getElem?
  intro i
  by_cases hi : i < n
  · rw [hc i hi, cel_at (by rw [pad_len]; exact hi), pad_at hi]
    unfold padC
    by_cases hik : i < k
    · rw [if_pos hik]
    · rw [if_neg hik, List.getD_eq_getElem?_getD, List.getElem?_eq_none (by omega)]; rfl
  · rw [Array.getElem?_eq_none (by omega), Array.getElem?_eq_none (by rw [cel_size, pad_len]; omega)]
theorem padC_step {l : List UInt8} {k j : Nat} {v : Value} (hv : v = .int .u8 ((l.getD k 0).toNat : Int)) : (if j = k then v else padC l k j) = padC l (k + 1) j := by
  unfold padC
  by_cases e : j = k
  · subst e; rw [if_pos rfl, if_pos (by omega)]; exact hv
  · rw [if_neg e]
    by_cases h : j < k
    · rw [if_pos h, if_pos (by omega)]
    · rw [if_neg h, if_neg (by omega)]
theorem row_zero (w : World) (n : Nat) (t : TypeId) (l : List UInt8) : (w.alloc (.cells (cel (zer n)) t)).rowIs w.heap.size t n (padC l 0) := by
  refine ⟨cel (zer n), alloc_new w _, by rw [cel_size]; simp [zer], fun i hi => ?_⟩
  rw [cel_at (by simpa [zer] using hi)]
  unfold padC
  rw [if_neg (by omega)]
  have : (zer n).getD i 0 = 0 := by unfold zer; rw [List.getD_eq_getElem?_getD, List.getElem?_replicate]; split <;> rfl
  rw [this]; rfl

theorem err6_isin (l : List UInt8) : Err6 (isinR l) := by
  by_cases h : Form l isinF
  · by_cases hs : lsum (spr l) % 10 = 0
    · rw [isinR_ok h hs]; exact .inr (by decide)
    · rw [isinR_sum h hs]; exact .inr (by decide)
  · rw [isinR_bad h]; exact err6_form l isinF
theorem isinR_len {l : List UInt8} (h : (isinR l).1 = 0) : l.length = 12 := by
  by_cases hf : Form l isinF
  · exact hf.1
  · rw [isinR_bad hf] at h; exact absurd h (form_ne hf)
theorem rng_new (w : World) (l : List UInt8) (t : TypeId) : (w.alloc (.cells (cel l) t)).rangeAt w.heap.size 0 (cel l).toList := fun j v hv => by
  rw [Nat.zero_add, cell_of_row _ _ j _ _ _ (alloc_new w _)]
  simpa using hv
theorem below_step {B : Nat} {w W w' : World} (hb : Below W.heap.size W w') (h : Below B w W) (hB : B ≤ w.heap.size) : Below B w w' := h.trans (hb.mono (Nat.le_trans hB h.size))
theorem errT_later {W w' : World} (hb : Below W.heap.size W w') (h : ErrType W) : ErrType w' := h.below hb
theorem cel_list_one (l : List UInt8) : ∀ v ∈ (cel l).toList, v.oneCell' = true := by
  intro v hv
  simp [cel] at hv
  obtain ⟨c, _, rfl⟩ := hv; rfl
theorem len12 {l : List UInt8} (h : l.length = 12) : ∃ c0 c1 c2 c3 c4 c5 c6 c7 c8 c9 c10 c11, l = [c0, c1, c2, c3, c4, c5, c6, c7, c8, c9, c10, c11] :=
  ⟨l.getD 0 0, l.getD 1 0, l.getD 2 0, l.getD 3 0, l.getD 4 0, l.getD 5 0, l.getD 6 0, l.getD 7 0, l.getD 8 0, l.getD 9 0, l.getD 10 0, l.getD 11 0, by
    apply List.ext_getElem (by rw [h]; rfl)
    intro i h1 h2
    rw [← getD_at h1]
    rw [h] at h1
    match i, h1 with
    | 0, _ => rfl
    | 1, _ => rfl
    | 2, _ => rfl
    | 3, _ => rfl
    | 4, _ => rfl
    | 5, _ => rfl
    | 6, _ => rfl
    | 7, _ => rfl
    | 8, _ => rfl
    | 9, _ => rfl
    | 10, _ => rfl
    | 11, _ => rfl⟩
end Go.Proofs.YtcdhblfefpkjgaaDoor.LC
