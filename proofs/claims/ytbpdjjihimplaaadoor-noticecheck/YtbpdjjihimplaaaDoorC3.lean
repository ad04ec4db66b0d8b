/-
  My own text: numbers of securities: the program's and the document's.
-/
import Derived.Test.YtbpdjjihimplaaaDoorC2
import Derived.Test.YtbpdjjihimplaaaDoorErrG
import Derived.Laws.IdiomStrings
import Derived.Laws.Cover3
import Derived.Laws.Rows
import Derived.Laws.Tables
import Derived.Laws.ResultCell
import Derived.Deep.MidRow
namespace Go.Proofs.YtbpdjjihimplaaaDoor.LC
open Go.RowKit

def isinF : List UInt8 := [67, 67, 83, 83, 83, 83, 83, 83, 83, 83, 83, 68]
def isinH : List UInt8 := [67, 67, 83, 83, 83, 83, 83, 83, 83, 83, 83]
/-- The bytes of a text as cells, as an array's value. -/
def cel (l : List UInt8) : Array Value := (l.map (fun b => Value.int .u8 (b.toNat : Int))).toArray
def arr (l : List UInt8) : Value := .agg (cel l)
def zer (n : Nat) : List UInt8 := List.replicate n 0
theorem cel_size (l : List UInt8) : (cel l).size = l.length := by simp [cel]
theorem cel_one (l : List UInt8) : (cel l).all (·.oneCell') = true := by simp [cel, Value.oneCell']
/-- The error of a number, and its place. -/
def isinR (l : List UInt8) : Int × Int := if (formR l isinF).1 = 0 then (if lsum (spr l) % 10 = 0 then (0, 0) else (7, 0)) else formR l isinF
theorem isinR_bad {l : List UInt8} (h : ¬ Form l isinF) : isinR l = formR l isinF := by
  rcases form_cases l isinF with h2 | h2
  · exact absurd h2.1 h
  · unfold isinR; rw [if_neg h2.2]
theorem isinR_sum {l : List UInt8} (h : Form l isinF) (hs : lsum (spr l) % 10 ≠ 0) : isinR l = (7, 0) := by
  rcases form_cases l isinF with h2 | h2
  · unfold isinR; rw [h2.2, if_pos rfl, if_neg hs]
  · exact absurd h h2.1
theorem isinR_ok {l : List UInt8} (h : Form l isinF) (hs : lsum (spr l) % 10 = 0) : isinR l = (0, 0) := by
  rcases form_cases l isinF with h2 | h2
  · unfold isinR; rw [h2.2, if_pos rfl, if_pos hs]
  · exact absurd h h2.1
theorem errF_iface {r : Int × Int} (h : r.1 ≠ 0) : ∃ t u, errF r = .iface t u := by
  unfold errF; rw [if_neg h]; split <;> exact ⟨_, _, rfl⟩
theorem form_ne {l f : List UInt8} (h : ¬ Form l f) : (formR l f).1 ≠ 0 := by
  rcases form_cases l f with h2 | h2
  · exact absurd h2.1 h
  · exact h2.2
theorem form_eq {l f : List UInt8} (h : Form l f) : formR l f = (0, 0) := by
  rcases form_cases l f with h2 | h2
  · exact h2.2
  · exact absurd h h2.1
theorem Tryd.sizeIsin : (Tryd.prog.info? 23).map (·.size) = some 12 := by kernel_rfl
theorem ret_tv {a b c d : Value} (h : a = c) (h2 : b = d) : Ending.returned (.tuple #[a, b]) = .returned (.tuple #[c, d]) := by rw [h, h2]

set_option maxHeartbeats 1000000 in
theorem isin_bad (l : List UInt8) (w : World) (hl : l.length ≤ 140737488355328) (h : ¬ Form l isinF) :
    Calls Tryd.prog 43 #[.string ⟨l.toArray⟩] w fun e w' => e = .returned (.tuple #[arr (zer 12), errF (isinR l)]) ∧ Below w.heap.size w w' := by
  have hb0 : Below w.heap.size w (w.alloc (.cells (cel (zer 12)) 23)) := (Below.refl _ _).alloc (Nat.le_refl _) _
  have hnew := alloc_new w (.cells (cel (zer 12)) 23)
  have HC := hide (check_any l isinF (w.alloc (.cells (cel (zer 12)) 23)) hl)
  rw [isinR_bad h]
  obtain ⟨t, u, hev⟩ := errF_iface (form_ne h)
  rw [hev] at HC ⊢
  clear hev h
  go_enter Tryd.func43, Tryd.ntmps43
  go_wp2_with fail
  refine HC.out.mono ?_
  rintro e w1 ⟨rfl, hb1⟩
  have hblk := hide ((hb1.block _ (by simp)).trans hnew)
  have hB1 := hide (hb0.trans (hb1.mono hb0.size))
  clear HC hb0 hnew hb1
  go_wp2_with (refine wpList_store_row rfl 23 (.tmp 2) _ rfl w.heap.size (cel (zer 12)) rfl rfl _ _ hblk.out (by rw [cel_size]; exact Tryd.sizeIsin) rfl (cel_one _) ?_)
  have hld := run_loadVar_row (P := Tryd.prog) (w1.setRow w.heap.size (cel (zer 12))) w.heap.size 23 23 (cel (zer 12)) (0, 0) _ (setRow_heap _ _ _ _ _ _ hblk.out) Tryd.underlying23 rfl (by rw [cel_size]; exact Tryd.sizeIsin)
  refine bodyPost_ret (v := .tuple #[arr (zer 12), .iface t u]) ?_ rfl ⟨rfl, below_setRow hB1.out (Nat.le_refl _) _⟩
  rw [results_cell_tmp rfl]
  simp [asAddr, Result.andThen, hld, arr]
set_option maxHeartbeats 1000000 in
theorem isin_sum (l : List UInt8) (w : World) (h : Form l isinF) (hs : lsum (spr l) % 10 ≠ 0) :
    Calls Tryd.prog 43 #[.string ⟨l.toArray⟩] w fun e w' => e = .returned (.tuple #[arr (zer 12), errF (isinR l)]) ∧ Below w.heap.size w w' := by
  have hlen : l.length = 12 := h.1
  have hb0 : Below w.heap.size w (w.alloc (.cells (cel (zer 12)) 23)) := (Below.refl _ _).alloc (Nat.le_refl _) _
  have hnew := alloc_new w (.cells (cel (zer 12)) 23)
  have HC := hide (check_any l isinF (w.alloc (.cells (cel (zer 12)) 23)) (by omega))
  rw [form_eq h, errF_ok] at HC
  rw [isinR_sum h hs, errF_no (by decide) (by decide)]
  have HSG := hide (form_signs h)
  have HSL := hide (spr_len l)
  have hq : (lsum (spr l) % 10 != 0) = true := by simpa using hs
  obtain ⟨S, HS⟩ : ∃ S, Hid (lsum (spr l) = S) := ⟨_, hide rfl⟩
  have HSB := hide (lsum_b (spr_dig HSG.out))
  rw [HS.out] at hq HSB
  clear h hs
  have HLEN := hide hlen
  clear hlen
  go_enter Tryd.func43, Tryd.ntmps43
  go_wp2_with fail
  refine HC.out.mono ?_
  rintro e w1 ⟨rfl, hb1⟩
  have hblk := hide ((hb1.block _ (by simp)).trans hnew)
  have hB1 := hide (hb0.trans (hb1.mono hb0.size))
  clear HC hb0 hnew hb1
  go_wp2_with fail
  refine (spread_any l _ HSG.out (by have := HLEN.out; omega)).mono ?_
  rintro e w2 ⟨v, rfl, hown, hb2⟩
  have hri := hide (ri_of_owns hown)
  have hblk2 := hide ((hb2.block _ (by have := World.block_lt_of_cell? w1 ⟨w.heap.size, 0, none⟩ (cell_of_row w1 _ 0 _ _ _ hblk.out); exact this)).trans hblk.out)
  have hB2 := hide (hB1.out.trans (hb2.mono hB1.out.size))
  clear hown hb2 hblk hB1
  go_wp2_with fail
  refine (luhn_any v (spr l) _ hri.out (spr_dig HSG.out) (by have := HSL.out; have := HLEN.out; omega)).mono ?_
  rintro e w3 ⟨rfl, rfl⟩
  rw [HS.out]
  have hS0 : 0 ≤ S := HSB.out.1
  go_wp2_with (refine wpList_store_row rfl 23 (.tmp 2) _ rfl w.heap.size (cel (zer 12)) rfl rfl _ _ hblk2.out (by rw [cel_size]; exact Tryd.sizeIsin) rfl (cel_one _) ?_)
  have hld := run_loadVar_row (P := Tryd.prog) (w3.setRow w.heap.size (cel (zer 12))) w.heap.size 23 23 (cel (zer 12)) (0, 0) _ (setRow_heap _ _ _ _ _ _ hblk2.out) Tryd.underlying23 rfl (by rw [cel_size]; exact Tryd.sizeIsin)
  refine bodyPost_ret (v := .tuple #[arr (zer 12), .iface 35 (.int .i64 7)]) ?_ rfl ⟨rfl, below_setRow hB2.out (Nat.le_refl _) _⟩
  rw [results_cell_tmp rfl]
  simp [asAddr, Result.andThen, hld, arr]
/-- The world behind '[]byte(s)'. -/
def bw (l : List UInt8) (W : World) : World :=
  W.drew.alloc (.cells (bytesRow ⟨l.toArray⟩ (grownCap W (⟨l.toArray⟩ : ByteArray).size 0 5)) 5 ((bytesRow ⟨l.toArray⟩ (grownCap W (⟨l.toArray⟩ : ByteArray).size 0 5)).size, (bytesRow ⟨l.toArray⟩ (grownCap W (⟨l.toArray⟩ : ByteArray).size 0 5)).size + 1))
def bcap (l : List UInt8) (W : World) : Nat := grownCap W (⟨l.toArray⟩ : ByteArray).size 0 5
theorem run_bytes (l : List UInt8) {n : Nat} (hn : l.length = n) (W : World) : (convert 9 98 (.string ⟨l.toArray⟩)).run Tryd.prog W = .ok (.slice (some ⟨W.heap.size, 0, none⟩) n (bcap l W)) (bw l W) := by
  rw [run_bytes_of_string W 9 98 5 ⟨l.toArray⟩ Tryd.underlying9 Tryd.underlying98 Tryd.underlying5]
  simp only [bytes_size, hn, bcap, bw]
theorem bw_below {l : List UInt8} {W : World} {B : Nat} (h : B ≤ W.heap.size) : Below B W (bw l W) := ((Below.refl B W).drew).alloc h _
theorem bw_range (l : List UInt8) (W : World) : (bw l W).rangeAt W.heap.size 0 (cel l).toList := by
  intro j v hv
  unfold bw
  rw [show (⟨W.heap.size, 0 + j, none⟩ : Addr) = ⟨W.drew.heap.size, j, none⟩ by rw [Nat.zero_add]; rfl, World.cell?_alloc_mark]
  have hj : j < l.length := by
    have := (List.getElem?_eq_some_iff.1 hv).1
    simpa [cel] using this
  rw [bytesRow_at _ _ _ (by simpa using hj)]
  rw [← hv]
  simp [cel, List.getElem?_eq_getElem hj]
set_option maxHeartbeats 1000000 in
theorem isin_ok (l : List UInt8) (w : World) (h : Form l isinF) (hs : lsum (spr l) % 10 = 0) :
    Calls Tryd.prog 43 #[.string ⟨l.toArray⟩] w fun e w' => e = .returned (.tuple #[arr l, errF (isinR l)]) ∧ Below w.heap.size w w' := by
  have hlen : l.length = 12 := h.1
  have hb0 : Below w.heap.size w (w.alloc (.cells (cel (zer 12)) 23)) := (Below.refl _ _).alloc (Nat.le_refl _) _
  have hnew := alloc_new w (.cells (cel (zer 12)) 23)
  have HC := hide (check_any l isinF (w.alloc (.cells (cel (zer 12)) 23)) (by omega))
  rw [form_eq h, errF_ok] at HC
  rw [isinR_ok h hs, errF_ok]
  have HSG := hide (form_signs h)
  have HSL := hide (spr_len l)
  have hq : (lsum (spr l) % 10 != 0) = false := by simpa using hs
  obtain ⟨S, HS⟩ : ∃ S, Hid (lsum (spr l) = S) := ⟨_, hide rfl⟩
  have HSB := hide (lsum_b (spr_dig HSG.out))
  rw [HS.out] at hq HSB
  clear h hs
  have HLEN := hide hlen
  clear hlen
  have hcv := run_bytes l HLEN.out
  have hbs : ∀ W : World, (bw l W).heap.size = W.heap.size + 1 := fun W => by simp [bw]
  have har := fun (W : World) (a : Option Addr) (c : Nat) => run_arrayAt (P := Tryd.prog) W 23 _ 12 a 12 c Tryd.underlying23 (Nat.le_refl _)
  go_enter Tryd.func43, Tryd.ntmps43
  go_wp2_with fail
  refine HC.out.mono ?_
  rintro e w1 ⟨rfl, hb1⟩
  have hblk := hide ((hb1.block _ (by simp)).trans hnew)
  have hB1 := hide (hb0.trans (hb1.mono hb0.size))
  clear HC hb0 hnew hb1
  go_wp2_with fail
  refine (spread_any l _ HSG.out (by have := HLEN.out; omega)).mono ?_
  rintro e w2 ⟨v, rfl, hown, hb2⟩
  have hri := hide (ri_of_owns hown)
  have hblk2 := hide ((hb2.block _ (by have := World.block_lt_of_cell? w1 ⟨w.heap.size, 0, none⟩ (cell_of_row w1 _ 0 _ _ _ hblk.out); exact this)).trans hblk.out)
  have hB2 := hide (hB1.out.trans (hb2.mono hB1.out.size))
  clear hown hb2 hblk hB1
  go_wp2_with fail
  refine (luhn_any v (spr l) _ hri.out (spr_dig HSG.out) (by have := HSL.out; have := HLEN.out; omega)).mono ?_
  rintro e w3 ⟨rfl, rfl⟩
  rw [HS.out]
  have hS0 : 0 ≤ S := HSB.out.1
  have hlt2 : w.heap.size < w3.heap.size := World.block_lt_of_cell? w3 ⟨w.heap.size, 0, none⟩ (cell_of_row w3 _ 0 _ _ _ hblk2.out)
  have hblk3 := hide (((bw_below (l := l) (Nat.le_refl w3.heap.size)).block _ hlt2).trans hblk2.out)
  have hB3 := hide (hB2.out.trans ((bw_below (l := l) (Nat.le_refl w3.heap.size)).mono hB2.out.size))
  have hrng := hide (bw_range l w3)
  clear hlt2
  go_wp2_with (first
    | (refine wpList_load_mid rfl 23 (.tmp 20) rfl w3.heap.size 0 rfl (cel l).toList _ hrng.out Tryd.underlying23 rfl (by rw [Array.length_toList, cel_size, HLEN.out]; exact Tryd.sizeIsin) ?_; rw [Array.toArray_toList])
    | (refine wpList_store_row rfl 23 (.tmp 2) _ rfl w.heap.size (cel l) rfl rfl _ _ hblk3.out (by rw [cel_size, HLEN.out]; exact Tryd.sizeIsin) (by rw [cel_size, cel_size, HLEN.out]; rfl) (cel_one _) ?_))
  have hld := run_loadVar_row (P := Tryd.prog) ((bw l w3).setRow w.heap.size (cel l)) w.heap.size 23 23 (cel l) (0, 0) _ (setRow_heap _ _ _ _ _ _ hblk3.out) Tryd.underlying23 rfl (by rw [cel_size, HLEN.out]; exact Tryd.sizeIsin)
  refine bodyPost_ret (v := .tuple #[arr l, .nilIface]) ?_ rfl ⟨rfl, below_setRow hB3.out (Nat.le_refl _) _⟩
  rw [results_cell_tmp rfl]
  simp [asAddr, Result.andThen, hld, arr]
end Go.Proofs.YtbpdjjihimplaaaDoor.LC
