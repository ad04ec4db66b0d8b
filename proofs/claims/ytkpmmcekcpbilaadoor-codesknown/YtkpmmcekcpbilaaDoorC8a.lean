/-
  My own text: identifiers of legal entities: the program's and the document's.
-/
import Derived.Test.YtkpmmcekcpbilaaDoorC7
namespace Go.Proofs.YtkpmmcekcpbilaaDoor
open Go.RowKit

/-- The error of an identifier, and its place. -/
def leiR (l : List UInt8) : Int × Int := if (formR l leiF).1 = 0 then (if l.drop 18 = two (spr (l.take 18)) then (0, 0) else (7, 0)) else formR l leiF
theorem leiR_bad {l : List UInt8} (h : ¬ Form l leiF) : leiR l = formR l leiF := by unfold leiR; rw [if_neg (form_ne h)]
theorem leiR_sum {l : List UInt8} (h : Form l leiF) (hs : l.drop 18 ≠ two (spr (l.take 18))) : leiR l = (7, 0) := by unfold leiR; rw [form_eq h, if_pos rfl, if_neg hs]
theorem leiR_ok {l : List UInt8} (h : Form l leiF) (hs : l.drop 18 = two (spr (l.take 18))) : leiR l = (0, 0) := by unfold leiR; rw [form_eq h, if_pos rfl, if_pos hs]
theorem form_take {l : List UInt8} (h : Form l leiF) : Form (l.take 18) leiH := by
  have hl : l.length = 20 := h.1
  have hl2 : (l.take 18).length = 18 := by rw [List.length_take, hl]; rfl
  refine ⟨hl2, fun j hj => ?_⟩
  rw [hl2] at hj
  have h2 := h.2 j (by omega)
  rw [List.getD_eq_getElem?_getD, List.getElem?_take, if_pos hj, ← List.getD_eq_getElem?_getD]
  rw [show leiH.getD j 0 = leiF.getD j 0 by
    have : ∀ j, j < 18 → leiH.getD j 0 = leiF.getD j 0 := by decide
    exact this j hj]
  exact h2
theorem bytes_take (l : List UInt8) (n : Nat) : (⟨l.toArray⟩ : ByteArray).extract 0 n = ⟨(l.take n).toArray⟩ := by
  apply ByteArray.ext; simp
theorem bytes_drop (l : List UInt8) (n m : Nat) (h : l.length = m) : (⟨l.toArray⟩ : ByteArray).extract n m = ⟨(l.drop n).toArray⟩ := by
  apply ByteArray.ext; simp [← h]
  rw [List.take_of_length_le (by rw [List.length_drop]; omega)]
theorem rng_drop {w : World} {b n : Nat} {l : List UInt8} (h : w.rangeAt b 0 (cel l).toList) : w.rangeAt b n (cel (l.drop n)).toList := fun j v hv => by
  have h2 := h (n + j) v (by
    rw [← hv]; simp [cel, List.getElem?_drop])
  rw [Nat.zero_add] at h2; exact h2
set_option maxHeartbeats 1000000 in
theorem lei_bad (l : List UInt8) (w : World) (hl : l.length ≤ 140737488355328) (h : ¬ Form l leiF) :
    Calls Tryd.prog 15 #[.string ⟨l.toArray⟩] w fun e w' => e = .returned (.tuple #[arr (zer 20), errF (leiR l)]) ∧ Below w.heap.size w w' := by
  have hb0 : Below w.heap.size w (w.alloc (.cells (cel (zer 20)) 38)) := (Below.refl _ _).alloc (Nat.le_refl _) _
  have hnew := alloc_new w (.cells (cel (zer 20)) 38)
  have HC := hide (check_any l leiF (w.alloc (.cells (cel (zer 20)) 38)) hl)
  rw [leiR_bad h]
  obtain ⟨t, u, hev⟩ := errF_iface (form_ne h)
  rw [hev] at HC ⊢
  clear hev h
  go_enter Tryd.func15, Tryd.ntmps15
  go_wp2_with fail
  refine HC.out.mono ?_
  rintro e w1 ⟨rfl, hb1⟩
  have hblk := hide ((hb1.block _ (by simp)).trans hnew)
  have hB1 := hide (hb0.trans (hb1.mono hb0.size))
  clear HC hb0 hnew hb1
  go_wp2_with (refine wpList_store_row rfl 38 (.tmp 2) _ rfl w.heap.size (cel (zer 20)) rfl rfl _ _ hblk.out (by rw [cel_size]; exact Tryd.sizeLei) rfl (cel_one _) ?_)
  have hld := run_loadVar_row (P := Tryd.prog) (w1.setRow w.heap.size (cel (zer 20))) w.heap.size 38 38 (cel (zer 20)) (0, 0) _ (setRow_heap _ _ _ _ _ _ hblk.out) Tryd.underlying38 rfl (by rw [cel_size]; exact Tryd.sizeLei)
  refine bodyPost_ret (v := .tuple #[arr (zer 20), .iface t u]) ?_ rfl ⟨rfl, below_setRow hB1.out (Nat.le_refl _) _⟩
  rw [results_cell_tmp rfl]
  simp [asAddr, Result.andThen, hld, arr]
set_option maxRecDepth 100000 in
set_option maxHeartbeats 4000000 in
theorem lei_form (l : List UInt8) (w : World) (hE : ErrType w) (h : Form l leiF) :
    Calls Tryd.prog 15 #[.string ⟨l.toArray⟩] w fun e w' => e = .returned (.tuple #[arr (if (leiR l).1 = 0 then l else zer 20), errF (leiR l)]) ∧ Below w.heap.size w w' := by
  have HE := hide hE
  have hlen : l.length = 20 := h.1
  have hb0 : Below w.heap.size w (w.alloc (.cells (cel (zer 20)) 38)) := (Below.refl _ _).alloc (Nat.le_refl _) _
  have hnew := alloc_new w (.cells (cel (zer 20)) 38)
  have HC := hide (check_any l leiF (w.alloc (.cells (cel (zer 20)) 38)) (by omega))
  rw [form_eq h, errF_ok] at HC
  have HT := hide (form_take h)
  have HTW := hide (fun W : World => leiTwo_any (l.take 18) W (form_signs HT.out) (by have := HT.out.1; rw [this]; decide))
  have HRS := hide (fun hs => leiR_sum h hs)
  have HRO := hide (fun hs => leiR_ok h hs)
  have HLEN := hide hlen
  have hcv := run_bytes l HLEN.out
  have har := fun (W : World) (a : Option Addr) (c : Nat) => run_arrayAt (P := Tryd.prog) W 38 _ 20 a 20 c Tryd.underlying38 (Nat.le_refl _)
  have har2 := fun (W : World) (a : Option Addr) (c : Nat) => run_arrayAt (P := Tryd.prog) W 64 _ 2 a 2 c Tryd.underlying64 (Nat.le_refl _)
  have hsl := bytes_take l 18
  obtain ⟨T, HTT, HTL⟩ : ∃ T, Hid (two (spr (l.take 18)) = T) ∧ Hid (T.length = 2) := ⟨_, hide rfl, hide rfl⟩
  rw [HTT.out] at HTW HRS HRO
  obtain ⟨D, HDD, HDL⟩ : ∃ D, Hid (l.drop 18 = D) ∧ Hid (D.length = 2) := ⟨_, hide rfl, hide (by rw [List.length_drop, hlen])⟩
  rw [HDD.out] at HRS HRO
  have hneq := run_neq_cel Tryd.underlying64 D T HDL.out HTL.out
  clear h
  cases hq : decide (D = T)
  · rw [hq] at hneq
    have HR := hide (HRS.out (of_decide_eq_false hq))
    rw [HR.out, errF_no (by decide) (by decide), if_neg (by decide)]
    clear hq HR HRS HRO
    go_enter Tryd.func15, Tryd.ntmps15
    go_wp2_with fail
    refine HC.out.mono ?_
    rintro e w1 ⟨rfl, hb1⟩
    have hblk := (hb1.block _ (by simp)).trans hnew
    have hB1 := hb0.trans (hb1.mono hb0.size)
    have hlt1 : w.heap.size < w1.heap.size := World.block_lt_of_cell? w1 ⟨w.heap.size, 0, none⟩ (cell_of_row w1 _ 0 _ _ _ hblk)
    have hB2 := hB1.trans ((bw_below (l := l) (Nat.le_refl w1.heap.size)).mono hB1.size)
    have HBK := hide (alloc_block (o := .cells (cel l) 38) (((bw_below (l := l) (Nat.le_refl w1.heap.size)).block _ hlt1).trans hblk))
    have hW := hB2.alloc hB2.size (.cells (cel l) 38)
    have HW := hide hW
    have hrng := hide (bw_range l w1)
    have HX := hide (show ((bw l w1).alloc (.cells (cel l) 38)).drew.rangeAt (bw l w1).heap.size 0 (cel l).toList ∧ ErrType ((bw l w1).alloc (.cells (cel l) 38)).drew ∧ Below ((bw l w1).alloc (.cells (cel l) 38)).heap.size ((bw l w1).alloc (.cells (cel l) 38)) ((bw l w1).alloc (.cells (cel l) 38)).drew from
      ⟨rng_new (bw l w1) l 38, HE.out.below hW.drew, (Below.refl _ _).drew⟩)
    clear hb0 hnew hb1 hblk hB1 hlt1 hB2 hW HC
    go_wp2_with (first
      | (refine wpList_load_mid rfl 38 (.tmp 14) rfl w1.heap.size 0 rfl (cel l).toList _ hrng.out Tryd.underlying38 rfl (by rw [Array.length_toList, cel_size, HLEN.out]; exact Tryd.sizeLei) ?_; rw [Array.toArray_toList])
      | (refine wpList_store_row rfl 38 (.tmp 5) _ rfl (bw l w1).heap.size (cel l) rfl rfl _ (cel (zer 20)) (alloc_new (bw l w1) _) (by rw [cel_size, HLEN.out]; exact Tryd.sizeLei) (by rw [cel_size, cel_size, HLEN.out]; rfl) (cel_one _) ?_; rw [World.setRow_alloc_new]))
    simp only [Act.put]
    haveI : Nonempty (Grown ((bw l w1).alloc (.cells (cel l) 38)) (bw l w1).heap.size (cel l).toList) := ⟨⟨_, HX.out⟩⟩
    refine region_class (C := fun w' => ∃ x : Grown ((bw l w1).alloc (.cells (cel l) 38)) (bw l w1).heap.size (cel l).toList, w' = x.1) (by kernel_rfl) (by kernel_rfl) ⟨⟨_, HX.out⟩, rfl⟩ ?_
    repeat (first
      | go_big_quiet_skip
      | (go_big_quiet_want; first
          | (refine quiet_load_at 64 (.tmp 17) rfl (bw l w1).heap.size 18 rfl (cel D).toList _ (fun w' ⟨x, hx⟩ => by subst hx; rw [← HDD.out]; exact rng_drop x.2.1) Tryd.underlying64 rfl (by rw [Array.length_toList, cel_size, HDL.out]; exact Tryd.size2) ?_; rw [Array.toArray_toList]; simp only [Act.put, List.setIfInBounds_toArray, List.set_cons_zero, List.set_cons_succ]; go_big_quiet_on)
          | (go_big_quiet_op; first
              | go_big_quiet_on
              | (apply Exists.intro; refine ⟨fun x => ?_, ?_⟩; (first
                  | (go_at_call 38; exact x.call (HTW.out x.1))); go_big_quiet_on))))
    refine wpQuiet_nil ?_
    rintro w3 ⟨x, rfl⟩
    obtain ⟨w3, hw3⟩ := x
    have HB3 : Hid (Below w.heap.size w w3) := hide (HW.out.trans (hw3.2.2.mono HW.out.size))
    have HRG3 : Hid (w3.rangeAt (bw l w1).heap.size 0 (cel l).toList) := hide hw3.1
    have HBK3 := hide ((hw3.2.2.block w.heap.size (by have h1 := World.block_lt_of_cell? ((bw l w1).alloc (.cells (cel l) 38)) ⟨w.heap.size, 0, none⟩ (cell_of_row _ _ 0 _ _ _ HBK.out); exact h1)).trans HBK.out)
    dsimp only
    clear hw3 HX this
    go_wp2_with (refine wpList_store_row rfl 38 (.tmp 2) _ rfl w.heap.size (cel (zer 20)) rfl rfl _ _ HBK3.out (by rw [cel_size]; exact Tryd.sizeLei) rfl (cel_one _) ?_)
    have hld := run_loadVar_row (P := Tryd.prog) (w3.setRow w.heap.size (cel (zer 20))) w.heap.size 38 38 (cel (zer 20)) (0, 0) _ (setRow_heap _ _ _ _ _ _ HBK3.out) Tryd.underlying38 rfl (by rw [cel_size]; exact Tryd.sizeLei)
    refine bodyPost_ret (v := .tuple #[arr (zer 20), .iface 61 (.int .i64 7)]) ?_ rfl ⟨rfl, below_setRow HB3.out (Nat.le_refl _) _⟩
    rw [results_cell_tmp rfl]
    simp [asAddr, Result.andThen, hld, arr]
  · rw [hq] at hneq
    have HR := hide (HRO.out (of_decide_eq_true hq))
    rw [HR.out, errF_ok, if_pos rfl]
    clear hq HR HRS HRO
    go_enter Tryd.func15, Tryd.ntmps15
    go_wp2_with fail
    refine HC.out.mono ?_
    rintro e w1 ⟨rfl, hb1⟩
    have hblk := (hb1.block _ (by simp)).trans hnew
    have hB1 := hb0.trans (hb1.mono hb0.size)
    have hlt1 : w.heap.size < w1.heap.size := World.block_lt_of_cell? w1 ⟨w.heap.size, 0, none⟩ (cell_of_row w1 _ 0 _ _ _ hblk)
    have hB2 := hB1.trans ((bw_below (l := l) (Nat.le_refl w1.heap.size)).mono hB1.size)
    have HBK := hide (alloc_block (o := .cells (cel l) 38) (((bw_below (l := l) (Nat.le_refl w1.heap.size)).block _ hlt1).trans hblk))
    have hW := hB2.alloc hB2.size (.cells (cel l) 38)
    have HW := hide hW
    have hrng := hide (bw_range l w1)
    have HX := hide (show ((bw l w1).alloc (.cells (cel l) 38)).drew.rangeAt (bw l w1).heap.size 0 (cel l).toList ∧ ErrType ((bw l w1).alloc (.cells (cel l) 38)).drew ∧ Below ((bw l w1).alloc (.cells (cel l) 38)).heap.size ((bw l w1).alloc (.cells (cel l) 38)) ((bw l w1).alloc (.cells (cel l) 38)).drew from
      ⟨rng_new (bw l w1) l 38, HE.out.below hW.drew, (Below.refl _ _).drew⟩)
    clear hb0 hnew hb1 hblk hB1 hlt1 hB2 hW HC
    go_wp2_with (first
      | (refine wpList_load_mid rfl 38 (.tmp 14) rfl w1.heap.size 0 rfl (cel l).toList _ hrng.out Tryd.underlying38 rfl (by rw [Array.length_toList, cel_size, HLEN.out]; exact Tryd.sizeLei) ?_; rw [Array.toArray_toList])
      | (refine wpList_store_row rfl 38 (.tmp 5) _ rfl (bw l w1).heap.size (cel l) rfl rfl _ (cel (zer 20)) (alloc_new (bw l w1) _) (by rw [cel_size, HLEN.out]; exact Tryd.sizeLei) (by rw [cel_size, cel_size, HLEN.out]; rfl) (cel_one _) ?_; rw [World.setRow_alloc_new]))
    simp only [Act.put]
    haveI : Nonempty (Grown ((bw l w1).alloc (.cells (cel l) 38)) (bw l w1).heap.size (cel l).toList) := ⟨⟨_, HX.out⟩⟩
    refine region_class (C := fun w' => ∃ x : Grown ((bw l w1).alloc (.cells (cel l) 38)) (bw l w1).heap.size (cel l).toList, w' = x.1) (by kernel_rfl) (by kernel_rfl) ⟨⟨_, HX.out⟩, rfl⟩ ?_
    repeat (first
      | go_big_quiet_skip
      | (go_big_quiet_want; first
          | (refine quiet_load_at 64 (.tmp 17) rfl (bw l w1).heap.size 18 rfl (cel D).toList _ (fun w' ⟨x, hx⟩ => by subst hx; rw [← HDD.out]; exact rng_drop x.2.1) Tryd.underlying64 rfl (by rw [Array.length_toList, cel_size, HDL.out]; exact Tryd.size2) ?_; rw [Array.toArray_toList]; simp only [Act.put, List.setIfInBounds_toArray, List.set_cons_zero, List.set_cons_succ]; go_big_quiet_on)
          | (go_big_quiet_op; first
              | go_big_quiet_on
              | (apply Exists.intro; refine ⟨fun x => ?_, ?_⟩; (first
                  | (go_at_call 38; exact x.call (HTW.out x.1))); go_big_quiet_on))))
    refine wpQuiet_nil ?_
    rintro w3 ⟨x, rfl⟩
    obtain ⟨w3, hw3⟩ := x
    have HB3 : Hid (Below w.heap.size w w3) := hide (HW.out.trans (hw3.2.2.mono HW.out.size))
    have HRG3 : Hid (w3.rangeAt (bw l w1).heap.size 0 (cel l).toList) := hide hw3.1
    have HBK3 := hide ((hw3.2.2.block w.heap.size (by have h1 := World.block_lt_of_cell? ((bw l w1).alloc (.cells (cel l) 38)) ⟨w.heap.size, 0, none⟩ (cell_of_row _ _ 0 _ _ _ HBK.out); exact h1)).trans HBK.out)
    dsimp only
    clear hw3 HX this
    go_wp2_with (first
      | (refine wpList_load_mid rfl 38 (.tmp 5) rfl (bw l w1).heap.size 0 rfl (cel l).toList _ HRG3.out Tryd.underlying38 rfl (by rw [Array.length_toList, cel_size, HLEN.out]; exact Tryd.sizeLei) ?_; rw [Array.toArray_toList])
      | (refine wpList_store_row rfl 38 (.tmp 2) _ rfl w.heap.size (cel l) rfl rfl _ _ HBK3.out (by rw [cel_size, HLEN.out]; exact Tryd.sizeLei) (by rw [cel_size, cel_size, HLEN.out]; rfl) (cel_one _) ?_))
    have hld := run_loadVar_row (P := Tryd.prog) (w3.setRow w.heap.size (cel l)) w.heap.size 38 38 (cel l) (0, 0) _ (setRow_heap _ _ _ _ _ _ HBK3.out) Tryd.underlying38 rfl (by rw [cel_size, HLEN.out]; exact Tryd.sizeLei)
    refine bodyPost_ret (v := .tuple #[arr l, .nilIface]) ?_ rfl ⟨rfl, below_setRow HB3.out (Nat.le_refl _) _⟩
    rw [results_cell_tmp rfl]
    simp [asAddr, Result.andThen, hld, arr]
theorem lei_any (l : List UInt8) (w : World) (hE : ErrType w) (hl : l.length ≤ 140737488355328) :
    Calls Tryd.prog 15 #[.string ⟨l.toArray⟩] w fun e w' => e = .returned (.tuple #[arr (if (leiR l).1 = 0 then l else zer 20), errF (leiR l)]) ∧ Below w.heap.size w w' := by
  by_cases h : Form l leiF
  · exact lei_form l w hE h
  · rw [if_neg (by rw [leiR_bad h]; exact form_ne h)]; exact lei_bad l w hl h
theorem err6_lei (l : List UInt8) : Err6 (leiR l) := by
  by_cases h : Form l leiF
  · by_cases hs : l.drop 18 = two (spr (l.take 18))
    · rw [leiR_ok h hs]; exact .inr (by decide)
    · rw [leiR_sum h hs]; exact .inr (by decide)
  · rw [leiR_bad h]; exact err6_form l leiF
theorem leiR_len {l : List UInt8} (h : (leiR l).1 = 0) : l.length = 20 := by
  by_cases hf : Form l leiF
  · exact hf.1
  · rw [leiR_bad hf] at h; exact absurd h (form_ne hf)
end Go.Proofs.YtkpmmcekcpbilaaDoor
