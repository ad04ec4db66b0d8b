/-
  My own text: the law on identifiers of legal entities: its walk.
-/
import Derived.Test.YtkpmmcekcpbilaaDoorC8a
namespace Go.Proofs.YtkpmmcekcpbilaaDoor
open Go.RowKit

set_option maxRecDepth 100000 in
set_option maxHeartbeats 1000000 in
theorem refLei_any (l : List UInt8) (w : World) (hl : l.length ≤ 140737488355328) :
    Calls Tryd.prog 14 #[.string ⟨l.toArray⟩] w fun e w' => e = .returned (.tuple #[.int .i64 (leiR l).1, .int .i64 (leiR l).2]) ∧ Below w.heap.size w w' := by
  have HC := hide (has_any l leiF w hl)
  by_cases h : Form l leiF
  · rw [form_eq h] at HC
    have hlen : l.length = 20 := h.1
    have HT := hide (form_take h)
    have HLD := hide (fun W : World => refLeiDigits_any (l.take 18) W (by rw [HT.out.1]; decide))
    rw [twoV_ok HT.out, form_eq HT.out] at HLD
    have HRS := hide (fun hs => leiR_sum h hs)
    have HRO := hide (fun hs => leiR_ok h hs)
    have hsl := bytes_take l 18
    have hsd := bytes_drop l 18 20 hlen
    obtain ⟨T, HTT⟩ : ∃ T, Hid (two (spr (l.take 18)) = T) := ⟨_, hide rfl⟩
    obtain ⟨D, HDD⟩ : ∃ D, Hid (l.drop 18 = D) := ⟨_, hide rfl⟩
    rw [HTT.out] at HRS HRO HLD
    rw [HDD.out] at HRS HRO hsd
    clear h
    cases hq : (D == T)
    · have HR := hide (HRS.out (by simpa using hq))
      clear HRS HRO
      go_enter Tryd.func14, Tryd.ntmps14
      go_wp2_with fail
      refine HC.out.mono ?_
      rintro e w1 ⟨rfl, hb1⟩
      go_wp2_with fail
      refine (HLD.out _).mono ?_
      rintro e w2 ⟨rfl, hb2⟩
      go_wp2_with fail
      go_ret2
      exact ⟨ret_ii HR.out.symm, hb1.trans (hb2.mono hb1.size)⟩
    · have HR := hide (HRO.out (by simpa using hq))
      clear HRS HRO
      go_enter Tryd.func14, Tryd.ntmps14
      go_wp2_with fail
      refine HC.out.mono ?_
      rintro e w1 ⟨rfl, hb1⟩
      go_wp2_with fail
      refine (HLD.out _).mono ?_
      rintro e w2 ⟨rfl, hb2⟩
      go_wp2_with fail
      go_ret2
      exact ⟨ret_ii HR.out.symm, hb1.trans (hb2.mono hb1.size)⟩
  · have HR := hide (leiR_bad h)
    have HN := hide (form_ne h)
    obtain ⟨a, b, hab⟩ : ∃ a b, formR l leiF = (a, b) := ⟨_, _, rfl⟩
    rw [hab] at HC HR HN
    have hq : (a != 0) = true := by simpa using HN.out
    clear hab h HN
    go_enter Tryd.func14, Tryd.ntmps14
    go_wp2_with fail
    refine HC.out.mono ?_
    rintro e w1 ⟨rfl, hb1⟩
    go_wp2_with fail
    go_ret2
    exact ⟨ret_ii HR.out.symm, hb1⟩
set_option maxRecDepth 100000 in
set_option maxHeartbeats 1000000 in
theorem lawLei_any (l : List UInt8) (w : World) (hl : l.length ≤ 140737488355328) :
    Calls Tryd.prog 16 #[.string ⟨l.toArray⟩] w fun e w' => e = .returned (arr (pad 20 l)) ∧ Below w.heap.size w w' := by
  have hb0 : Below w.heap.size w ((w.alloc (.cells (cel (zer 20)) 38)).alloc (.cells (cel (zer 20)) 38)) := ((Below.refl _ _).alloc (Nat.le_refl _) _).alloc (by simp) _
  have hr0 := row_zero (w.alloc (.cells (cel (zer 20)) 38)) 20 38 l
  rw [show (w.alloc (.cells (cel (zer 20)) 38)).heap.size = w.heap.size + 1 by simp] at hr0
  have hg0 := alloc_block (o := .cells (cel (zer 20)) 38) (alloc_new w (.cells (cel (zer 20)) 38))
  go_enter Tryd.func16, Tryd.ntmps16
  go_wp2_with fail
  go_loopw [4] (fun i wr => ∃ k : Nat, k ≤ 20 ∧ k ≤ l.length ∧ i = .int .i64 k ∧ wr.rowIs (w.heap.size + 1) 38 20 (padC l k) ∧ Hid (wr.heap[w.heap.size]? = some (.cells (cel (zer 20)) 38 (0, 0))) ∧ Below w.heap.size w wr) (fun i _ => 20 - (intOf i).toNat)
  case atStart => exact ⟨0, by omega, by omega, rfl, hr0, hide hg0, hb0⟩
  case round =>
    clear hr0 hg0 hb0
    obtain ⟨k, hk, hk2, rfl, hr, HG, hB⟩ := hrel
    by_cases h20 : k < 20
    · by_cases hlt : k < l.length
      · have hs1 : k < (⟨l.toArray⟩ : ByteArray).size := by rw [bytes_size]; exact hlt
        obtain ⟨c, hc, Hc⟩ : ∃ c, (⟨l.toArray⟩ : ByteArray)[k]'hs1 = c ∧ Hid (l.getD k 0 = c) := ⟨_, rfl, by rw [getD_at hlt]; exact hide rfl⟩
        have cR := hr.cell h20
        have fR := hr.frozen k
        have HR := hide hr
        clear hr
        go_wp2_with fail
        go_roundw
        case rel =>
          refine ⟨k + 1, by omega, by omega, by go_num, (HR.out.set k (.int .u8 (c.toNat : Int))).congr fun j _ => padC_step (by rw [Hc.out]), hide ?_, hB.setCell (p := ⟨w.heap.size + 1, k, none⟩) (by simp) _⟩
          exact (((Below.refl (w.heap.size + 1) wr).setCell (p := ⟨w.heap.size + 1, k, none⟩) (by simp) _).block _ (by omega)).trans HG.out
        case measure => simp [intOf]; omega
      · have HP := hide (pad_cells (n := 20) (l := l) (k := k) (by omega) hr)
        have HB := hide hB
        clear hr hB
        go_wp2_with (first
          | (refine wpList_load_row rfl 38 (.tmp 3) rfl (w.heap.size + 1) rfl _ _ _ _ HP.out Tryd.underlying38 rfl (by rw [cel_size, pad_len]; exact Tryd.sizeLei) ?_)
          | (refine wpList_store_row rfl 38 (.tmp 2) _ rfl w.heap.size (cel (pad 20 l)) rfl rfl _ _ HG.out (by rw [cel_size, pad_len]; exact Tryd.sizeLei) (by rw [cel_size, cel_size, pad_len]; rfl) (cel_one _) ?_))
        exact bodyPost_ret (results_cell_row rfl _ _ w.heap.size 38 (cel (pad 20 l)) (0, 0) _ rfl (setRow_heap _ _ _ _ _ _ HG.out) Tryd.underlying38 rfl (by rw [cel_size, pad_len]; exact Tryd.sizeLei)) rfl ⟨rfl, below_setRow HB.out (Nat.le_refl _) _⟩
    · have HP := hide (pad_cells (n := 20) (l := l) (k := k) (by omega) hr)
      have HB := hide hB
      clear hr hB
      go_wp2_with (first
        | (refine wpList_load_row rfl 38 (.tmp 3) rfl (w.heap.size + 1) rfl _ _ _ _ HP.out Tryd.underlying38 rfl (by rw [cel_size, pad_len]; exact Tryd.sizeLei) ?_)
        | (refine wpList_store_row rfl 38 (.tmp 2) _ rfl w.heap.size (cel (pad 20 l)) rfl rfl _ _ HG.out (by rw [cel_size, pad_len]; exact Tryd.sizeLei) (by rw [cel_size, cel_size, pad_len]; rfl) (cel_one _) ?_))
      exact bodyPost_ret (results_cell_row rfl _ _ w.heap.size 38 (cel (pad 20 l)) (0, 0) _ rfl (setRow_heap _ _ _ _ _ _ HG.out) Tryd.underlying38 rfl (by rw [cel_size, pad_len]; exact Tryd.sizeLei)) rfl ⟨rfl, below_setRow HB.out (Nat.le_refl _) _⟩
set_option maxRecDepth 100000 in
set_option maxHeartbeats 4000000 in
theorem lei_law (l : List UInt8) (w : World) (hE : ErrType w) (hl : l.length ≤ 140737488355328) :
    Calls Tryd.prog 4 #[.string ⟨l.toArray⟩] w fun e w' => e = .returned (.bool true) ∧ Below w.heap.size w w' := by
  have HE := hide hE
  have H6 := hide (err6_lei l)
  have H6d := hide (err6_form l leiH)
  have HIS := hide (fun (W : World) (hW : ErrType W) => lei_any l W hW hl)
  have HRI := hide (fun W : World => refLei_any l W hl)
  have HID := hide (fun W : World => leiDigits_any l W hl)
  have HRD := hide (fun W : World => refLeiDigits_any l W hl)
  have HLI := hide (fun W : World => lawLei_any l W hl)
  have HTD := hide (fun W : World => told_any (formR l leiH) W H6d.out)
  have HTI := hide (fun W : World => told_any (leiR l) W H6.out)
  have HLEN := hide (leiR_len (l := l))
  clear hE
  obtain ⟨n, at0, hr⟩ : ∃ n at0, leiR l = (n, at0) := ⟨_, _, rfl⟩
  rw [hr] at HIS HRI HTI HLEN
  obtain ⟨m, at1, hd⟩ : ∃ m at1, formR l leiH = (m, at1) := ⟨_, _, rfl⟩
  rw [hd] at HID HRD HTD
  clear hr hd H6 H6d
  dsimp only at HIS HRI HTI HLEN HID HRD HTD
  obtain ⟨ev, Hev⟩ : ∃ ev, Hid (errF (n, at0) = ev) := ⟨_, hide rfl⟩
  obtain ⟨dv', Hdv⟩ : ∃ ev, Hid (errF (m, at1) = ev) := ⟨_, hide rfl⟩
  obtain ⟨dg, Hdg⟩ : ∃ dg, Hid (twoV l = dg) := ⟨_, hide rfl⟩
  rw [Hev.out] at HIS HTI
  rw [Hdv.out] at HID HTD
  rw [Hdg.out] at HID HRD
  clear Hev Hdv Hdg
  obtain ⟨c, HC⟩ : ∃ c, Hid ((if n = 0 then l else zer 20) = c) := ⟨_, hide rfl⟩
  have HCL : Hid (c.length = 20) := by
    show c.length = 20
    rw [← HC.out]
    by_cases hn : n = 0
    · rw [if_pos hn]; exact HLEN.out hn
    · rw [if_neg hn]; rfl
  have HLI2 : Hid (n = 0 → pad 20 l = c) := hide (fun hn => by rw [← HC.out, if_pos hn]; exact pad_self (HLEN.out hn))
  have HZ2 : Hid (n ≠ 0 → c = zer 20) := hide (fun hn => by rw [← HC.out, if_neg hn])
  rw [HC.out] at HIS
  clear HC HLEN
  unfold arr at HIS HLI
  obtain ⟨d, HD⟩ : ∃ d, Hid (pad 20 l = d) := ⟨_, hide rfl⟩
  rw [HD.out] at HLI HLI2
  have HDL : Hid (d.length = 20) := by show d.length = 20; rw [← HD.out, pad_len]
  clear HD
  have hneq0 : n = 0 → ∀ W : World, (binOp .neq 38 (.agg (cel c)) (.agg (cel d))).run Tryd.prog W = .ok (.bool false) W := fun hn W => by
    rw [run_neq_cel Tryd.underlying38 c d HCL.out HDL.out W, decide_eq_true (HLI2.out hn).symm]; rfl
  have hneq1 : n ≠ 0 → ∀ W : World, (binOp .neq 38 (.agg (cel c)) (.agg #[.int .u8 0, .int .u8 0, .int .u8 0, .int .u8 0, .int .u8 0, .int .u8 0, .int .u8 0, .int .u8 0, .int .u8 0, .int .u8 0, .int .u8 0, .int .u8 0, .int .u8 0, .int .u8 0, .int .u8 0, .int .u8 0, .int .u8 0, .int .u8 0, .int .u8 0, .int .u8 0])).run Tryd.prog W = .ok (.bool false) W := fun hn W => by
    have h := run_neq_cel Tryd.underlying38 c (zer 20) HCL.out rfl W
    rw [decide_eq_true (HZ2.out hn)] at h; exact h
  by_cases hn : n = 0
  · have hneq := hneq0 hn
    subst hn
    clear hneq0 hneq1 HLI2 HZ2
    go_enter Tryd.func4, Tryd.ntmps4
    go_wp2_with fail
    refine (HRI.out _).mono ?_
    rintro e w1 ⟨rfl, hb1⟩
    go_wp2_with fail
    refine (HIS.out _ (HE.out.below hb1)).mono ?_
    rintro e w2 ⟨rfl, hb2⟩
    have hB2 := hide (hb1.trans (hb2.mono hb1.size))
    clear hb1 hb2
    go_wp2_with (refine wpList_store_row rfl 38 (.tmp 5) _ rfl w2.heap.size (cel c) rfl rfl _ (cel (zer 20)) (alloc_new w2 _) (by rw [cel_size, HCL.out]; exact Tryd.sizeLei) (by rw [cel_size, cel_size, HCL.out]; rfl) (cel_one _) ?_; rw [World.setRow_alloc_new])
    have HX := hide (show (w2.alloc (.cells (cel c) 38)).drew.rangeAt w2.heap.size 0 (cel c).toList ∧ ErrType (w2.alloc (.cells (cel c) 38)).drew ∧ Below w.heap.size w (w2.alloc (.cells (cel c) 38)).drew from
      ⟨rng_new w2 c 38, HE.out.below ((hB2.out.alloc hB2.out.size _).drew), (hB2.out.alloc hB2.out.size _).drew⟩)
    haveI : Nonempty (Grown w w2.heap.size (cel c).toList) := ⟨⟨_, HX.out⟩⟩
    refine region_class (C := fun w' => ∃ x : Grown w w2.heap.size (cel c).toList, w' = x.1) (by kernel_rfl) (by kernel_rfl) ⟨⟨_, HX.out⟩, rfl⟩ ?_
    repeat (first
      | go_big_quiet_skip
      | (go_big_quiet_want; first
          | (refine quiet_load 38 (.tmp 5) rfl w2.heap.size rfl (cel c).toList _ (fun w' ⟨x, hx⟩ => by subst hx; exact x.2.1) Tryd.underlying38 rfl (by rw [Array.length_toList, cel_size, HCL.out]; exact Tryd.sizeLei) ?_; rw [Array.toArray_toList]; simp only [Act.put, List.setIfInBounds_toArray, List.set_cons_zero, List.set_cons_succ]; go_big_quiet_on)
          | (go_big_quiet_op; first
              | go_big_quiet_on
              | (apply Exists.intro; refine ⟨fun x => ?_, ?_⟩; (first
                  | (go_at_call 10; exact x.call (HTI.out x.1 x.2.2.1))
                  | (go_at_call 16; exact x.call (HLI.out x.1))); go_big_quiet_on))))
    refine wpQuiet_nil ?_
    rintro w3 ⟨x, rfl⟩
    obtain ⟨w3, hw3⟩ := x
    have HB3 : Hid (Below w.heap.size w w3) := hide hw3.2.2
    dsimp only
    clear hw3 HX this
    go_wp2_with fail
    refine (HRD.out _).mono ?_
    rintro e w4 ⟨rfl, hb4⟩
    go_wp2_with fail
    refine (HID.out _).mono ?_
    rintro e w5 ⟨rfl, hb5⟩
    have hB5 := (HB3.out.trans (hb4.mono HB3.out.size)).trans (hb5.mono (HB3.out.trans (hb4.mono HB3.out.size)).size)
    go_wp2_with fail
    refine (HTD.out _ (HE.out.below hB5)).mono ?_
    rintro e w6 ⟨rfl, hb6⟩
    go_wp2_with fail
    go_ret
    exact ⟨by simp, hB5.trans (hb6.mono hB5.size)⟩
  · have hneq := hneq1 hn
    have hb0 : (n == 0) = false := by simpa using hn
    have hb1 : (n != 0) = true := by simpa using hn
    clear hneq0 hneq1 HLI2 HZ2 hn
    go_enter Tryd.func4, Tryd.ntmps4
    go_wp2_with fail
    refine (HRI.out _).mono ?_
    rintro e w1 ⟨rfl, hb1⟩
    go_wp2_with fail
    refine (HIS.out _ (HE.out.below hb1)).mono ?_
    rintro e w2 ⟨rfl, hb2⟩
    have hB2 := hide (hb1.trans (hb2.mono hb1.size))
    clear hb1 hb2
    go_wp2_with (refine wpList_store_row rfl 38 (.tmp 5) _ rfl w2.heap.size (cel c) rfl rfl _ (cel (zer 20)) (alloc_new w2 _) (by rw [cel_size, HCL.out]; exact Tryd.sizeLei) (by rw [cel_size, cel_size, HCL.out]; rfl) (cel_one _) ?_; rw [World.setRow_alloc_new])
    have HX := hide (show (w2.alloc (.cells (cel c) 38)).drew.rangeAt w2.heap.size 0 (cel c).toList ∧ ErrType (w2.alloc (.cells (cel c) 38)).drew ∧ Below w.heap.size w (w2.alloc (.cells (cel c) 38)).drew from
      ⟨rng_new w2 c 38, HE.out.below ((hB2.out.alloc hB2.out.size _).drew), (hB2.out.alloc hB2.out.size _).drew⟩)
    haveI : Nonempty (Grown w w2.heap.size (cel c).toList) := ⟨⟨_, HX.out⟩⟩
    refine region_class (C := fun w' => ∃ x : Grown w w2.heap.size (cel c).toList, w' = x.1) (by kernel_rfl) (by kernel_rfl) ⟨⟨_, HX.out⟩, rfl⟩ ?_
    repeat (first
      | go_big_quiet_skip
      | (go_big_quiet_want; first
          | (refine quiet_load 38 (.tmp 5) rfl w2.heap.size rfl (cel c).toList _ (fun w' ⟨x, hx⟩ => by subst hx; exact x.2.1) Tryd.underlying38 rfl (by rw [Array.length_toList, cel_size, HCL.out]; exact Tryd.sizeLei) ?_; rw [Array.toArray_toList]; simp only [Act.put, List.setIfInBounds_toArray, List.set_cons_zero, List.set_cons_succ]; go_big_quiet_on)
          | (go_big_quiet_op; first
              | go_big_quiet_on
              | (apply Exists.intro; refine ⟨fun x => ?_, ?_⟩; (first
                  | (go_at_call 10; exact x.call (HTI.out x.1 x.2.2.1))
                  | (go_at_call 16; exact x.call (HLI.out x.1))); go_big_quiet_on))))
    refine wpQuiet_nil ?_
    rintro w3 ⟨x, rfl⟩
    obtain ⟨w3, hw3⟩ := x
    have HB3 : Hid (Below w.heap.size w w3) := hide hw3.2.2
    dsimp only
    clear hw3 HX this
    go_wp2_with fail
    refine (HRD.out _).mono ?_
    rintro e w4 ⟨rfl, hb4⟩
    go_wp2_with fail
    refine (HID.out _).mono ?_
    rintro e w5 ⟨rfl, hb5⟩
    have hB5 := (HB3.out.trans (hb4.mono HB3.out.size)).trans (hb5.mono (HB3.out.trans (hb4.mono HB3.out.size)).size)
    go_wp2_with fail
    refine (HTD.out _ (HE.out.below hB5)).mono ?_
    rintro e w6 ⟨rfl, hb6⟩
    go_wp2_with fail
    go_ret
    exact ⟨by simp, hB5.trans (hb6.mono hB5.size)⟩
end Go.Proofs.YtkpmmcekcpbilaaDoor
