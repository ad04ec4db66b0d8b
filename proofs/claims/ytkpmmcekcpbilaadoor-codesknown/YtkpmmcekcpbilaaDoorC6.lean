/-
  My own text: the law on numbers of securities: its walk.
-/
import Derived.Test.YtkpmmcekcpbilaaDoorC5
namespace Go.Proofs.YtkpmmcekcpbilaaDoor
open Go.RowKit

set_option maxRecDepth 100000 in
set_option maxHeartbeats 4000000 in
theorem isin_law (l : List UInt8) (w : World) (hE : ErrType w) (hl : l.length ≤ 140737488355328) :
    Calls Tryd.prog 3 #[.string ⟨l.toArray⟩] w fun e w' => e = .returned (.bool true) ∧ Below w.heap.size w w' := by
  have HE := hide hE
  have H6 := hide (err6_isin l)
  have H6d := hide (err6_form l isinH)
  have HIS := hide (fun W : World => isin_any l W hl)
  have HRI := hide (fun W : World => refIsin_any l W hl)
  have HID := hide (fun W : World => isinDigit_any l W hl)
  have HRD := hide (fun W : World => refIsinDigit_any l W hl)
  have HLI := hide (fun W : World => lawIsin_any l W hl)
  have HTD := hide (fun W : World => told_any (formR l isinH) W H6d.out)
  have HTI := hide (fun W : World => told_any (isinR l) W H6.out)
  have HLEN := hide (isinR_len (l := l))
  clear hE
  obtain ⟨n, at0, hr⟩ : ∃ n at0, isinR l = (n, at0) := ⟨_, _, rfl⟩
  rw [hr] at HIS HRI HTI HLEN
  obtain ⟨m, at1, hd⟩ : ∃ m at1, formR l isinH = (m, at1) := ⟨_, _, rfl⟩
  rw [hd] at HID HRD HTD
  clear hr hd H6 H6d
  dsimp only at HIS HRI HTI HLEN HID HRD HTD
  obtain ⟨ev, Hev⟩ : ∃ ev, Hid (errF (n, at0) = ev) := ⟨_, hide rfl⟩
  obtain ⟨dv', Hdv⟩ : ∃ ev, Hid (errF (m, at1) = ev) := ⟨_, hide rfl⟩
  obtain ⟨dg, Hdg⟩ : ∃ dg, Hid (digV l = dg) := ⟨_, hide rfl⟩
  rw [Hev.out] at HIS HTI
  rw [Hdv.out] at HID HTD
  rw [Hdg.out] at HID HRD
  clear Hev Hdv Hdg
  obtain ⟨c, HC⟩ : ∃ c, Hid ((if n = 0 then l else zer 12) = c) := ⟨_, hide rfl⟩
  have HCL : Hid (c.length = 12) := by
    show c.length = 12
    rw [← HC.out]
    by_cases hn : n = 0
    · rw [if_pos hn]; exact HLEN.out hn
    · rw [if_neg hn]; rfl
  have HLI2 : Hid (n = 0 → pad 12 l = c) := hide (fun hn => by rw [← HC.out, if_pos hn]; exact pad_self (HLEN.out hn))
  have HZ2 : Hid (n ≠ 0 → c = zer 12) := hide (fun hn => by rw [← HC.out, if_neg hn])
  rw [HC.out] at HIS
  clear HC HLEN
  unfold arr at HIS HLI
  obtain ⟨d, HD⟩ : ∃ d, Hid (pad 12 l = d) := ⟨_, hide rfl⟩
  rw [HD.out] at HLI HLI2
  have HDL : Hid (d.length = 12) := by show d.length = 12; rw [← HD.out, pad_len]
  clear HD
  have hneq0 : n = 0 → ∀ W : World, (binOp .neq 25 (.agg (cel c)) (.agg (cel d))).run Tryd.prog W = .ok (.bool false) W := fun hn W => by
    rw [run_neq_cel Tryd.underlying25 c d HCL.out HDL.out W, decide_eq_true (HLI2.out hn).symm]; rfl
  have hneq1 : n ≠ 0 → ∀ W : World, (binOp .neq 25 (.agg (cel c)) (.agg #[.int .u8 0, .int .u8 0, .int .u8 0, .int .u8 0, .int .u8 0, .int .u8 0, .int .u8 0, .int .u8 0, .int .u8 0, .int .u8 0, .int .u8 0, .int .u8 0])).run Tryd.prog W = .ok (.bool false) W := fun hn W => by
    have h := run_neq_cel Tryd.underlying25 c (zer 12) HCL.out rfl W
    rw [decide_eq_true (HZ2.out hn)] at h; exact h
  by_cases hn : n = 0
  · have hneq := hneq0 hn
    subst hn
    clear hneq0 hneq1 HLI2 HZ2
    go_enter Tryd.func3, Tryd.ntmps3
    go_wp2_with fail
    refine (HRI.out _).mono ?_
    rintro e w1 ⟨rfl, hb1⟩
    go_wp2_with fail
    refine (HIS.out _).mono ?_
    rintro e w2 ⟨rfl, hb2⟩
    have hB2 := hide (hb1.trans (hb2.mono hb1.size))
    clear hb1 hb2
    go_wp2_with (refine wpList_store_row rfl 25 (.tmp 5) _ rfl w2.heap.size (cel c) rfl rfl _ (cel (zer 12)) (alloc_new w2 _) (by rw [cel_size, HCL.out]; exact Tryd.sizeIsin) (by rw [cel_size, cel_size, HCL.out]; rfl) (cel_one _) ?_; rw [World.setRow_alloc_new])
    have HX := hide (show (w2.alloc (.cells (cel c) 25)).drew.rangeAt w2.heap.size 0 (cel c).toList ∧ ErrType (w2.alloc (.cells (cel c) 25)).drew ∧ Below w.heap.size w (w2.alloc (.cells (cel c) 25)).drew from
      ⟨rng_new w2 c 25, HE.out.below ((hB2.out.alloc hB2.out.size _).drew), (hB2.out.alloc hB2.out.size _).drew⟩)
    haveI : Nonempty (Grown w w2.heap.size (cel c).toList) := ⟨⟨_, HX.out⟩⟩
    refine region_class (C := fun w' => ∃ x : Grown w w2.heap.size (cel c).toList, w' = x.1) (by kernel_rfl) (by kernel_rfl) ⟨⟨_, HX.out⟩, rfl⟩ ?_
    repeat (first
      | go_big_quiet_skip
      | (go_big_quiet_want; first
          | (refine quiet_load 25 (.tmp 5) rfl w2.heap.size rfl (cel c).toList _ (fun w' ⟨x, hx⟩ => by subst hx; exact x.2.1) Tryd.underlying25 rfl (by rw [Array.length_toList, cel_size, HCL.out]; exact Tryd.sizeIsin) ?_; rw [Array.toArray_toList]; simp only [Act.put, List.setIfInBounds_toArray, List.set_cons_zero, List.set_cons_succ]; go_big_quiet_on)
          | (go_big_quiet_op; first
              | go_big_quiet_on
              | (apply Exists.intro; refine ⟨fun x => ?_, ?_⟩; (first
                  | (go_at_call 10; exact x.call (HTI.out x.1 x.2.2.1))
                  | (go_at_call 11; exact x.call (HLI.out x.1))); go_big_quiet_on))))
    refine wpQuiet_nil ?_
    rintro w3 ⟨x, rfl⟩
    obtain ⟨w3, hw3⟩ := x
    have HB3 : Hid (Below w.heap.size w w3) := hide hw3.2.2
    dsimp only
    clear hw3 HX this
    go_wp2_with fail
    refine (HRD.out _).mono ?_
    rintro e w4 ⟨rfl, hb4⟩
    go_wp2_with fail
    refine (HID.out _).mono ?_
    rintro e w5 ⟨rfl, hb5⟩
    have hB5 := (HB3.out.trans (hb4.mono HB3.out.size)).trans (hb5.mono (HB3.out.trans (hb4.mono HB3.out.size)).size)
    go_wp2_with fail
    refine (HTD.out _ (HE.out.below hB5)).mono ?_
    rintro e w6 ⟨rfl, hb6⟩
    go_wp2_with fail
    go_ret
    exact ⟨by simp, hB5.trans (hb6.mono hB5.size)⟩
  · have hneq := hneq1 hn
    have hb0 : (n == 0) = false := by simpa using hn
    have hb1 : (n != 0) = true := by simpa using hn
    clear hneq0 hneq1 HLI2 HZ2 hn
    go_enter Tryd.func3, Tryd.ntmps3
    go_wp2_with fail
    refine (HRI.out _).mono ?_
    rintro e w1 ⟨rfl, hb1⟩
    go_wp2_with fail
    refine (HIS.out _).mono ?_
    rintro e w2 ⟨rfl, hb2⟩
    have hB2 := hide (hb1.trans (hb2.mono hb1.size))
    clear hb1 hb2
    go_wp2_with (refine wpList_store_row rfl 25 (.tmp 5) _ rfl w2.heap.size (cel c) rfl rfl _ (cel (zer 12)) (alloc_new w2 _) (by rw [cel_size, HCL.out]; exact Tryd.sizeIsin) (by rw [cel_size, cel_size, HCL.out]; rfl) (cel_one _) ?_; rw [World.setRow_alloc_new])
    have HX := hide (show (w2.alloc (.cells (cel c) 25)).drew.rangeAt w2.heap.size 0 (cel c).toList ∧ ErrType (w2.alloc (.cells (cel c) 25)).drew ∧ Below w.heap.size w (w2.alloc (.cells (cel c) 25)).drew from
      ⟨rng_new w2 c 25, HE.out.below ((hB2.out.alloc hB2.out.size _).drew), (hB2.out.alloc hB2.out.size _).drew⟩)
    haveI : Nonempty (Grown w w2.heap.size (cel c).toList) := ⟨⟨_, HX.out⟩⟩
    refine region_class (C := fun w' => ∃ x : Grown w w2.heap.size (cel c).toList, w' = x.1) (by kernel_rfl) (by kernel_rfl) ⟨⟨_, HX.out⟩, rfl⟩ ?_
    repeat (first
      | go_big_quiet_skip
      | (go_big_quiet_want; first
          | (refine quiet_load 25 (.tmp 5) rfl w2.heap.size rfl (cel c).toList _ (fun w' ⟨x, hx⟩ => by subst hx; exact x.2.1) Tryd.underlying25 rfl (by rw [Array.length_toList, cel_size, HCL.out]; exact Tryd.sizeIsin) ?_; rw [Array.toArray_toList]; simp only [Act.put, List.setIfInBounds_toArray, List.set_cons_zero, List.set_cons_succ]; go_big_quiet_on)
          | (go_big_quiet_op; first
              | go_big_quiet_on
              | (apply Exists.intro; refine ⟨fun x => ?_, ?_⟩; (first
                  | (go_at_call 10; exact x.call (HTI.out x.1 x.2.2.1))
                  | (go_at_call 11; exact x.call (HLI.out x.1))); go_big_quiet_on))))
    refine wpQuiet_nil ?_
    rintro w3 ⟨x, rfl⟩
    obtain ⟨w3, hw3⟩ := x
    have HB3 : Hid (Below w.heap.size w w3) := hide hw3.2.2
    dsimp only
    clear hw3 HX this
    go_wp2_with fail
    refine (HRD.out _).mono ?_
    rintro e w4 ⟨rfl, hb4⟩
    go_wp2_with fail
    refine (HID.out _).mono ?_
    rintro e w5 ⟨rfl, hb5⟩
    have hB5 := (HB3.out.trans (hb4.mono HB3.out.size)).trans (hb5.mono (HB3.out.trans (hb4.mono HB3.out.size)).size)
    go_wp2_with fail
    refine (HTD.out _ (HE.out.below hB5)).mono ?_
    rintro e w6 ⟨rfl, hb6⟩
    go_wp2_with fail
    go_ret
    exact ⟨by simp, hB5.trans (hb6.mono hB5.size)⟩
end Go.Proofs.YtkpmmcekcpbilaaDoor
