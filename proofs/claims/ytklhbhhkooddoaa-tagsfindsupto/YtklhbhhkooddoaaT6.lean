/-
  My own text: what is wrong with an item: check, the program's, and wrong, the document's (printed by mkt6.py).
-/
import Derived.Test.YtklhbhhkooddoaaT5
namespace Go.Proofs.Ytklhbhhkooddoaa
open Go.RowKit

theorem Try.sizeItm : (Try.prog.info? 26).map (·.size) = some 5 := by kernel_rfl
theorem itemE_field {i : Itm} {n : Nat} {d : Int} (h : i.tag.isEmpty = false) : itemE i n d = fieldE i n := by unfold itemE; rw [h]; rfl
theorem itemE_none {i : Itm} {n : Nat} {d : Int} (h : i.tag.isEmpty = true) (h2 : i.name.isEmpty = true) : itemE i n d = 24 := by unfold itemE; rw [h, h2]; rfl
theorem itemE_block {i : Itm} {n : Nat} {d : Int} (h : i.tag.isEmpty = true) (h2 : i.name.isEmpty = false) : itemE i n d = blockE i d := by unfold itemE; rw [h, h2]; rfl
set_option maxRecDepth 100000 in
set_option maxHeartbeats 4000000 in
theorem check_any (i : Itm) (n cap : Nat) (a : Option Addr) (d : Int) (w : World) (hi : IOk i) :
    Calls Try.prog 36 #[.agg (iC i (.slice a n cap)), .int .i64 d] w fun e w' => e = .returned (errV (itemE i n d)) ∧ Below w.heap.size w w' := by
  have X0 := hide (Ix.new w i (.slice a n cap))
  have B0 := hide ((Below.refl w.heap.size w).alloc (Nat.le_refl _) (.cells (iC i (.slice a n cap)) 26))
  have HF := hide (fun W : World => isField_any i (.slice a n cap) W)
  have HB := hide (fun W : World => isBlock_any i (.slice a n cap) W)
  have HCF := hide (fun W : World => checkField_any i n cap a W hi)
  have HCB := hide (fun W : World => checkBlock_any i (.slice a n cap) d W hi)
  clear hi
  cases ht : i.tag.isEmpty
  · rw [itemE_field ht]
    rw [ht] at HF
    try dsimp only [Bool.not_false] at HF
    go_enter Try.func36, Try.ntmps36
    go_wp2_with (refine wpList_load_row rfl 26 (.tmp 2) rfl w.heap.size rfl _ (iC i (.slice a n cap)) _ _ X0.out Try.underlying26 rfl Try.sizeItm ?_)
    refine (HF.out _).mono ?_
    rintro e w1 ⟨rfl, hb1⟩
    have X1 := hide (X0.out.later hb1)
    have B1 := hide (B0.out.trans (hb1.mono B0.out.size))
    clear hb1 X0 B0
    go_wp2_with (refine wpList_load_row rfl 26 (.tmp 2) rfl w.heap.size rfl _ (iC i (.slice a n cap)) _ _ X1.out Try.underlying26 rfl Try.sizeItm ?_)
    refine (HCF.out _).mono ?_
    rintro e w2 ⟨rfl, hb2⟩
    have X2 := hide (X1.out.later hb2)
    have B2 := hide (B1.out.trans (hb2.mono B1.out.size))
    clear hb2 X1 B1
    go_wp2_with (fail)
    go_ret
    exact ⟨rfl, B2.out⟩
  · rw [ht] at HF HB
    try dsimp only [Bool.not_true] at HF
    cases hn : i.name.isEmpty
    · rw [itemE_block ht hn]
      rw [hn] at HB
      try dsimp only [Bool.not_false, Bool.and_self] at HB
      go_enter Try.func36, Try.ntmps36
      go_wp2_with (refine wpList_load_row rfl 26 (.tmp 2) rfl w.heap.size rfl _ (iC i (.slice a n cap)) _ _ X0.out Try.underlying26 rfl Try.sizeItm ?_)
      refine (HF.out _).mono ?_
      rintro e w1 ⟨rfl, hb1⟩
      have X1 := hide (X0.out.later hb1)
      have B1 := hide (B0.out.trans (hb1.mono B0.out.size))
      clear hb1 X0 B0
      go_wp2_with (refine wpList_load_row rfl 26 (.tmp 2) rfl w.heap.size rfl _ (iC i (.slice a n cap)) _ _ X1.out Try.underlying26 rfl Try.sizeItm ?_)
      refine (HB.out _).mono ?_
      rintro e w2 ⟨rfl, hb2⟩
      have X2 := hide (X1.out.later hb2)
      have B2 := hide (B1.out.trans (hb2.mono B1.out.size))
      clear hb2 X1 B1
      go_wp2_with (refine wpList_load_row rfl 26 (.tmp 2) rfl w.heap.size rfl _ (iC i (.slice a n cap)) _ _ X2.out Try.underlying26 rfl Try.sizeItm ?_)
      refine (HCB.out _).mono ?_
      rintro e w3 ⟨rfl, hb3⟩
      have X3 := hide (X2.out.later hb3)
      have B3 := hide (B2.out.trans (hb3.mono B2.out.size))
      clear hb3 X2 B2
      go_wp2_with (fail)
      go_ret
      exact ⟨rfl, B3.out⟩
    · rw [itemE_none ht hn]
      rw [hn] at HB
      try dsimp only [Bool.not_true, Bool.and_false] at HB
      go_enter Try.func36, Try.ntmps36
      go_wp2_with (refine wpList_load_row rfl 26 (.tmp 2) rfl w.heap.size rfl _ (iC i (.slice a n cap)) _ _ X0.out Try.underlying26 rfl Try.sizeItm ?_)
      refine (HF.out _).mono ?_
      rintro e w1 ⟨rfl, hb1⟩
      have X1 := hide (X0.out.later hb1)
      have B1 := hide (B0.out.trans (hb1.mono B0.out.size))
      clear hb1 X0 B0
      go_wp2_with (refine wpList_load_row rfl 26 (.tmp 2) rfl w.heap.size rfl _ (iC i (.slice a n cap)) _ _ X1.out Try.underlying26 rfl Try.sizeItm ?_)
      refine (HB.out _).mono ?_
      rintro e w2 ⟨rfl, hb2⟩
      have X2 := hide (X1.out.later hb2)
      have B2 := hide (B1.out.trans (hb2.mono B1.out.size))
      clear hb2 X1 B1
      go_wp2_with (fail)
      go_ret
      exact ⟨rfl, B2.out⟩
end Go.Proofs.Ytklhbhhkooddoaa
