/-
  My own text: a block that is read, given what the reading of its items comes to.
-/
import Derived.Test.YtklhbhhkooddoaaQB
namespace Go.Proofs.Ytklhbhhkooddoaa
open Go.RowKit

theorem alloc3_newq (w : World) (a b c : Obj) : (((w.alloc a).alloc b).alloc c).heap[w.heap.size + 2]? = some c := by
  have h := alloc_new ((w.alloc a).alloc b) c
  have hs : ((w.alloc a).alloc b).heap.size = w.heap.size + 2 := by simp
  rw [hs] at h; exact h
theorem Try.sizeRdq : (Try.prog.info? 71).map (·.size) = some 2 := by kernel_rfl
set_option maxRecDepth 100000 in
set_option maxHeartbeats 2000000 in
theorem block_gone (T : List UInt8) (fv : Value) (n : Lin) (nm : List UInt8) (d : Nat) (p q : Nat) (no' m at_ : Int) (w : World) (hl : n.tx.length ≤ 1048576) (hd : d < 8) (hn : nameB nm = true) (hnl : nm.length ≤ 1048576)
    (hI : ∀ W : World, Below w.heap.size w W → Calls Try.prog 41 #[.agg (rdC T fv), .int .i64 ((d : Int) + 1), .string ⟨nm.toArray⟩] W fun e w' => e = gone no' m at_ ∧ Mv p q W w') :
    Calls Try.prog 50 #[.agg (rdC T fv), .agg (lnC n), .string ⟨nm.toArray⟩, .int .i64 (d : Int)] w fun e w' => e = gone no' m at_ ∧ Mv p q w w' := by
  have HI := hide hI
  clear hI
  obtain ⟨no, bg, tx, en⟩ := n
  dsimp only at hl
  have X0 : Hid (Lx (((w.alloc (.cells (rdC T fv) 71)).alloc (.cells (lnC ⟨no, bg, tx, en⟩) 78)).alloc (.cells #[.string ⟨#[]⟩, .string ⟨#[]⟩, .string ⟨#[]⟩, .string ⟨#[]⟩, .slice none 0 0] 26)) (w.heap.size + 1) ⟨no, bg, tx, en⟩) := hide (alloc_block (alloc2_newq w _ _))
  have B0 := hide ((((Below.refl w.heap.size w).alloc (Nat.le_refl _) (.cells (rdC T fv) 71)).alloc (by simp) (.cells (lnC ⟨no, bg, tx, en⟩) 78)).alloc (by simp; omega) (.cells #[.string ⟨#[]⟩, .string ⟨#[]⟩, .string ⟨#[]⟩, .string ⟨#[]⟩, .slice none 0 0] 26))
  have RX0 : Hid (Bk (((w.alloc (.cells (rdC T fv) 71)).alloc (.cells (lnC ⟨no, bg, tx, en⟩) 78)).alloc (.cells #[.string ⟨#[]⟩, .string ⟨#[]⟩, .string ⟨#[]⟩, .string ⟨#[]⟩, .slice none 0 0] 26)) w.heap.size (rdC T fv) 71) := hide (alloc_block (alloc_block (alloc_new w _)))
  have IX0 : Hid (Ix (((w.alloc (.cells (rdC T fv) 71)).alloc (.cells (lnC ⟨no, bg, tx, en⟩) 78)).alloc (.cells #[.string ⟨#[]⟩, .string ⟨#[]⟩, .string ⟨#[]⟩, .string ⟨#[]⟩, .slice none 0 0] 26)) (w.heap.size + 2) ⟨[], [], [], []⟩ (.slice none 0 0)) := hide (alloc3_newq w _ _ _)
  have c0 := X0.out.num
  have c1 := X0.out.beg
  have c2 := X0.out.text
  have c3 := X0.out.ends
  dsimp only at c0 c1 c2 c3
  have HR := hide (fun W : World => refuse_no ⟨no, bg, tx, en⟩ 5 1 W)
  have HR2 := hide (fun W : World => refuse_no ⟨no, bg, tx, en⟩ 4 ((tx.length : Int) - nm.length + 1) W)
  have HN : Hid (∀ W : World, Calls Try.prog 58 #[.string ⟨nm.toArray⟩] W fun e w' => e = .returned (.bool true) ∧ w' = W) := hide (fun W => by have := tIsName_any nm W (by omega); rw [hn] at this; exact this)
  have hdd : decide (8 ≤ (d : Int)) = false := decide_eq_false (by omega)
  go_enter Try.func50, Try.ntmps50
  go_wp2_with fail
  refine (HR.out _).mono ?_
  rintro e w1 ⟨rfl, hb1⟩
  have B1 := hide (B0.out.trans (hb1.mono B0.out.size))
  have X1 := hide (X0.out.later hb1)
  have R1 := hide (RX0.out.later hb1)
  have I1 := hide (IX0.out.later hb1)
  clear hb1 c0 c1 c2 c3
  have c0 := X1.out.num
  have c1 := X1.out.beg
  have c2 := X1.out.text
  have c3 := X1.out.ends
  dsimp only at c0 c1 c2 c3
  go_wp2_with fail
  refine region_tail 11 (by kernel_rfl) (by kernel_rfl) ?_
  simp only [List.take_succ_cons, List.take_zero, List.drop_succ_cons, List.drop_zero]
  repeat (first | still_step | still_call (HN.out _))
  refine wpStill_nil ?_
  go_wp2_with fail
  refine (HR2.out _).mono ?_
  rintro e w3 ⟨rfl, hb3⟩
  have B3 := hide (B1.out.drew.trans (hb3.mono B1.out.drew.size))
  have R3 : Hid (Bk w3 w.heap.size (rdC T fv) 71) := hide ((hb3.block w.heap.size R1.out.lt).trans R1.out)
  have I3 : Hid (Ix w3 (w.heap.size + 2) ⟨[], [], [], []⟩ (.slice none 0 0)) := hide ((hb3.block (w.heap.size + 2) I1.out.lt).trans I1.out)
  clear hb3 c0 c1 c2 c3
  go_wp2_with (refine wpList_load_row rfl 71 (.tmp 4) rfl w.heap.size rfl _ _ _ _ R3.out Try.underlying71 rfl Try.sizeRdq ?_)
  refine (HI.out _ B3.out).mono ?_
  rintro e w4 ⟨rfl, hmv⟩
  exact ⟨rfl, rfl, (Mv.of B3.out).trans hmv⟩
set_option maxRecDepth 100000 in
set_option maxHeartbeats 2000000 in
theorem block_ok (T : List UInt8) (fv : Value) (n : Lin) (nm : List UInt8) (d : Nat) (Φ : World → Option Addr → Nat → Nat → World → Prop) (w : World) (hl : n.tx.length ≤ 1048576) (hd : d < 8) (hn : nameB nm = true) (hnl : nm.length ≤ 1048576)
    (hI : ∀ W : World, Below w.heap.size w W → Calls Try.prog 41 #[.agg (rdC T fv), .int .i64 ((d : Int) + 1), .string ⟨nm.toArray⟩] W fun e w' => ∃ a k cap, e = .returned (.slice a k cap) ∧ Φ W a k cap w' ∧ (∀ g, g < W.heap.size → w.heap.size ≤ g → w'.heap[g]? = W.heap[g]?)) :
    Calls Try.prog 50 #[.agg (rdC T fv), .agg (lnC n), .string ⟨nm.toArray⟩, .int .i64 (d : Int)] w fun e w' => ∃ W a k cap w1, Below w.heap.size w W ∧ w.heap.size + 2 < W.heap.size ∧ Φ W a k cap w1 ∧ e = .returned (.agg (iC ⟨[], [], [], nm⟩ (.slice a k cap))) ∧ w' = w1.setRow (w.heap.size + 2) (iC ⟨[], [], [], nm⟩ (.slice a k cap)) := by
  have HI := hide hI
  clear hI
  obtain ⟨no, bg, tx, en⟩ := n
  dsimp only at hl
  have X0 : Hid (Lx (((w.alloc (.cells (rdC T fv) 71)).alloc (.cells (lnC ⟨no, bg, tx, en⟩) 78)).alloc (.cells #[.string ⟨#[]⟩, .string ⟨#[]⟩, .string ⟨#[]⟩, .string ⟨#[]⟩, .slice none 0 0] 26)) (w.heap.size + 1) ⟨no, bg, tx, en⟩) := hide (alloc_block (alloc2_newq w _ _))
  have B0 := hide ((((Below.refl w.heap.size w).alloc (Nat.le_refl _) (.cells (rdC T fv) 71)).alloc (by simp) (.cells (lnC ⟨no, bg, tx, en⟩) 78)).alloc (by simp; omega) (.cells #[.string ⟨#[]⟩, .string ⟨#[]⟩, .string ⟨#[]⟩, .string ⟨#[]⟩, .slice none 0 0] 26))
  have RX0 : Hid (Bk (((w.alloc (.cells (rdC T fv) 71)).alloc (.cells (lnC ⟨no, bg, tx, en⟩) 78)).alloc (.cells #[.string ⟨#[]⟩, .string ⟨#[]⟩, .string ⟨#[]⟩, .string ⟨#[]⟩, .slice none 0 0] 26)) w.heap.size (rdC T fv) 71) := hide (alloc_block (alloc_block (alloc_new w _)))
  have IX0 : Hid (Ix (((w.alloc (.cells (rdC T fv) 71)).alloc (.cells (lnC ⟨no, bg, tx, en⟩) 78)).alloc (.cells #[.string ⟨#[]⟩, .string ⟨#[]⟩, .string ⟨#[]⟩, .string ⟨#[]⟩, .slice none 0 0] 26)) (w.heap.size + 2) ⟨[], [], [], []⟩ (.slice none 0 0)) := hide (alloc3_newq w _ _ _)
  have c0 := X0.out.num
  have c1 := X0.out.beg
  have c2 := X0.out.text
  have c3 := X0.out.ends
  dsimp only at c0 c1 c2 c3
  have HR := hide (fun W : World => refuse_no ⟨no, bg, tx, en⟩ 5 1 W)
  have HR2 := hide (fun W : World => refuse_no ⟨no, bg, tx, en⟩ 4 ((tx.length : Int) - nm.length + 1) W)
  have HN : Hid (∀ W : World, Calls Try.prog 58 #[.string ⟨nm.toArray⟩] W fun e w' => e = .returned (.bool true) ∧ w' = W) := hide (fun W => by have := tIsName_any nm W (by omega); rw [hn] at this; exact this)
  have hdd : decide (8 ≤ (d : Int)) = false := decide_eq_false (by omega)
  go_enter Try.func50, Try.ntmps50
  go_wp2_with fail
  refine (HR.out _).mono ?_
  rintro e w1 ⟨rfl, hb1⟩
  have B1 := hide (B0.out.trans (hb1.mono B0.out.size))
  have X1 := hide (X0.out.later hb1)
  have R1 := hide (RX0.out.later hb1)
  have I1 := hide (IX0.out.later hb1)
  clear hb1 c0 c1 c2 c3
  have c0 := X1.out.num
  have c1 := X1.out.beg
  have c2 := X1.out.text
  have c3 := X1.out.ends
  dsimp only at c0 c1 c2 c3
  go_wp2_with fail
  refine region_tail 11 (by kernel_rfl) (by kernel_rfl) ?_
  simp only [List.take_succ_cons, List.take_zero, List.drop_succ_cons, List.drop_zero]
  repeat (first | still_step | still_call (HN.out _))
  refine wpStill_nil ?_
  go_wp2_with fail
  refine (HR2.out _).mono ?_
  rintro e w3 ⟨rfl, hb3⟩
  have B3 := hide (B1.out.drew.trans (hb3.mono B1.out.drew.size))
  have R3 : Hid (Bk w3 w.heap.size (rdC T fv) 71) := hide ((hb3.block w.heap.size R1.out.lt).trans R1.out)
  have I3 : Hid (Ix w3 (w.heap.size + 2) ⟨[], [], [], []⟩ (.slice none 0 0)) := hide ((hb3.block (w.heap.size + 2) I1.out.lt).trans I1.out)
  clear hb3 c0 c1 c2 c3
  go_wp2_with (refine wpList_load_row rfl 71 (.tmp 4) rfl w.heap.size rfl _ _ _ _ R3.out Try.underlying71 rfl Try.sizeRdq ?_)
  refine (HI.out _ B3.out).mono ?_
  rintro e w4 ⟨a, k, cap, rfl, hΦ, hk⟩
  have I4 : Hid (Ix w4 (w.heap.size + 2) ⟨[], [], [], []⟩ (.slice none 0 0)) := hide ((hk (w.heap.size + 2) I3.out.lt (by omega)).trans I3.out)
  go_wp2_with (refine wpList_store_row rfl 26 (.tmp 8) _ rfl (w.heap.size + 2) (iC ⟨[], [], [], nm⟩ (.slice a k cap)) rfl rfl _ _ I4.out Try.sizeItm rfl (iC_one _ _ _ _) ?_)
  (try simp only [Exit.inBlock, Exit.then])
  refine bodyPost_ret (v := .agg (iC ⟨[], [], [], nm⟩ (.slice a k cap))) ?_ rfl ⟨w3, a, k, cap, w4, B3.out, I3.out.lt, hΦ, rfl, rfl⟩
  exact results_cell_row rfl _ _ (w.heap.size + 2) 26 (iC ⟨[], [], [], nm⟩ (.slice a k cap)) (0, 0) _ rfl (setRow_heap _ _ _ _ _ _ I4.out) Try.underlying26 rfl Try.sizeItm
end Go.Proofs.Ytklhbhhkooddoaa
