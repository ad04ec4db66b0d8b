/-
  My own text: a block that is refused.
-/
import Derived.Test.YtklhbhhkooddoaaQ9
namespace Go.Proofs.Ytklhbhhkooddoaa
open Go.RowKit

set_option maxRecDepth 100000 in
set_option maxHeartbeats 2000000 in
theorem block_deep (rc : Array Value) (n : Lin) (nm : List UInt8) (d : Nat) (w : World) (hl : n.tx.length ≤ 1048576) (hd : 8 ≤ d) (hd2 : d ≤ 1000) :
    Calls Try.prog 50 #[.agg rc, .agg (lnC n), .string ⟨nm.toArray⟩, .int .i64 (d : Int)] w fun e w' => e = gone 5 n.no 1 ∧ Below w.heap.size w w' := by
  obtain ⟨no, bg, tx, en⟩ := n
  dsimp only at hl
  have X0 : Hid (Lx (((w.alloc (.cells rc 71)).alloc (.cells (lnC ⟨no, bg, tx, en⟩) 78)).alloc (.cells #[.string ⟨#[]⟩, .string ⟨#[]⟩, .string ⟨#[]⟩, .string ⟨#[]⟩, .slice none 0 0] 26)) (w.heap.size + 1) ⟨no, bg, tx, en⟩) := hide (alloc_block (alloc2_newq w _ _))
  have B0 := hide ((((Below.refl w.heap.size w).alloc (Nat.le_refl _) (.cells rc 71)).alloc (by simp) (.cells (lnC ⟨no, bg, tx, en⟩) 78)).alloc (by simp; omega) (.cells #[.string ⟨#[]⟩, .string ⟨#[]⟩, .string ⟨#[]⟩, .string ⟨#[]⟩, .slice none 0 0] 26))
  have c0 := X0.out.num
  have c1 := X0.out.beg
  have c2 := X0.out.text
  have c3 := X0.out.ends
  dsimp only at c0 c1 c2 c3
  have HR := hide (fun W : World => refuse_yes ⟨no, bg, tx, en⟩ 5 1 W)
  have hdd : decide (8 ≤ (d : Int)) = true := decide_eq_true (by omega)
  go_enter Try.func50, Try.ntmps50
  go_wp2_with fail
  refine (HR.out _).mono ?_
  rintro e w1 ⟨rfl, hb1⟩
  exact ⟨rfl, rfl, B0.out.trans (hb1.mono B0.out.size)⟩
set_option maxRecDepth 100000 in
set_option maxHeartbeats 2000000 in
theorem block_name (rc : Array Value) (n : Lin) (nm : List UInt8) (d : Nat) (w : World) (hl : n.tx.length ≤ 1048576) (hd : d < 8) (hn : nameB nm = false) (hnl : nm.length ≤ 1048576) :
    Calls Try.prog 50 #[.agg rc, .agg (lnC n), .string ⟨nm.toArray⟩, .int .i64 (d : Int)] w fun e w' => e = gone 4 n.no ((n.tx.length : Int) - nm.length + 1) ∧ Below w.heap.size w w' := by
  obtain ⟨no, bg, tx, en⟩ := n
  dsimp only at hl
  have X0 : Hid (Lx (((w.alloc (.cells rc 71)).alloc (.cells (lnC ⟨no, bg, tx, en⟩) 78)).alloc (.cells #[.string ⟨#[]⟩, .string ⟨#[]⟩, .string ⟨#[]⟩, .string ⟨#[]⟩, .slice none 0 0] 26)) (w.heap.size + 1) ⟨no, bg, tx, en⟩) := hide (alloc_block (alloc2_newq w _ _))
  have B0 := hide ((((Below.refl w.heap.size w).alloc (Nat.le_refl _) (.cells rc 71)).alloc (by simp) (.cells (lnC ⟨no, bg, tx, en⟩) 78)).alloc (by simp; omega) (.cells #[.string ⟨#[]⟩, .string ⟨#[]⟩, .string ⟨#[]⟩, .string ⟨#[]⟩, .slice none 0 0] 26))
  have c0 := X0.out.num
  have c1 := X0.out.beg
  have c2 := X0.out.text
  have c3 := X0.out.ends
  dsimp only at c0 c1 c2 c3
  have HR := hide (fun W : World => refuse_no ⟨no, bg, tx, en⟩ 5 1 W)
  have HR2 := hide (fun W : World => refuse_yes ⟨no, bg, tx, en⟩ 4 ((tx.length : Int) - nm.length + 1) W)
  have HN : Hid (∀ W : World, Calls Try.prog 58 #[.string ⟨nm.toArray⟩] W fun e w' => e = .returned (.bool false) ∧ w' = W) := hide (fun W => by have := tIsName_any nm W (by omega); rw [hn] at this; exact this)
  have hdd : decide (8 ≤ (d : Int)) = false := decide_eq_false (by omega)
  go_enter Try.func50, Try.ntmps50
  go_wp2_with fail
  refine (HR.out _).mono ?_
  rintro e w1 ⟨rfl, hb1⟩
  have B1 := hide (B0.out.trans (hb1.mono B0.out.size))
  have X1 := hide (X0.out.later hb1)
  clear hb1 c0 c1 c2 c3
  have c0 := X1.out.num
  have c1 := X1.out.beg
  have c2 := X1.out.text
  have c3 := X1.out.ends
  dsimp only at c0 c1 c2 c3
  go_wp2_with fail
  refine region_tail 11 (by kernel_rfl) (by kernel_rfl) ?_
  simp only [List.take_succ_cons, List.take_zero, List.drop_succ_cons, List.drop_zero]
  repeat (first | still_step | still_call (HN.out _))
  refine wpStill_nil ?_
  go_wp2_with fail
  refine (HR2.out _).mono ?_
  rintro e w3 ⟨rfl, hb3⟩
  exact ⟨rfl, rfl, B1.out.drew.trans (hb3.mono B1.out.drew.size)⟩
end Go.Proofs.Ytklhbhhkooddoaa
