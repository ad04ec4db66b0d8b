/-
  My own text: the document's answer's sum.
-/
import Derived.Test.YtijklmanhghhpaaInts
import Derived.Test.YtijklmanhghhpaaOver
import Derived.Deep.RegionWith
import Derived.BigRegion
namespace Go.Proofs.Ytijklmanhghhpaa
open Go.RowKit

theorem hl_of (n : Int) : 0 ≤ loW n ∧ loW n < 18446744073709551616 ∧ Hid (hiW n * 18446744073709551616 + loW n = n) := ⟨(hl n).2.1, (hl n).2.2, (hl n).1⟩
theorem neg_wrap {x : Int} (h : x < 0) (h2 : -9223372036854775808 ≤ x) : IntKind.u64.wrap (-IntKind.u64.wrap x) = -x := by simp only [IntKind.wrap_u64]; omega
theorem neg_conv {d : Int} (h : 0 < d) (h2 : d ≤ 9223372036854775808) : wrap64 (IntKind.u64.wrap (-d)) = -d := by simp only [IntKind.wrap_u64, wrap64]; omega
theorem ret_ss {a b c d : Int} (h : a = c) (h' : b = d) : Ending.returned (.tuple #[.int .i64 a, .int .i64 b]) = .returned (.tuple #[.int .i64 c, .int .i64 d]) := by rw [h, h']
/-- A variable of two words, in whatever later world. -/
structure Duo (w : World) (b : Nat) (x y : Int) : Prop where
  lt : b < w.heap.size
  c0 : w.cell? ⟨b, 0, none⟩ = some (.int .u64 x)
  c1 : w.cell? ⟨b, 1, none⟩ = some (.int .u64 y)
  f0 : w.frozen? ⟨b, 0, none⟩ = false
  f1 : w.frozen? ⟨b, 1, none⟩ = false
theorem Duo.later {w w1 : World} {b : Nat} {x y : Int} (h : Duo w b x y) (hb : Below w.heap.size w w1) : Duo w1 b x y := by
  obtain ⟨hc, hf⟩ := bcell hb
  exact ⟨Nat.lt_of_lt_of_le h.lt hb.size, (hc _ _ h.lt).trans h.c0, (hc _ _ h.lt).trans h.c1, (hf _ _ h.lt).trans h.f0, (hf _ _ h.lt).trans h.f1⟩
theorem Duo.new (w : World) (x y : Int) (t : TypeId) : Duo (w.alloc (.cells #[.int .u64 x, .int .u64 y] t)) w.heap.size x y := by
  refine ⟨by simp, ?_, ?_, ?_, ?_⟩ <;> simp
theorem Duo.set {w : World} {b b' : Nat} {x y : Int} (h : Duo w b x y) (u v : Int) (hne : b' ≠ b) : Duo ((w.setCell ⟨b', 0, none⟩ (.int .u64 u)).setCell ⟨b', 1, none⟩ (.int .u64 v)) b x y := by
  refine ⟨by simpa using h.lt, cell_other (cell_other h.c0 (Or.inl hne)) (Or.inl hne), cell_other (cell_other h.c1 (Or.inl hne)) (Or.inl hne), ?_, ?_⟩
  · rw [World.frozen?_setCell, World.frozen?_setCell]; exact h.f0
  · rw [World.frozen?_setCell, World.frozen?_setCell]; exact h.f1
theorem Duo.put {w : World} {b : Nat} {x y : Int} (h : Duo w b x y) (u v : Int) : Duo ((w.setCell ⟨b, 0, none⟩ (.int .u64 u)).setCell ⟨b, 1, none⟩ (.int .u64 v)) b u v := by
  refine ⟨by simpa using h.lt, cell_other (World.cell?_setCell_same _ _ _ h.c0) (by omega), World.cell?_setCell_same _ _ _ (cell_other h.c1 (by omega)), ?_, ?_⟩
  · rw [World.frozen?_setCell, World.frozen?_setCell]; exact h.f0
  · rw [World.frozen?_setCell, World.frozen?_setCell]; exact h.f1
theorem Duo.alloc {w : World} {b : Nat} {x y : Int} (h : Duo w b x y) (o : Obj) : Duo (w.alloc o) b x y := h.later ((Below.refl _ _).alloc (Nat.le_refl _) _)

end Go.Proofs.Ytijklmanhghhpaa
