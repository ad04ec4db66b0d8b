/-
  My own text: the closed law on amounts: sums, what the walk leans on.
-/
import Derived.Test.YthmbfdjbjljaiaaGreatDoorLSums
import Derived.Test.YthmbfdjbjljaiaaGreatDoorSumLaw
import Derived.Test.YthmbfdjbjljaiaaGreatDoorAK4
import Derived.Deep.RegionHeld3
import Derived.Deep.AppendLies
namespace Go.Proofs.YthmbfdjbjljaiaaGreatDoor
open Go.RowKit

structure RW (w W : World) : Prop where
  b : Below w.heap.size w W
  i : IB W w.heap.size 8 (-9223372036854775808) 9223372036854775807
theorem RW.step {w W w' : World} (h : RW w W) (hb : Below W.heap.size W w') : RW w w' ∧ ∀ j, w'.cell? ⟨w.heap.size, j, none⟩ = W.cell? ⟨w.heap.size, j, none⟩ :=
  ⟨⟨below_on h.b hb (Nat.le_refl _), h.i.low hb⟩, fun j => hb.cell (p := ⟨w.heap.size, j, none⟩) h.i.1⟩
def inR (l : List Int) : Prop := ∀ x ∈ l, -9223372036854775808 ≤ x ∧ x ≤ 9223372036854775807
theorem row_kept {w w' : World} {row : Option Nat} {B n : Nat} {e : TypeId} {v : Value} {xs : List Value} (hg : w.grownBy w' row) (h : w.ownsRow B e 1 v n xs) (hne : ∀ g, v.ownBlock = some g → row ≠ some g) : w'.ownsRow B e 1 v n xs := by
  obtain ⟨h1, h2⟩ := h
  refine ⟨h1, ?_⟩
  rcases h2 with h2 | ⟨g, cap, cur, rfl, hb, hh, h3⟩
  · exact .inl h2
  · refine .inr ⟨g, cap, cur, rfl, hb, ?_, h3⟩
    have hlt : g < w.heap.size := by
      by_cases hc : g < w.heap.size
      · exact hc
      · rw [Array.getElem?_eq_none (by omega)] at hh; cases hh
    rw [hg.block g hlt (fun e => hne g rfl e.symm)]
    exact hh
theorem row_lt {w : World} {B n : Nat} {e : TypeId} {v : Value} {xs : List Value} (h : w.ownsRow B e 1 v n xs) : ∀ g, v.ownBlock = some g → g < w.heap.size := by
  intro g hg
  rcases h.2 with ⟨rfl, _⟩ | ⟨g', cap, cur, rfl, hb, hh, h3⟩
  · cases hg
  · obtain rfl : g' = g := by simpa [Value.ownBlock] using hg
    by_cases hc : g' < w.heap.size
    · exact hc
    · rw [Array.getElem?_eq_none (by omega)] at hh; cases hh
/-- Two rows of their own, in blocks of their own. -/
structure Pair (W : World) (B n : Nat) (u d : Value) (lu ld : List Int) : Prop where
  ou : W.ownsRow B 2 1 u n (lv .i64 lu)
  od : W.ownsRow B 2 1 d n (lv .i64 ld)
  ap : ∀ g, u.ownBlock = some g → d.ownBlock ≠ some g
theorem row_len {w : World} {B n : Nat} {e : TypeId} {v : Value} {l : List Int} (h : w.ownsRow B e 1 v n (lv .i64 l)) : l.length = n := by
  have := h.1
  rw [lv_len] at this
  omega
/-- A row that has one number more, beside another. -/
theorem beside {W w' : World} {B n m g cap H : Nat} {u d : Value} {ld : List Int} (hd : W.ownsRow B 2 1 d m (lv .i64 ld)) (ap : ∀ g, u.ownBlock = some g → d.ownBlock ≠ some g)
    (hg : W.grownBy w' u.ownBlock) (hl : u.ownBlock = some g ∨ g = H) (hH : W.heap.size = H) : w'.ownsRow B 2 1 d m (lv .i64 ld) ∧ ∀ q, (Value.slice (some ⟨g, 0, none⟩) (n + 1) cap).ownBlock = some q → d.ownBlock ≠ some q := by
  refine ⟨row_kept hg hd (fun q hq e => ap q e hq), fun q hq e => ?_⟩
  have hq' : g = q := by simpa [Value.ownBlock] using hq
  subst hq'
  rcases hl with h | h
  · exact ap _ h e
  · have := row_lt hd _ e; omega
theorem RI.two (w : World) (x y : Int) (t : TypeId) : RI (w.alloc (.cells #[.int .i64 x, .int .i64 y] t)) .i64 (.slice (some ⟨w.heap.size, 0, none⟩) 2 2) [x, y] := RI.new w [x, y] t 2
theorem RI.four (w : World) (x y : Int) (t : TypeId) : RI (w.alloc (.cells #[.int .i64 x, .int .i64 y, .int .i64 x, .int .i64 (-1)] t)) .i64 (.slice (some ⟨w.heap.size, 0, none⟩) 4 4) [x, y, x, -1] := RI.new w [x, y, x, -1] t 4
theorem in2 {x y : Int} (x0 : -9223372036854775808 ≤ x) (x1 : x ≤ 9223372036854775807) (y0 : -9223372036854775808 ≤ y) (y1 : y ≤ 9223372036854775807) : inR [x, y] := fun z hz => by
  simp at hz; rcases hz with rfl | rfl <;> omega
theorem in4 {x y : Int} (x0 : -9223372036854775808 ≤ x) (x1 : x ≤ 9223372036854775807) (y0 : -9223372036854775808 ≤ y) (y1 : y ≤ 9223372036854775807) : inR [x, y, x, -1] := fun z hz => by
  simp at hz; rcases hz with rfl | rfl | rfl | rfl <;> omega
theorem sums_rw {w : World} (x y : Int) (hE : ErrType w) (x1 : x ≤ 9223372036854775807) (y1 : y ≤ 9223372036854775807) (W : World) (hW : RW w W) :
    Calls Tryz.prog 8 #[.int .i64 x, .int .i64 y] W fun e w' => e = .returned (.bool true) ∧ RW w w' ∧ ∀ j, w'.cell? ⟨w.heap.size, j, none⟩ = W.cell? ⟨w.heap.size, j, none⟩ :=
  (sums_law x y W (hE.below hW.b) x1 y1).mono fun _ _ h => ⟨h.1, hW.step h.2⟩
theorem sum2_rw {w : World} (x y : Int) (hE : ErrType w) (hl : inR [x, y]) (W : World) (hW : RW w W) :
    Calls Tryz.prog 9 #[.slice (some ⟨W.heap.size, 0, none⟩) 2 2] (W.alloc (.cells #[.int .i64 x, .int .i64 y] 2)) fun e w' => e = .returned (.bool true) ∧ RW w w' ∧ ∀ j, w'.cell? ⟨w.heap.size, j, none⟩ = W.cell? ⟨w.heap.size, j, none⟩ :=
  (sum_law (some ⟨W.heap.size, 0, none⟩) 2 [x, y] _ (hE.below (below_new hW.b (Nat.le_refl _) _)) (RI.two W x y _) (by simp) hl).mono fun _ _ h => ⟨h.1, hW.step (below_on ((Below.refl _ _).alloc (Nat.le_refl _) _) h.2 (Nat.le_refl _))⟩
theorem sum4_rw {w : World} (x y : Int) (hE : ErrType w) (hl : inR [x, y, x, -1]) (W : World) (hW : RW w W) :
    Calls Tryz.prog 9 #[.slice (some ⟨W.heap.size, 0, none⟩) 4 4] (W.alloc (.cells #[.int .i64 x, .int .i64 y, .int .i64 x, .int .i64 (-1)] 2)) fun e w' => e = .returned (.bool true) ∧ RW w w' ∧ ∀ j, w'.cell? ⟨w.heap.size, j, none⟩ = W.cell? ⟨w.heap.size, j, none⟩ :=
  (sum_law (some ⟨W.heap.size, 0, none⟩) 4 [x, y, x, -1] _ (hE.below (below_new hW.b (Nat.le_refl _) _)) (RI.four W x y _) (by simp) hl).mono fun _ _ h => ⟨h.1, hW.step (below_on ((Below.refl _ _).alloc (Nat.le_refl _) _) h.2 (Nat.le_refl _))⟩
end Go.Proofs.YthmbfdjbjljaiaaGreatDoor
