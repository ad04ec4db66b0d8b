/-
  My own text: the closed law GuardKnown: what it asks of the five laws; rows that are laid by literals.
-/
import Derived.Test.YtdiamlajmcikhaaGreatDoorG8
namespace Go.Proofs.YtdiamlajmcikhaaGreatDoor
open Go.RowKit

/-- The laws that the closed one asks, in every world that has grown out of w. -/
structure KG (w : World) : Prop where
  dec : ∀ (W : World) (v : Value) (L : List Int), Below w.heap.size w W → LN.RM W v L → L.length ≤ 1000 → Calls Tryz.prog 13 #[v] W fun e w' => e = .returned (.bool true) ∧ Below W.heap.size W w'
  enc : ∀ (W : World) (c a s q n i : Int) (lv pv : Value) (L : List LG.El) (P : List KY.El), Below w.heap.size w W → LG.RM W lv L → KY.RM W pv P → L.length ≤ 1000 → P.length ≤ 1000 → Calls Tryz.prog 14 #[.agg #[.int .i64 c, .int .i64 a, .int .i64 s, .int .i64 q, .int .i64 n, .int .i64 i, lv, pv]] W fun e w' => e = .returned (.bool true) ∧ Below W.heap.size W w'
  bck : ∀ (W : World) (v : Value) (L : List Int), Below w.heap.size w W → LN.RM W v L → L.length ≤ 1000 → Calls Tryz.prog 15 #[.agg #[.int .i64 0, .int .i64 0, .int .i64 0, .int .i64 0, .int .i64 0, .int .i64 0, .slice none 0 0, .slice none 0 0], .agg #[.int .i64 0, .int .i64 0, .int .i64 0, .int .i64 0, .int .i64 0, .int .i64 0, .slice none 0 0, .slice none 0 0], v] W fun e w' => e = .returned (.bool true) ∧ Below W.heap.size W w'
  chk : ∀ (W : World) (A S z0 z1 z2 c a s q n i : Int) (lv pv : Value) (L : List LG.El) (P : List KY.El), Below w.heap.size w W → LG.RM W lv L → KY.RM W pv P → L.length ≤ 1000 → P.length ≤ 1000 → Calls Tryz.prog 16 #[.agg #[.int .i64 A, .int .i64 S, .int .i64 z0, .int .i64 z1, .int .i64 z2], .agg #[.int .i64 c, .int .i64 a, .int .i64 s, .int .i64 q, .int .i64 n, .int .i64 i, lv, pv]] W fun e w' => e = .returned (.bool true) ∧ Below W.heap.size W w'
  fit : ∀ (W : World) (A S z0 z1 z2 : Int), Below w.heap.size w W → Calls Tryz.prog 19 #[.agg #[.int .i64 A, .int .i64 S, .int .i64 z0, .int .i64 z1, .int .i64 z2]] W fun e w' => e = .returned (.bool true) ∧ Below W.heap.size W w'
theorem KY.om_blk {w : World} {B g : Nat} {L : List KY.El} {A : Array Value} (hg : w.heap[g]? = some (.cells A 40 (0, 0))) (hA : A = (KY.mc L).toArray) (hB : B ≤ g) (hl : L.length ≤ 1000) :
    KY.OM w B (.slice (some ⟨g, 0, none⟩) L.length L.length) L := by
  subst hA
  refine ⟨by rw [KY.mc_len], .inr ⟨g, L.length, (KY.mc L).toArray, rfl, hB, hg, Nat.le_refl _, by unfold maxLen; omega, by simp [KY.mc_len], ?_⟩⟩
  rw [← KY.mc_len]
  simp
theorem LG.om_blk {w : World} {B g : Nat} {L : List LG.El} {A : Array Value} (hg : w.heap[g]? = some (.cells A 38 (0, 0))) (hA : A = (LG.mc L).toArray) (hB : B ≤ g) (hl : L.length ≤ 1000) :
    LG.OM w B (.slice (some ⟨g, 0, none⟩) L.length L.length) L := by
  subst hA
  refine ⟨by rw [LG.mc_len], .inr ⟨g, L.length, (LG.mc L).toArray, rfl, hB, hg, Nat.le_refl _, by unfold maxLen; omega, by simp [LG.mc_len], ?_⟩⟩
  rw [← LG.mc_len]
  simp
theorem LN.om_blk {w : World} {B g : Nat} {L : List Int} {A : Array Value} (hg : w.heap[g]? = some (.cells A 2 (0, 0))) (hA : A = (LN.mc L).toArray) (hB : B ≤ g) (hl : L.length ≤ 1000) :
    LN.OM w B (.slice (some ⟨g, 0, none⟩) L.length L.length) L := by
  subst hA
  refine ⟨by rw [LN.mc_len, Nat.mul_one], .inr ⟨g, L.length, (LN.mc L).toArray, rfl, hB, hg, Nat.le_refl _, by unfold maxLen; omega, by simp [LN.mc_len], ?_⟩⟩
  rw [Nat.mul_one, ← LN.mc_len]
  simp
/-- A number of a row of numbers that is laid. -/
theorem num_at {W : World} {g : Nat} {L : List Int} {A : Array Value} {t : TypeId} (h : W.heap[g]? = some (.cells A t (0, 0))) (hA : A = (LN.mc L).toArray) {i : Nat} (hi : i < L.length) : ∃ x : Int, W.cell? ⟨g, i, none⟩ = some (.int .i64 x) := by
  subst hA
  obtain ⟨x, hx⟩ := LN.some_at hi
  exact ⟨x, by rw [cell_of_row _ _ _ _ _ _ h]; simpa using LN.mc_at hx⟩
end Go.Proofs.YtdiamlajmcikhaaGreatDoor
