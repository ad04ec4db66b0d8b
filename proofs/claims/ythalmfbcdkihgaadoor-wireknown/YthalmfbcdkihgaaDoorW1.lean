/-
  My own text: rows of bytes, what grows by append, the form of a number written.
-/
import Derived.Test.YthalmfbcdkihgaaDoorWMath
import Derived.Test.YthalmfbcdkihgaaDoorErr
import Derived.Deep.AppendLies
import Derived.Deep.OwnRows
import Derived.Laws.ShiftsVarLaws
namespace Go.Proofs.YthalmfbcdkihgaaDoor
open Go.RowKit Go.Extern

theorem info_parts {P : Program} {t : TypeId} {z : Value} {s b : Nat} (h : (P.info? t).map (fun i => (i.zero, i.size, i.bytes)) = some (some z, s, b)) : ∃ i, P.info? t = some i ∧ i.zero = some z ∧ i.size = s ∧ i.bytes = b := by
  obtain ⟨i, hi, hz⟩ := Option.map_eq_some_iff.1 h
  simp only [Prod.mk.injEq] at hz
  exact ⟨i, hi, hz.1, hz.2.1, hz.2.2⟩
theorem Tryd.infoB : (Tryd.prog.info? 5).map (fun i => (i.zero, i.size, i.bytes)) = some (some (.int .u8 0), 1, 1) := by kernel_rfl

/-- Bytes as cells. -/
def bv (l : List UInt8) : List Value := l.map fun c => Value.int .u8 (c.toNat : Int)
theorem bv_len (l : List UInt8) : (bv l).length = l.length := by simp [bv]
theorem bv_app (l m : List UInt8) : bv (l ++ m) = bv l ++ bv m := by simp [bv]
theorem bv_at {l : List UInt8} {j : Nat} {c : UInt8} (h : l[j]? = some c) : (bv l)[j]? = some (.int .u8 (c.toNat : Int)) := by
  unfold bv; rw [List.getElem?_map, h]; rfl
theorem bv_one (l : List UInt8) : ∀ u ∈ bv l, u.oneCell' = true := by
  intro u hu; unfold bv at hu; rw [List.mem_map] at hu; obtain ⟨c, _, rfl⟩ := hu; rfl

/-- A slice value that reads as these bytes; they lie in block g. -/
def RG (w : World) (g : Nat) (v : Value) (l : List UInt8) : Prop :=
  ∃ a cap, v = .slice a l.length cap ∧ l.length ≤ cap ∧ (l = [] ∨ ∃ off, a = some ⟨g, off, none⟩ ∧ g < w.heap.size ∧ ∀ j c, l[j]? = some c → w.cell? ⟨g, off + j, none⟩ = some (.int .u8 (c.toNat : Int)))
/-- A slice value that reads as these bytes. -/
def RB (w : World) (v : Value) (l : List UInt8) : Prop := ∃ g, RG w g v l
theorem RG.keep {w w1 : World} {g : Nat} {v : Value} {l : List UInt8} (h : RG w g v l) (hs : w.heap.size ≤ w1.heap.size) (hb : l ≠ [] → g < w.heap.size → w1.heap[g]? = w.heap[g]?) : RG w1 g v l := by
  by_cases hn : l = []
  · obtain ⟨a, cap, hv, hc0, _⟩ := h
    exact ⟨a, cap, hv, hc0, .inl hn⟩
  obtain ⟨a, cap, rfl, hc0, h | ⟨off, rfl, hlt, hc⟩⟩ := h
  · exact ⟨a, cap, rfl, hc0, .inl h⟩
  · exact ⟨_, cap, rfl, hc0, .inr ⟨off, rfl, Nat.lt_of_lt_of_le hlt hs, fun j x hx => (World.cell?_of_block (hb hn hlt)).trans (hc j x hx)⟩⟩
theorem RG.later {w w1 : World} {g : Nat} {v : Value} {l : List UInt8} (h : RG w g v l) (hb : Below w.heap.size w w1) : RG w1 g v l := h.keep hb.size (fun _ => hb.block g)
theorem RB.later {w w1 : World} {v : Value} {l : List UInt8} (h : RB w v l) (hb : Below w.heap.size w w1) : RB w1 v l := by
  obtain ⟨g, h⟩ := h
  exact ⟨g, h.later hb⟩
theorem some_at {l : List UInt8} {k : Nat} (h : k < l.length) : ∃ x, l[k]? = some x := ⟨l[k], List.getElem?_eq_getElem h⟩

/-- A slice that is owned from block B on. -/
def Own (w : World) (B : Nat) (v : Value) (l : List UInt8) : Prop := w.ownsRow B 5 1 v l.length (bv l)
theorem Own.nil (w : World) (B : Nat) : Own w B (.slice none 0 0) [] := World.ownsRow_nil w B 5 1
theorem Own.rg {w : World} {B : Nat} {v : Value} {l : List UInt8} (h : Own w B v l) : ∃ g, RG w g v l ∧ (l ≠ [] → v.ownBlock = some g) := by
  rcases h.2 with ⟨rfl, h0⟩ | ⟨g, cap, cur, rfl, hb, hh, hn2, _⟩
  · have : l = [] := List.length_eq_zero_iff.1 h0
    subst this
    exact ⟨0, ⟨none, 0, rfl, Nat.le_refl _, .inl rfl⟩, fun h => absurd rfl h⟩
  · refine ⟨g, ⟨_, cap, rfl, hn2, .inr ⟨0, rfl, (Array.getElem?_eq_some_iff.1 hh).1, fun j x hx => ?_⟩⟩, fun _ => rfl⟩
    have hj : j < l.length := (List.getElem?_eq_some_iff.1 hx).1
    rw [Nat.zero_add, World.ownsRow.cellAt h j (by omega)]
    exact bv_at hx
theorem Own.rb {w : World} {B : Nat} {v : Value} {l : List UInt8} (h : Own w B v l) : RB w v l := by
  obtain ⟨g, hg, _⟩ := h.rg
  exact ⟨g, hg⟩
theorem Own.later {w w' : World} {B : Nat} {v : Value} {l : List UInt8} (h : Own w B v l) (hb : Below w.heap.size w w') : Own w' B v l := by
  refine ⟨h.1, ?_⟩
  rcases h.2 with h2 | ⟨g, cap, cur, hv, hg, hh, h3⟩
  · exact .inl h2
  · exact .inr ⟨g, cap, cur, hv, hg, (hb.block g (Array.getElem?_eq_some_iff.1 hh).1).trans hh, h3⟩
theorem Own.slice {w : World} {B : Nat} {v : Value} {l : List UInt8} (h : Own w B v l) : ∃ ad cap, v = .slice ad l.length cap := by
  rcases h.2 with ⟨rfl, h0⟩ | ⟨g, cap, cur, rfl, _⟩
  · exact ⟨none, 0, by rw [h0]⟩
  · exact ⟨_, cap, rfl⟩
theorem Own.base {w : World} {B B' : Nat} {v : Value} {l : List UInt8} (h : Own w B v l) (hB : ∀ g, v.ownBlock = some g → B' ≤ g) : Own w B' v l := by
  refine ⟨h.1, ?_⟩
  rcases h.2 with h2 | ⟨g, cap, cur, hv, hg, hh, h3⟩
  · exact .inl h2
  · exact .inr ⟨g, cap, cur, hv, hB g (by rw [hv]; rfl), hh, h3⟩
theorem Own.kind {w : World} {B : Nat} {v : Value} {l : List UInt8} (h : Own w B v l) : ∀ g, v.ownBlock = some g → ∃ c fz, w.heap[g]? = some (.cells c 5 fz) := by
  intro g hg
  rcases h.2 with ⟨rfl, _⟩ | ⟨g', cap, cur, rfl, hb, hh, h3⟩
  · cases hg
  · cases hg; exact ⟨cur, (0, 0), hh⟩

/-- The value v of world w has become v' of world w', and nothing else that was there has changed. -/
structure Grew (w : World) (v : Value) (w' : World) (v' : Value) : Prop where
  grown : w.grownBy w' v.ownBlock
  lies : ∀ g, v'.ownBlock = some g → v.ownBlock = some g ∨ w.heap.size ≤ g
theorem Grew.refl (w : World) (v : Value) : Grew w v w v := ⟨⟨rfl, rfl, rfl, Nat.le_refl _, fun _ _ _ => rfl⟩, fun _ h => .inl h⟩
theorem Grew.trans {w w1 w2 : World} {v v1 v2 : Value} (h : Grew w v w1 v1) (k : Grew w1 v1 w2 v2) : Grew w v w2 v2 := by
  refine ⟨⟨k.grown.os.trans h.grown.os, k.grown.tape.trans h.grown.tape, k.grown.output.trans h.grown.output, Nat.le_trans h.grown.size k.grown.size, fun j hj hne => ?_⟩, fun g hg => ?_⟩
  · refine (k.grown.block j (Nat.lt_of_lt_of_le hj h.grown.size) ?_).trans (h.grown.block j hj hne)
    intro e
    rcases h.lies j e.symm with h1 | h1
    · exact hne h1.symm
    · omega
  · rcases k.lies g hg with h1 | h1
    · exact h.lies g h1
    · exact .inr (Nat.le_trans h.grown.size h1)
theorem Grew.below {w w1 w2 : World} {v v1 : Value} (h : Grew w v w1 v1) (hb : Below w1.heap.size w1 w2) : Grew w v w2 v1 := by
  refine ⟨⟨hb.os.trans h.grown.os, hb.tape.trans h.grown.tape, hb.output.trans h.grown.output, Nat.le_trans h.grown.size hb.size, fun j hj hne => ?_⟩, h.lies⟩
  exact (hb.block j (Nat.lt_of_lt_of_le hj h.grown.size)).trans (h.grown.block j hj hne)
theorem Grew.ofBelow {w w1 w2 : World} {v v2 : Value} (hb : Below w.heap.size w w1) (h : Grew w1 v w2 v2) : Grew w v w2 v2 := by
  refine ⟨⟨h.grown.os.trans hb.os, h.grown.tape.trans hb.tape, h.grown.output.trans hb.output, Nat.le_trans hb.size h.grown.size, fun j hj hne => ?_⟩, fun g hg => ?_⟩
  · exact (h.grown.block j (Nat.lt_of_lt_of_le hj hb.size) hne).trans (hb.block j hj)
  · rcases h.lies g hg with h1 | h1
    · exact .inl h1
    · exact .inr (Nat.le_trans hb.size h1)
theorem Grew.toBelow {w w' : World} {v v' : Value} {B : Nat} {a : World} (h : Grew w v w' v') (hb : Below B a w) (hB : B ≤ w.heap.size) (hv : ∀ g, v.ownBlock = some g → B ≤ g) : Below B a w' := hb.grown h.grown hB hv

/-! ### how many bits, how many bytes -/
/-- How many bits. -/
def blen (x : Int) : Int := if x ≤ 0 then 0 else (Nat.log2 x.toNat : Int) + 1
theorem log2_range {n k : Nat} (h1 : 2 ^ k ≤ n) (h2 : n < 2 ^ (k + 1)) : Nat.log2 n = k := by
  have h0 : n ≠ 0 := by have := Nat.two_pow_pos k; omega
  have a := (Nat.le_log2 h0).2 h1
  have b := (Nat.log2_lt h0).2 h2
  omega
end Go.Proofs.YthalmfbcdkihgaaDoor
