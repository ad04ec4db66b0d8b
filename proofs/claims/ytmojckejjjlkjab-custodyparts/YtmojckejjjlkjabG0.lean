/-
  My own text: what the texts on rows of layer 16 share.
-/
import Derived.Test.YtmojckejjjlkjabErrV
import Derived.Test.YtmojckejjjlkjabGr0
import Derived.Test.YtmojckejjjlkjabQT2
import Derived.Test.YtmojckejjjlkjabHeld
import Derived.BigQuiet
import Derived.Deep.QuietTactic
import Derived.ArgAppend
import Derived.OneCell
import Derived.Deep.MidRow
import Derived.Deep.Onto
import Derived.Deep.AppendLies
import Derived.Deep.DeepAppendWide
import Derived.Deep.DeepAppendRoom
import Derived.Deep.RegionWith
import Derived.Deep.RegionHeld3
import Derived.Laws.StructEq
import Derived.ChangeKeysEq
namespace Go.Proofs.Ytmojckejjjlkjab
open Go.RowKit

theorem info_parts {P : Program} {t : TypeId} {z : Value} {s b : Nat} (h : (P.info? t).map (fun i => (i.zero, i.size, i.bytes)) = some (some z, s, b)) : ∃ i, P.info? t = some i ∧ i.zero = some z ∧ i.size = s ∧ i.bytes = b := by
  obtain ⟨i, hi, hz⟩ := Option.map_eq_some_iff.1 h
  simp only [Prod.mk.injEq] at hz
  exact ⟨i, hi, hz.1, hz.2.1, hz.2.2⟩
theorem owns_lat {B : Nat} {e : TypeId} {k : Nat} {v : Value} {n : Nat} {xs : List Value} {w w' : World} (h : w.ownsRow B e k v n xs) (hb : Below w.heap.size w w') : w'.ownsRow B e k v n xs := by
  refine ⟨h.1, ?_⟩
  rcases h.2 with h2 | ⟨g, cap, cur, hv, hg, hh, h3⟩
  · exact .inl h2
  · exact .inr ⟨g, cap, cur, hv, hg, (hb.block g (Array.getElem?_eq_some_iff.1 hh).1).trans hh, h3⟩
theorem owns_blk {w w' : World} {B : Nat} {e : TypeId} {k : Nat} {v : Value} {n : Nat} {xs : List Value} (h : w.ownsRow B e k v n xs) (hb : ∀ g, v.ownBlock = some g → w'.heap[g]? = w.heap[g]?) : w'.ownsRow B e k v n xs := by
  refine ⟨h.1, ?_⟩
  rcases h.2 with h2 | ⟨g, cap, cur, hv, hg, hh, h3⟩
  · exact .inl h2
  · exact .inr ⟨g, cap, cur, hv, hg, (hb g (by rw [hv]; rfl)).trans hh, h3⟩
theorem ownsRow_kind {w : World} {B : Nat} {e : TypeId} {size : Nat} {v : Value} {n : Nat} {xs : List Value} (h : w.ownsRow B e size v n xs) : ∀ g, v.ownBlock = some g → ∃ c fz, w.heap[g]? = some (.cells c e fz) := by
  intro g hg
  rcases h.2 with ⟨rfl, _⟩ | ⟨g', cap, cur, rfl, hb, hh, h3⟩
  · cases hg
  · cases hg; exact ⟨cur, (0, 0), hh⟩
theorem alloc_new (w : World) (o : Obj) : (w.alloc o).heap[w.heap.size]? = some o := (MapKept.heap_alloc w o).1
theorem alloc_block {w : World} {b : Nat} {o x : Obj} (hh : w.heap[b]? = some x) : (w.alloc o).heap[b]? = some x := by
  have hlt := (Array.getElem?_eq_some_iff.1 hh).1
  exact (Below.heap_alloc w o b hlt).trans hh
theorem blk_later {w w' : World} {g : Nat} {o : Obj} (h : w.heap[g]? = some o) (hb : Below w.heap.size w w') : w'.heap[g]? = some o := (hb.block g (Array.getElem?_eq_some_iff.1 h).1).trans h
theorem below_dN {B : Nat} {a w : World} (h : Below B a w) (n : Nat) : Below B a (w.drewN n) := h.trans ⟨rfl, rfl, rfl, Nat.le_refl _, fun _ _ => rfl⟩
theorem pair_cells {w : World} {o : Obj} {a b : Value} {t : TypeId} {g : Nat} (h : w.heap[g]? = some o) (ho : o = .cells #[a, b] t (0, 0)) : w.cell? ⟨g, 0, none⟩ = some a ∧ w.cell? ⟨g, 1, none⟩ = some b := by
  subst ho
  exact ⟨by rw [cell_of_row _ _ 0 _ _ _ h]; rfl, by rw [cell_of_row _ _ 1 _ _ _ h]; rfl⟩
theorem five_cells {w : World} {o : Obj} {a b c d e : Value} {t : TypeId} {g : Nat} (h : w.heap[g]? = some o) (ho : o = .cells #[a, b, c, d, e] t (0, 0)) : w.cell? ⟨g, 0, none⟩ = some a ∧ w.cell? ⟨g, 1, none⟩ = some b ∧ w.cell? ⟨g, 2, none⟩ = some c ∧ w.cell? ⟨g, 3, none⟩ = some d ∧ w.cell? ⟨g, 4, none⟩ = some e := by
  subst ho
  exact ⟨by rw [cell_of_row _ _ 0 _ _ _ h]; rfl, by rw [cell_of_row _ _ 1 _ _ _ h]; rfl, by rw [cell_of_row _ _ 2 _ _ _ h]; rfl, by rw [cell_of_row _ _ 3 _ _ _ h]; rfl, by rw [cell_of_row _ _ 4 _ _ _ h]; rfl⟩
theorem eight_cells {w : World} {o : Obj} {a b c d e f x y : Value} {t : TypeId} {g : Nat} (h : w.heap[g]? = some o) (ho : o = .cells #[a, b, c, d, e, f, x, y] t (0, 0)) : w.cell? ⟨g, 0, none⟩ = some a ∧ w.cell? ⟨g, 1, none⟩ = some b ∧ w.cell? ⟨g, 2, none⟩ = some c ∧ w.cell? ⟨g, 3, none⟩ = some d ∧ w.cell? ⟨g, 4, none⟩ = some e ∧ w.cell? ⟨g, 5, none⟩ = some f ∧ w.cell? ⟨g, 6, none⟩ = some x ∧ w.cell? ⟨g, 7, none⟩ = some y := by
  subst ho
  exact ⟨by rw [cell_of_row _ _ 0 _ _ _ h]; rfl, by rw [cell_of_row _ _ 1 _ _ _ h]; rfl, by rw [cell_of_row _ _ 2 _ _ _ h]; rfl, by rw [cell_of_row _ _ 3 _ _ _ h]; rfl, by rw [cell_of_row _ _ 4 _ _ _ h]; rfl, by rw [cell_of_row _ _ 5 _ _ _ h]; rfl, by rw [cell_of_row _ _ 6 _ _ _ h]; rfl, by rw [cell_of_row _ _ 7 _ _ _ h]; rfl⟩
/-- The value v of world w has become v' of world w', and nothing else that was there has changed. -/
structure Grew (w : World) (v : Value) (w' : World) (v' : Value) : Prop where
  grown : w.grownBy w' v.ownBlock
  lies : ∀ g, v'.ownBlock = some g → v.ownBlock = some g ∨ w.heap.size ≤ g
theorem Grew.refl (w : World) (v : Value) : Grew w v w v := ⟨⟨rfl, rfl, rfl, Nat.le_refl _, fun _ _ _ => rfl⟩, fun _ h => .inl h⟩
theorem Grew.trans {w w1 w2 : World} {v v1 v2 : Value} (h : Grew w v w1 v1) (k : Grew w1 v1 w2 v2) : Grew w v w2 v2 := by
  refine ⟨⟨k.grown.os.trans h.grown.os, k.grown.tape.trans h.grown.tape, k.grown.output.trans h.grown.output, Nat.le_trans h.grown.size k.grown.size, fun j hj hne => ?_⟩, fun g hg => ?_⟩
  · refine (k.grown.block j (Nat.lt_of_lt_of_le hj h.grown.size) ?_).trans (h.grown.block j hj hne)
    intro e
    rcases h.lies j e.symm with h1 | h1
    · exact hne h1.symm
    · omega
  · rcases k.lies g hg with h1 | h1
    · exact h.lies g h1
    · exact .inr (Nat.le_trans h.grown.size h1)
theorem Grew.ofBelow {w w1 w2 : World} {v v2 : Value} (hb : Below w.heap.size w w1) (h : Grew w1 v w2 v2) : Grew w v w2 v2 := by
  refine ⟨⟨h.grown.os.trans hb.os, h.grown.tape.trans hb.tape, h.grown.output.trans hb.output, Nat.le_trans hb.size h.grown.size, fun j hj hne => ?_⟩, fun g hg => ?_⟩
  · exact (h.grown.block j (Nat.lt_of_lt_of_le hj hb.size) hne).trans (hb.block j hj)
  · rcases h.lies g hg with h1 | h1
    · exact .inl h1
    · exact .inr (Nat.le_trans hb.size h1)
theorem Grew.toBelow {w w' : World} {v v' : Value} {B : Nat} {a : World} (h : Grew w v w' v') (hb : Below B a w) (hB : B ≤ w.heap.size) (hv : ∀ g, v.ownBlock = some g → B ≤ g) : Below B a w' := hb.grown h.grown hB hv
theorem grown_alloc (w : World) (o : Obj) : w.grownBy (w.alloc o) none := ⟨rfl, rfl, rfl, by simp, fun k hk _ => Below.heap_alloc _ _ _ hk⟩
theorem om_froz {w : World} {B : Nat} {e : TypeId} {k g n cap : Nat} {xs : List Value} (h : w.ownsRow B e k (.slice (some ⟨g, 0, none⟩) n cap) n xs) (j : Nat) : w.frozen? ⟨g, j, none⟩ = false := World.ownsRow.frozenAt h j
/-- Nothing but these lists' own blocks has changed. -/
structure Sp (K : Nat) (av : Nat → Option Addr) (n c : Nat → Nat) (w w' : World) : Prop where
  os : w'.os = w.os
  tape : w'.tape = w.tape
  output : w'.output = w.output
  size : w.heap.size ≤ w'.heap.size
  block : ∀ b, b < w.heap.size → (∀ k, k < K → (Value.slice (av k) (n k) (c k)).ownBlock ≠ some b) → w'.heap[b]? = w.heap[b]?
theorem Sp.refl (K : Nat) (av : Nat → Option Addr) (n c : Nat → Nat) (w : World) : Sp K av n c w w := ⟨rfl, rfl, rfl, Nat.le_refl _, fun _ _ _ => rfl⟩
theorem Sp.drew {K : Nat} {av : Nat → Option Addr} {n c : Nat → Nat} {w w1 : World} (h : Sp K av n c w w1) : Sp K av n c w w1.drew := ⟨h.os, h.tape, h.output, h.size, h.block⟩
theorem Sp.set {K : Nat} {av : Nat → Option Addr} {n c : Nat → Nat} {w w1 : World} (h : Sp K av n c w w1) {k P : Nat} (hk : k < K) (hA : av k = some ⟨P, 0, none⟩) (i : Nat) (u : Value) : Sp K av n c w (w1.setCell ⟨P, i, none⟩ u) :=
  ⟨h.os, h.tape, h.output, by simpa using h.size, fun b hb hn => (Below.heap_setCell _ _ _ _ (fun e => hn k hk (by rw [hA, e]; rfl))).trans (h.block b hb hn)⟩
theorem Sp.later {K : Nat} {av : Nat → Option Addr} {n c : Nat → Nat} {w w1 w2 : World} (h : Sp K av n c w w1) (hb : Below w1.heap.size w1 w2) : Sp K av n c w w2 :=
  ⟨hb.os.trans h.os, hb.tape.trans h.tape, hb.output.trans h.output, Nat.le_trans h.size hb.size, fun b hlt hn => (hb.block b (Nat.lt_of_lt_of_le hlt h.size)).trans (h.block b hlt hn)⟩
/-- What is known of the places of lists. -/
structure PlM (w1 : World) (B L K : Nat) (av : Nat → Option Addr) (n c : Nat → Nat) : Prop where
  lt : L < w1.heap.size
  notL : ∀ k, k < K → (Value.slice (av k) (n k) (c k)).ownBlock ≠ some L
  apart : ∀ j k g, j < K → k < K → (Value.slice (av j) (n j) (c j)).ownBlock = some g → (Value.slice (av k) (n k) (c k)).ownBlock = some g → j = k
  below : ∀ k, k < K → ∀ g, (Value.slice (av k) (n k) (c k)).ownBlock = some g → B ≤ g ∧ g < w1.heap.size
  some : ∀ k, k < K → 0 < n k → ∃ P, av k = some ⟨P, 0, none⟩
theorem ret_i {a b : Int} (h : a = b) : Ending.returned (.int .i64 a) = .returned (.int .i64 b) := by rw [h]
theorem ret_b {a b : Bool} (h : a = b) : Ending.returned (.bool a) = .returned (.bool b) := by rw [h]
end Go.Proofs.Ytmojckejjjlkjab
