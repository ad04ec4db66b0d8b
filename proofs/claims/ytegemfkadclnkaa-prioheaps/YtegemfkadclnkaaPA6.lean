/-
  My own text: what a call leaves alone; a copy of the entries.
-/
import Derived.Test.YtegemfkadclnkaaPA5
import Derived.Lib.AppendZeros
namespace Go.Proofs.Ytegemfkadclnkaa
open Go.RowKit

/-- What a call leaves alone: all but the heap's own two blocks. -/
structure Fq (w w' : World) (hb : Nat) (v v' : Value) : Prop where
  os : w'.os = w.os
  tape : w'.tape = w.tape
  output : w'.output = w.output
  size : w.heap.size ≤ w'.heap.size
  block : ∀ g, g < w.heap.size → g ≠ hb → some g ≠ v.ownBlock → w'.heap[g]? = w.heap[g]?
  own : ∀ g, v'.ownBlock = some g → v.ownBlock = some g ∨ w.heap.size ≤ g
theorem Fq.of_gb {w w' : World} {hb : Nat} {v : Value} (h : w.grownBy w' v.ownBlock) : Fq w w' hb v v := ⟨h.os, h.tape, h.output, h.size, fun g hg _ hv => h.block g hg hv, fun _ h => .inl h⟩
theorem Fq.of_below {w w' : World} {hb : Nat} {v : Value} (h : Below w.heap.size w w') : Fq w w' hb v v := Fq.of_gb (gb_below _ h)
theorem Fq.trans {w w' w'' : World} {hb : Nat} {v v' v'' : Value} (h : Fq w w' hb v v') (h' : Fq w' w'' hb v' v'') : Fq w w'' hb v v'' :=
  ⟨h'.os.trans h.os, h'.tape.trans h.tape, h'.output.trans h.output, Nat.le_trans h.size h'.size, fun g hg h1 h2 => (h'.block g (Nat.lt_of_lt_of_le hg h.size) h1 (fun e => by
    rcases h.own g e.symm with q | q
    · exact h2 q.symm
    · omega)).trans (h.block g hg h1 h2), fun g hg => by
    rcases h'.own g hg with q | q
    · exact h.own g q
    · exact .inr (Nat.le_trans h.size q)⟩
theorem setCell_rest (w : World) (a : Addr) (u : Value) : (w.setCell a u).os = w.os ∧ (w.setCell a u).tape = w.tape ∧ (w.setCell a u).output = w.output ∧ (w.setCell a u).heap.size = w.heap.size := ⟨rfl, rfl, rfl, by simp [World.setCell]⟩
theorem Fq.hdr (w : World) {hb o : Nat} {v v' u : Value} (hv : ∀ g, v'.ownBlock = some g → v.ownBlock = some g ∨ w.heap.size ≤ g) : Fq w (w.setCell ⟨hb, o, none⟩ u) hb v v' :=
  ⟨rfl, rfl, rfl, by rw [(setCell_rest w _ u).2.2.2]; exact Nat.le_refl _, fun g _ h1 _ => Below.heap_setCell _ _ _ g h1, hv⟩
theorem Fq.below {w w' : World} {B hb : Nat} {v v' : Value} (h : Fq w w' hb v v') (hB : B ≤ w.heap.size) (h1 : B ≤ hb) (h2 : ∀ g, v.ownBlock = some g → B ≤ g) : Below B w w' :=
  ⟨h.os, h.tape, h.output, h.size, fun g hg => h.block g (by omega) (by omega) (fun e => by have := h2 g e.symm; omega)⟩
/-- append(row, entries..). -/
theorem run_append_en (w : World) (B : Nat) (ty : TypeId) (v : Value) (M : List En) (hown : OE w B v M) (B' : Nat) (x : Value) (L : List En) (hx : OE w B' x L) (hn : M.length + L.length ≤ 5864062014805) (hB : B ≤ w.heap.size) :
    ∃ v' w', (Builtin.append_ #[53, 53] ty #[v, x]).run Try.prog w = .ok v' w' ∧ OE w' B v' (M ++ L) ∧ w.grownBy w' v.ownBlock := by
  obtain ⟨i0, hi, hz0, hz1, hz2⟩ := info_parts Try.infoEn
  rcases hx.2 with ⟨rfl, h0⟩ | ⟨g, cap, cur, rfl, _, hh, hnc, _⟩
  · obtain rfl : L = [] := List.eq_nil_of_length_eq_zero h0
    refine ⟨v, w, ?_, by rw [List.append_nil]; exact hown, ⟨rfl, rfl, rfl, Nat.le_refl _, fun _ _ _ => rfl⟩⟩
    rcases hown.2 with ⟨rfl, h0⟩ | ⟨g, cap', cur, rfl, _, _, hnc, _⟩
    · simp [Builtin.append_, run_underlying Try.underlying53, sizeOf, typeInfo, hi, Builtin.lenOf, Builtin.firstCells]
    · simp [Builtin.append_, run_underlying Try.underlying53, sizeOf, typeInfo, hi, Builtin.lenOf, Builtin.firstCells, hnc, storeCells]
  · have hnews : ∀ j u, (ec L)[j]? = some u → w.cell? ((⟨g, 0, none⟩ : Addr).add j) = some u := fun j u hj => by
      have hl := (List.getElem?_eq_some_iff.1 hj).1
      rw [ec_len] at hl
      rw [Addr.add_lit, Nat.zero_add]
      exact (World.ownsRow.cellAt hx j hl).trans hj
    obtain ⟨v', w', hrun, r1, r2, _⟩ := run_append_own (P := Try.prog) w B 53 ty 51 i0 _ 3 24 Try.underlying53 hi hz0 hz1 hz2 rfl (by decide) v M.length (ec M) hown ⟨g, 0, none⟩ L.length cap (ec L) (ec_len L) hnews (ec_one L) (by unfold maxLen; omega) (by omega) hB
    refine ⟨v', w', hrun, ?_, r2⟩
    unfold OE
    rw [List.length_append, ec_app]; exact r1
set_option maxRecDepth 100000 in
set_option maxHeartbeats 1000000 in
theorem copied_any (B hb lb : Nat) (lf : FuncId) (v : Value) (E : List En) (N : Nat) (w : World) (h : HP w B hb lb lf v E N) (hlen : E.length ≤ 5864062014805) :
    Calls Try.prog 28 #[.pointer (some ⟨hb, 0, none⟩)] w fun e w' => ∃ v', e = .returned v' ∧ OE w' w.heap.size v' E ∧ Below w.heap.size w w' := by
  have c0 := h.c0
  obtain ⟨v', w', hr, ho, hg⟩ := run_append_en w w.heap.size 53 (.slice none 0 0) [] (World.ownsRow_nil w _ _ 3) B v E h.row (by simpa using hlen) (Nat.le_refl _)
  rw [List.nil_append] at ho
  have HR := hide hr
  have HO := hide ho
  have HB := hide (below_gb hg (Nat.le_refl _) (fun g e => by cases e))
  obtain ⟨a, cap, rfl, _⟩ := h.row.slc
  clear h hr ho hg
  go_enter Try.func28, Try.ntmps28
  go_wp2_with (at_builtin; refine Lib.wpList_append_run _ rfl _ _ _ _ rfl _ _ rfl rfl _ _ HR.out ?_)
  go_ret
  exact ⟨_, rfl, HO.out, HB.out⟩
end Go.Proofs.Ytegemfkadclnkaa
