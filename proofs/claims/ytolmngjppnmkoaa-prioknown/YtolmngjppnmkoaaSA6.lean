/-
  My own text: what a call leaves alone; a copy of the entries.
-/
import Derived.Test.YtolmngjppnmkoaaSA5
import Derived.Lib.AppendZeros
namespace Go.Proofs.Ytolmngjppnmkoaa.SG
open Go.RowKit

/-- append(row, entries..). -/
theorem run_append_en (w : World) (B : Nat) (ty : TypeId) (v : Value) (M : List En) (hown : OE w B v M) (B' : Nat) (x : Value) (L : List En) (hx : OE w B' x L) (hn : M.length + L.length ≤ 5864062014805) (hB : B ≤ w.heap.size) :
    ∃ v' w', (Builtin.append_ #[83, 83] ty #[v, x]).run Try.prog w = .ok v' w' ∧ OE w' B v' (M ++ L) ∧ w.grownBy w' v.ownBlock := by
  obtain ⟨i0, hi, hz0, hz1, hz2⟩ := info_parts Try.infoEnS
  rcases hx.2 with ⟨rfl, h0⟩ | ⟨g, cap, cur, rfl, _, hh, hnc, _⟩
  · obtain rfl : L = [] := List.eq_nil_of_length_eq_zero h0
    refine ⟨v, w, ?_, by rw [List.append_nil]; exact hown, ⟨rfl, rfl, rfl, Nat.le_refl _, fun _ _ _ => rfl⟩⟩
    rcases hown.2 with ⟨rfl, h0⟩ | ⟨g, cap', cur, rfl, _, _, hnc, _⟩
    · simp [Builtin.append_, run_underlying Try.underlying83, sizeOf, typeInfo, hi, Builtin.lenOf, Builtin.firstCells]
    · simp [Builtin.append_, run_underlying Try.underlying83, sizeOf, typeInfo, hi, Builtin.lenOf, Builtin.firstCells, hnc, storeCells]
  · have hnews : ∀ j u, (ec L)[j]? = some u → w.cell? ((⟨g, 0, none⟩ : Addr).add j) = some u := fun j u hj => by
      have hl := (List.getElem?_eq_some_iff.1 hj).1
      rw [ec_len] at hl
      rw [Addr.add_lit, Nat.zero_add]
      exact (World.ownsRow.cellAt hx j hl).trans hj
    obtain ⟨v', w', hrun, r1, r2, _⟩ := run_append_own (P := Try.prog) w B 83 ty 81 i0 _ 2 24 Try.underlying83 hi hz0 hz1 hz2 rfl (by decide) v M.length (ec M) hown ⟨g, 0, none⟩ L.length cap (ec L) (ec_len L) hnews (ec_one L) (by unfold maxLen; omega) (by omega) hB
    refine ⟨v', w', hrun, ?_, r2⟩
    unfold OE
    rw [List.length_append, ec_app]; exact r1
set_option maxRecDepth 100000 in
set_option maxHeartbeats 1000000 in
theorem copied_any (B hb lb : Nat) (lf : FuncId) (v : Value) (E : List En) (N : Nat) (w : World) (h : HP w B hb lb lf v E N) (hlen : E.length ≤ 5864062014805) :
    Calls Try.prog 51 #[.pointer (some ⟨hb, 0, none⟩)] w fun e w' => ∃ v', e = .returned v' ∧ OE w' w.heap.size v' E ∧ Below w.heap.size w w' := by
  have c0 := h.c0
  obtain ⟨v', w', hr, ho, hg⟩ := run_append_en w w.heap.size 83 (.slice none 0 0) [] (World.ownsRow_nil w _ _ 2) B v E h.row (by simpa using hlen) (Nat.le_refl _)
  rw [List.nil_append] at ho
  have HR := hide hr
  have HO := hide ho
  have HB := hide (below_gb hg (Nat.le_refl _) (fun g e => by cases e))
  obtain ⟨a, cap, rfl, _⟩ := h.row.slc
  clear h hr ho hg
  go_enter Try.func51, Try.ntmps51
  go_wp2_with (at_builtin; refine Lib.wpList_append_run _ rfl _ _ _ _ rfl _ _ rfl rfl _ _ HR.out ?_)
  go_ret
  exact ⟨_, rfl, HO.out, HB.out⟩
end Go.Proofs.Ytolmngjppnmkoaa.SG
