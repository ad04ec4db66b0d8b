/-
  My own text: arrays of bytes held against each other.
-/
import Derived.Test.YtbpdjjihimplaaaDoorC3
import Derived.ChangeKeysEq
import Derived.Laws.StructEq
namespace Go.Proofs.YtbpdjjihimplaaaDoor.LC
open Go.RowKit

theorem Tryd.cells8 : Tryd.prog.cellsOf 5 = 1 := by kernel_rfl
theorem cel_at {a : List UInt8} {i : Nat} (h : i < a.length) : (cel a)[i]? = some (.int .u8 ((a.getD i 0).toNat : Int)) := by
  rw [getD_at h]; simp [cel, List.getElem?_eq_getElem h]
theorem part_cel {a : List UInt8} {i : Nat} (h : i < a.length) (w : World) : (part 5 (cel a) i).run Tryd.prog w = .ok (.int .u8 ((a.getD i 0).toNat : Int)) w := by
  have := cel_at h
  simp [part, isAgg, underlying, Tryd.underlying5, this, Result.andThen]
theorem equal8 (d : Nat) (x y : UInt8) (w : World) : (Op.equalIn (d + 1) 5 (.int .u8 (x.toNat : Int)) (.int .u8 (y.toNat : Int))).run Tryd.prog w = .ok (x == y) w := by
  have h : ((x.toNat : Int) == (y.toNat : Int)) = (x == y) := by
    by_cases e : x = y
    · subst e; simp
    · rw [u8_ne e]; symm; simpa using e
  simp [Op.equalIn, run_underlying Tryd.underlying5, h]
theorem eqItems_cel (d : Nat) (a b : List UInt8) (w : World) : ∀ is : List Nat, (∀ i ∈ is, i < a.length ∧ i < b.length) →
    (Op.eqItems (d + 1) 5 1 (cel a) (cel b) is).run Tryd.prog w = .ok (is.all fun i => a.getD i 0 == b.getD i 0) w
  | [], _ => by simp [Op.eqItems]
  | i :: is, h => by
    have hi := h i (List.mem_cons_self ..)
    have ih := eqItems_cel d a b w is (fun j hj => h j (List.mem_cons_of_mem _ hj))
    simp only [Op.eqItems, Sem.run_bind, Nat.mul_one, part_cel hi.1, part_cel hi.2, equal8, Result.andThen_ok]
    rw [List.all_cons]
    generalize (a.getD i 0 == b.getD i 0) = q
    cases q
    · simp
    · simpa using ih
theorem all_range (a b : List UInt8) (h : a.length = b.length) : ((List.range a.length).all fun i => a.getD i 0 == b.getD i 0) = decide (a = b) := by
  by_cases e : a = b
  · subst e; simp
  · rw [decide_eq_false e, List.all_eq_false]
    apply Classical.byContradiction
    intro hn
    apply e
    apply List.ext_getElem h
    intro i h1 h2
    apply Classical.byContradiction
    intro hne
    apply hn
    refine ⟨i, List.mem_range.2 h1, ?_⟩
    rw [getD_at h1, getD_at h2]
    simpa using hne
theorem run_neq_cel {t : TypeId} {n : Nat} (hu : Tryd.prog.underlying t = some (.array n 5)) (a b : List UInt8) (ha : a.length = n) (hb : b.length = n) (w : World) :
    (binOp .neq t (.agg (cel a)) (.agg (cel b))).run Tryd.prog w = .ok (.bool (!decide (a = b))) w := by
  obtain ⟨i, hi, _⟩ := info_parts (P := Tryd.prog) (t := 5) (z := .int .u8 0) (s := 1) (b := 1) (by kernel_rfl)
  have h := run_equalIn_array (P := Tryd.prog) w 9999 (cel a) (cel b) hu hi
  rw [Tryd.cells8, eqItems_cel 9998 a b w (List.range n) (fun i hi => by have := List.mem_range.1 hi; omega), ← ha, all_range a b (by omega)] at h
  simp only [binOp]
  simp [Op.equal, Op.maxDepth, h]
end Go.Proofs.YtbpdjjihimplaaaDoor.LC
