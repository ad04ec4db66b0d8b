/-
  My own text: ErrF, ErrG in one.
-/
import Derived.Test.YtdfhfjkcafchiaaDoorC1
import Derived.Deep.RegionWith
import Derived.BigRegion
import Derived.Laws.CopyOwn
namespace Go.Proofs.YtdfhfjkcafchiaaDoor.LC
open Go.RowKit Go.Extern.Stop Go.Stop Go.Extern

/-- A fault of number 6 at a place, as an error. -/
def fltV (k : Int) : Value := .iface 72 (.agg #[.int .i64 6, .int .i64 0, .int .i64 k])
theorem Tryd.fEql (v u : Value) (w : World) : (binOp .eql 60 (.iface 72 v) (.iface 70 u)).run Tryd.prog w = .ok (.bool false) w := run_eql_iface_types 72 70 v u Tryd.underlying60 (by decide) w

/-! ### errors.As of such an error at a target of its own type: a hit -/
theorem Tryd.partsF (a : Addr) (w : World) : (ReflectliteValue.parts (.agg #[.pointer (some ⟨1, 72, none⟩), .pointer (some a), .int .u64 409])).run Tryd.prog w = .ok (some (72, a, 409)) w := by kernel_rfl
theorem Tryd.partsG (a : Addr) (w : World) : (ReflectliteValue.parts (.agg #[.pointer (some ⟨1, 72, none⟩), .pointer (some a), .int .u64 153])).run Tryd.prog w = .ok (some (72, a, 153)) w := by kernel_rfl
theorem Tryd.mkF (a : Addr) (w : World) : (ReflectliteValue.mk 72 a ReflectliteValue.flagAddr).run Tryd.prog w = .ok (.agg #[.pointer (some ⟨1, 72, none⟩), .pointer (some a), .int .u64 409]) w := by kernel_rfl
theorem Tryd.valueOfG (v0 v1 v2 : Value) (w : World) : (ReflectliteValue.unpack (.iface 72 (.agg #[v0, v1, v2]))).run Tryd.prog w
    = .ok (.agg #[.pointer (some ⟨1, 72, none⟩), .pointer (some ⟨w.heap.size, 0, none⟩), .int .u64 153]) (w.alloc (.cells #[v0, v1, v2] 72)) := by kernel_rfl
theorem Tryd.directF (w : World) : (Rtype.directlyAssignable 72 72).run Tryd.prog w = .ok true w := by kernel_rfl
theorem Tryd.sizeF : (Tryd.prog.info? 72).map (·.size) = some 3 := by kernel_rfl
theorem Tryd.setF (W : World) (g b : Nat) (old cs : Array Value) (hg : W.heap[g]? = some (.cells old 72 (0, 0))) (ho : old.size = 3) (hb : W.heap[b]? = some (.cells cs 72 (0, 0))) (hc : cs.size = 3) (h1 : cs.all (·.oneCell') = true) :
    (ReflectliteValue.set #[.agg #[.pointer (some ⟨1, 72, none⟩), .pointer (some ⟨g, 0, none⟩), .int .u64 409], .agg #[.pointer (some ⟨1, 72, none⟩), .pointer (some ⟨b, 0, none⟩), .int .u64 153]]).run Tryd.prog W = .ok (.tuple #[]) (W.setRow g cs) := by
  have hl := run_loadVar_row (P := Tryd.prog) W b 72 72 cs (0, 0) _ hb Tryd.underlying72 rfl (by rw [hc]; exact Tryd.sizeF)
  have hs := run_storeVar_row (P := Tryd.prog) W g 72 72 old cs hg (by rw [hc]; exact Tryd.sizeF) (by rw [ho, hc]) h1
  have p1 := Tryd.partsF ⟨g, 0, none⟩ W
  have p2 := Tryd.partsG ⟨b, 0, none⟩ W
  have d1 := Tryd.directF W
  refine (show _ = (ReflectliteValue.parts (.agg #[.pointer (some ⟨1, 72, none⟩), .pointer (some ⟨g, 0, none⟩), .int .u64 409]) >>= _).run Tryd.prog W from rfl).trans ?_
  simp [p1, p2, hl, hs, d1, Result.andThen, ReflectliteValue.flagAddr, Array.getLit]
end Go.Proofs.YtdfhfjkcafchiaaDoor.LC
namespace Go.Proofs.YtdfhfjkcafchiaaDoor.LC
open Go.RowKit Go.Extern.Stop Go.Stop Go.Extern

theorem alloc_block {w : World} {b : Nat} {o x : Obj} (hh : w.heap[b]? = some x) : (w.alloc o).heap[b]? = some x := by
  have hlt : b < w.heap.size := by
    by_cases hc : b < w.heap.size
    · exact hc
    · rw [Array.getElem?_eq_none (by omega)] at hh; cases hh
  rw [Below.heap_alloc _ _ _ hlt]; exact hh
theorem alloc_new (w : World) (o : Obj) : (w.alloc o).heap[w.heap.size]? = some o := (MapKept.heap_alloc w o).1

/-- What a law asks of an error: its number, and a place just with the number 6. -/
def Err6 (r : Int × Int) : Prop := (r.1 = 6 ∧ 0 ≤ r.2) ∨ (0 ≤ r.1 ∧ r.1 ≤ 24 ∧ r.1 ≠ 6)
theorem err6_form (l f : List UInt8) : Err6 (formR l f) := by
  rcases formR_lo l f with h | h | h | ⟨k, _, h⟩
  · rw [h]; exact .inr (by decide)
  · rw [h]; exact .inr (by decide)
  · rw [h]; exact .inr (by decide)
  · rw [h]; exact .inl ⟨rfl, by simp⟩
theorem errF_fault (k : Int) : errF (6, k) = fltV k := rfl
end Go.Proofs.YtdfhfjkcafchiaaDoor.LC
