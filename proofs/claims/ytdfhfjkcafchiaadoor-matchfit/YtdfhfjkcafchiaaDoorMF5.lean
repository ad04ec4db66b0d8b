/-
  My own text: layer 22: the document's Fit (printed by mkmf5.py).
-/
import Derived.Test.YtdfhfjkcafchiaaDoorMF4
namespace Go.Proofs.YtdfhfjkcafchiaaDoor
open Go.RowKit LC

/-- A side's cells. -/
def sC (p : Int) (n : Ntc) (v : Value) : Array Value := (Value.int .i64 p :: (nC n v).toList).toArray
theorem sC_cell {W : World} {b : Nat} {p : Int} {n : Ntc} {v : Value} (h : W.heap[b]? = some (.cells (sC p n v) 28 (0, 0))) : W.cell? ⟨b, 0, none⟩ = some (.int .i64 p) := by rw [cell_of_row _ _ 0 _ _ _ h]; rfl
theorem sC_range {W : World} {b : Nat} {p : Int} {n : Ntc} {v : Value} (h : W.heap[b]? = some (.cells (sC p n v) 28 (0, 0))) : W.rangeAt b 1 (nC n v).toList := fun j u hj => by
  rw [cell_of_row _ _ _ _ _ _ h]
  show ((Value.int .i64 p :: (nC n v).toList).toArray)[1 + j]? = some u
  rw [List.getElem?_toArray, Nat.add_comm, List.getElem?_cons_succ]
  exact hj
theorem kl_u8 (d : Nat) (c : UInt8) : Tryd.prog.keyLits (d + 1) 5 [.int .u8 (c.toNat : Int)] = some [.int .u8 (c.toNat : Int)] := by
  unfold Program.keyLits
  rw [Tryd.underlying5]
  have : (Lit.int .u8 (c.toNat : Int)).wf = true := by have := c.toNat_lt; simp [Lit.wf, IntKind.min, IntKind.max, IntKind.signed, IntKind.bits]; omega
  simp [this]
def bxF (d : Bool) : Int × Bool := (0, d)
/-- What the document's Fit answers. -/
def fitV (p : Int) (n : Ntc) (q : Int) (m : Ntc) (bs : List (List UInt8)) (t : Int) : Int × Bool :=
  if n.rc = true then (0, false) else if m.rc = false then (0, false) else if n.cn = true then (0, false) else if m.cn = true then (0, false) else if n.tr ≠ m.tr then (0, false) else if n.st ≠ m.st then (0, false)
  else if n.code ≠ m.code then (0, false) else if n.qty ≠ m.qty then (0, false) else if n.py ≠ m.py then (0, false) else if n.acc ≠ m.oth then (0, false) else if n.oth ≠ m.acc then (0, false)
  else if isB bs q n.agt = false then (0, false) else if isB bs p m.agt = false then (0, false) else if n.py = false then (0, true) else if n.cur ≠ m.cur then (0, false) else if nrB n.amt m.amt t = false then (0, false) else (n.amt, true)
end Go.Proofs.YtdfhfjkcafchiaaDoor
