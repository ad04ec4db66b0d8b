/-
  My own text: layer 22: what the document's Fit needs.
-/
import Derived.Test.YtdfhfjkcafchiaaDoorMF6
namespace Go.Proofs.YtdfhfjkcafchiaaDoor
open Go.RowKit LC

theorem Tryd.sizeNtc6 : (Tryd.prog.info? 26).map (·.size) = some 27 := by kernel_rfl
theorem Tryd.sizeIsin6 : (Tryd.prog.info? 23).map (·.size) = some 12 := by kernel_rfl
theorem wpList_load_midW {P : Program} {ops : Array Oper} {rest : List Oper} {op : Oper} {a : Act} {w : World} {Q : Exit → Act → World → Prop} (hw : Region.wanted op (yielded ops a.tmps) = true) (ty : TypeId) (x : Operand) (ho : op.op = .load ty x)
    (b o : Nat) (hx : a.eval x = .pointer (some ⟨b, o, none⟩)) (cs : List Value) (d : TypeDesc) (hc : w.rangeAt b o cs)
    (hu : P.underlying ty = some d) (hd : d.isRow = true) (hi : (P.info? ty).map (·.size) = some cs.length)
    (h : wpList P ops Q rest (a.put op.dst (.agg cs.toArray)) w) : wpList P ops Q (op :: rest) a w :=
  wpList_step fun K hK => by rw [if_pos hw]; exact wp_load_mid ty x ho b o hx cs d hc hu hd hi (hK _ _ h)
/-- One of the first nine conditions fails. -/
def out3 (n m : Ntc) : Prop := n.rc = true ∨ m.rc = false ∨ n.cn = true ∨ m.cn = true ∨ n.tr ≠ m.tr ∨ n.st ≠ m.st ∨ n.code ≠ m.code ∨ n.qty ≠ m.qty ∨ n.py ≠ m.py
end Go.Proofs.YtdfhfjkcafchiaaDoor
