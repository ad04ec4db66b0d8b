/-
  My own text: layer 11: StoreScript: small things ahead of the laws (out of SFh).
-/
import Derived.Test.YtehacdijleommaaGreatDoorErr
import Derived.Test.YtehacdijleommaaGreatDoorG0
import Derived.Laws.StructEq
namespace Go.Proofs.YtehacdijleommaaGreatDoor
open Go.RowKit

theorem f_ofS (k : Int) : ∃ f : Bool, k % 2 = (f.toNat : Int) := by
  rcases (show k % 2 = 0 ∨ k % 2 = 1 by omega) with h | h
  · exact ⟨false, h⟩
  · exact ⟨true, h⟩
theorem bool_ltS (f : Bool) : f.toNat < 2 := by cases f <;> decide
theorem gtNilS (q : Nat) (W : World) : (binOp .eql 23 (.pointer (some ⟨q, 0, none⟩)) (.pointer none)).run Tryz.prog W = .ok (.bool false) W := by kernel_rfl
theorem Tryz.undSd : Tryz.prog.underlying 36 = some (.struct (Tryz.prog.fieldsOf 36)) := by kernel_rfl
theorem Tryz.stoodSd : Tryz.prog.stoodInHeld 36 = false := by kernel_rfl
theorem eqSd (s : ByteArray) (x : Int) (b : Bool) (W : World) : (Op.equalIn 10000 36 (.agg #[.string s, .int .i64 x, .bool b]) (.agg #[.string s, .int .i64 x, .bool b])).run Tryz.prog W = .ok true W := by
  rw [run_equalIn_struct W 9999 _ _ _ Tryz.undSd Tryz.stoodSd]
  have ui := Tryz.underlying3
  have us := Tryz.underlying9
  have ub := Tryz.underlying4
  have e1 : ∀ (x : Int) (W : World), (Op.equalIn 9999 3 (.int .i64 x) (.int .i64 x)).run Tryz.prog W = .ok true W := fun x W => by rw [show (9999 : Nat) = 9998 + 1 from rfl, run_equalIn_int W 9998 _ _ _ _ _ ui]; simp
  have e2 : ∀ (x : ByteArray) (W : World), (Op.equalIn 9999 9 (.string x) (.string x)).run Tryz.prog W = .ok true W := fun x W => by rw [show (9999 : Nat) = 9998 + 1 from rfl, run_equalIn_string W 9998 _ _ _ us]; simp
  have e3 : ∀ (x : Bool) (W : World), (Op.equalIn 9999 4 (.bool x) (.bool x)).run Tryz.prog W = .ok true W := fun x W => by rw [show (9999 : Nat) = 9998 + 1 from rfl, run_equalIn_bool W 9998 _ _ _ ub]; simp
  simp only [Program.fieldsOf, Tryz.underlying36]
  simp [Op.eqFields, part, isAgg, underlying, ui, us, ub, Result.andThen, e1, e2, e3]
theorem run_neq_sd (s : ByteArray) (x : Int) (b : Bool) (W : World) : (binOp .neq 36 (.agg #[.string s, .int .i64 x, .bool b]) (.agg #[.string s, .int .i64 x, .bool b])).run Tryz.prog W = .ok (.bool false) W := by
  simp only [binOp]
  simp [Op.equal, Op.maxDepth, eqSd]
theorem op_call_fnS {P : Program} {Q : Exit → Act → World → Prop} {o : Oper} {a : Act} {K : Act → World → Prop} {w : World} (f : FuncId) (args : Array Value) (he : (execOp a.eval o).run P w = .ok (.enter f args) w) (h : Calls P f args w fun e w' => ∃ v, e = .returned v ∧ K (a.put o.dst v) w') : o.wp P a w K Q := by
  unfold Oper.wp
  rw [he, Oper.upon_enter]
  refine h.mono ?_
  rintro e w' ⟨v, rfl, hk⟩
  exact hk
end Go.Proofs.YtehacdijleommaaGreatDoor
