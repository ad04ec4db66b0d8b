/-
  My own text: UPick, SFh in one.
-/
import Derived.Test.YtgeholiagcckoaaGreatDoorG0
import Derived.Test.YtgeholiagcckoaaGreatDoorErr
import Derived.Laws.StructEq
namespace Go.Proofs.YtgeholiagcckoaaGreatDoor
open Go.RowKit

theorem pick_eq (k : Int) {n : Int} (h : 0 < n) : -n < k.tmod n ∧ k.tmod n < n ∧ k % n = if k.tmod n < 0 then k.tmod n + n else k.tmod n := by
  have h1 := Int.lt_tmod_of_pos k h
  have h2 := Int.tmod_lt_of_pos k h
  refine ⟨h1, h2, ?_⟩
  have e : (k.tmod n) % n = k % n := by rw [Int.tmod_def, Int.sub_mul_emod_self_left]
  rw [← e]
  split
  · rw [← Int.add_emod_right, Int.emod_eq_of_lt (by omega) (by omega)]
  · rw [Int.emod_eq_of_lt (by omega) (by omega)]
theorem pick_any (k n : Int) (w : World) (h1 : 0 < n) (h2 : n ≤ 4000000) :
    Calls Tryz.prog 45 #[.int .i64 k, .int .i64 n] w fun e w' => e = .returned (.int .i64 (k % n)) ∧ w' = w := by
  obtain ⟨t0, t1, t2⟩ := pick_eq k h1
  have H := hide t2
  clear t2
  have hn : ¬ n < 1 := by omega
  have hz : (n == 0) = false := by simp; omega
  have hz2 : ¬ n = 0 := by omega
  by_cases hneg : k.tmod n < 0
  · rw [if_pos hneg] at H
    go_enter Tryz.func45, Tryz.ntmps45
    go_wp2
    go_ret
    exact ⟨ret_i H.out.symm, rfl⟩
  · rw [if_neg hneg] at H
    go_enter Tryz.func45, Tryz.ntmps45
    go_wp2
    go_ret
    exact ⟨ret_i H.out.symm, rfl⟩
end Go.Proofs.YtgeholiagcckoaaGreatDoor
namespace Go.Proofs.YtgeholiagcckoaaGreatDoor
open Go.RowKit

theorem f_ofS (k : Int) : ∃ f : Bool, k % 2 = (f.toNat : Int) := by
  rcases (show k % 2 = 0 ∨ k % 2 = 1 by omega) with h | h
  · exact ⟨false, h⟩
  · exact ⟨true, h⟩
theorem bool_ltS (f : Bool) : f.toNat < 2 := by cases f <;> decide
theorem gtNilS (q : Nat) (W : World) : (binOp .eql 28 (.pointer (some ⟨q, 0, none⟩)) (.pointer none)).run Tryz.prog W = .ok (.bool false) W := by kernel_rfl
theorem Tryz.undSd : Tryz.prog.underlying 84 = some (.struct (Tryz.prog.fieldsOf 84)) := by kernel_rfl
theorem Tryz.stoodSd : Tryz.prog.stoodInHeld 84 = false := by kernel_rfl
theorem eqSd (s : ByteArray) (x : Int) (b : Bool) (W : World) : (Op.equalIn 10000 84 (.agg #[.string s, .int .i64 x, .bool b]) (.agg #[.string s, .int .i64 x, .bool b])).run Tryz.prog W = .ok true W := by
  rw [run_equalIn_struct W 9999 _ _ _ Tryz.undSd Tryz.stoodSd]
  have ui := Tryz.underlying3
  have us := Tryz.underlying9
  have ub := Tryz.underlying4
  have e1 : ∀ (x : Int) (W : World), (Op.equalIn 9999 3 (.int .i64 x) (.int .i64 x)).run Tryz.prog W = .ok true W := fun x W => by rw [show (9999 : Nat) = 9998 + 1 from rfl, run_equalIn_int W 9998 _ _ _ _ _ ui]; simp
  have e2 : ∀ (x : ByteArray) (W : World), (Op.equalIn 9999 9 (.string x) (.string x)).run Tryz.prog W = .ok true W := fun x W => by rw [show (9999 : Nat) = 9998 + 1 from rfl, run_equalIn_string W 9998 _ _ _ us]; simp
  have e3 : ∀ (x : Bool) (W : World), (Op.equalIn 9999 4 (.bool x) (.bool x)).run Tryz.prog W = .ok true W := fun x W => by rw [show (9999 : Nat) = 9998 + 1 from rfl, run_equalIn_bool W 9998 _ _ _ ub]; simp
  simp only [Program.fieldsOf, Tryz.underlying84]
  simp [Op.eqFields, part, isAgg, underlying, ui, us, ub, Result.andThen, e1, e2, e3]
theorem run_neq_sd (s : ByteArray) (x : Int) (b : Bool) (W : World) : (binOp .neq 84 (.agg #[.string s, .int .i64 x, .bool b]) (.agg #[.string s, .int .i64 x, .bool b])).run Tryz.prog W = .ok (.bool false) W := by
  simp only [binOp]
  simp [Op.equal, Op.maxDepth, eqSd]
theorem op_call_fnS {P : Program} {Q : Exit → Act → World → Prop} {o : Oper} {a : Act} {K : Act → World → Prop} {w : World} (f : FuncId) (args : Array Value) (he : (execOp a.eval o).run P w = .ok (.enter f args) w) (h : Calls P f args w fun e w' => ∃ v, e = .returned v ∧ K (a.put o.dst v) w') : o.wp P a w K Q := by
  unfold Oper.wp
  rw [he, Oper.upon_enter]
  refine h.mono ?_
  rintro e w' ⟨v, rfl, hk⟩
  exact hk
set_option maxRecDepth 100000 in
theorem apartKeys_nil (w : World) : Calls Tryz.prog 50 #[.slice none 0 0] w fun e w' => e = .returned (.bool true) ∧ Below w.heap.size w w' := by
  go_enter Tryz.func50, Tryz.ntmps50
  go_wp2_with fail
  go_loopw [3] (fun i wr => i = .int .i64 0 ∧ wr = w) (fun _ _ => 0)
  case atStart => exact ⟨rfl, rfl⟩
  case round =>
    obtain ⟨rfl, rfl⟩ := hrel
    go_wp2_with fail
    go_loopw [5, 6] (fun g i wr2 => g = .slice none 0 0 ∧ i = .int .i64 0 ∧ wr2 = wr) (fun _ _ _ => 0)
    case atStart => exact ⟨rfl, rfl, rfl⟩
    case round =>
      obtain ⟨rfl, rfl, rfl⟩ := hrel
      go_wp2_with fail
      go_loopw [9] (fun i wr3 => i = .int .i64 0 ∧ wr3 = wr) (fun _ _ => 0)
      case atStart => exact ⟨rfl, rfl⟩
      case round =>
        obtain ⟨rfl, rfl⟩ := hrel
        go_wp2_with fail
        go_ret
        exact ⟨rfl, Below.refl _ _⟩
end Go.Proofs.YtgeholiagcckoaaGreatDoor
