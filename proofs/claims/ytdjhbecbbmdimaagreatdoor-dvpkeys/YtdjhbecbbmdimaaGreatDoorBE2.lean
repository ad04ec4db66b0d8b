/-
  My own text: refusals that wrap a number or a fault: errors.Is, errors.As, the number, the place, plain ones.
-/
import Derived.Test.YtdjhbecbbmdimaaGreatDoorBE1
namespace Go.Proofs.YtdjhbecbbmdimaaGreatDoor.BL
open Go.RowKit Go.Extern.Stop Go.Stop Go.Extern

/-- A refusal as an error. -/
def refV (s : List UInt8) (v : Value) : Value := .iface 197 (.agg #[.string ⟨s.toArray⟩, v])
theorem Tryz.rNoIs (v : Value) (xT : TypeId) (w : World) : (Instr.typeAssert (.iface 197 v) xT 192 true).run Tryz.prog w = .ok (.tuple #[.nilIface, .bool false]) w := run_typeAssert_lacksB Tryz.underlying192 (by kernel_rfl) (by kernel_rfl) v xT w
theorem Tryz.rNoAs (v : Value) (xT : TypeId) (w : World) : (Instr.typeAssert (.iface 197 v) xT 169 true).run Tryz.prog w = .ok (.tuple #[.nilIface, .bool false]) w := run_typeAssert_lacksB Tryz.underlying169 (by kernel_rfl) (by kernel_rfl) v xT w
theorem Tryz.rUnwrap (v : Value) (xT : TypeId) (w : World) : (Instr.typeAssert (.iface 197 v) xT 172 true).run Tryz.prog w = .ok (.tuple #[.iface 197 v, .bool true]) w := run_typeAssert_hasB Tryz.underlying172 (by kernel_rfl) v xT w
theorem Tryz.rMethodUnwrap (v : Value) (w : World) : (Go.method 338 197 v "Unwrap").run Tryz.prog w = .ok (179, v) w := by kernel_rfl
theorem Tryz.rEql (v u : Value) (w : World) : (binOp .eql 74 (.iface 197 v) (.iface 52 u)).run Tryz.prog w = .ok (.bool false) w := run_eql_iface_types 197 52 v u Tryz.underlying74 (by decide) w
theorem Tryz.rTypeOf (v : Value) (w : World) : (ReflectliteType.typeOf #[.iface 197 v]).run Tryz.prog w = .ok (.iface 164 (.agg #[.pointer (some ⟨1, 197, none⟩)])) w := by kernel_rfl
theorem Tryz.rAssignable (w : World) : (ReflectliteType.relation "AssignableTo" ReflectliteType.assignableTo #[.agg #[.pointer (some ⟨1, 197, none⟩)], .iface 164 (.agg #[.pointer (some ⟨1, 201, none⟩)])]).run Tryz.prog w = .ok (.bool false) w := by kernel_rfl

set_option maxHeartbeats 4000000 in
theorem is_rn (s : List UInt8) (no b : Int) (w : World) :
    Calls Tryz.prog 77 #[refV s (.iface 52 (.int .i64 no)), .iface 52 (.int .i64 b)] w fun e w' => e = .returned (.bool (no == b)) ∧ Below w.heap.size w w' := by
  obtain ⟨i, hi, hcmp⟩ := Option.map_eq_some_iff.1 Tryz.eComp
  have h8 := @run_callFunc_extern Tryz.prog 104 _ ReflectliteType.typeOf Tryz.func104 (by kernel_rfl) (by kernel_rfl) (by kernel_rfl) (by kernel_rfl)
  have tT := Tryz.eTypeOf
  have cT := Tryz.eComparable
  have mR := Tryz.eMethodComparable
  have nE := Tryz.noIs
  have uE := Tryz.noUnwrap
  have vE := Tryz.noUnwraps
  have nR := Tryz.rNoIs
  have uR := Tryz.rUnwrap
  have mU := Tryz.rMethodUnwrap
  have qR := Tryz.rEql
  have heq := fun W : World => run_eql_iface_int (P := Tryz.prog) W no b Tryz.underlying74 Tryz.underlying52 hi hcmp
  have HB := hide ((Below.refl w.heap.size w).alloc (Nat.le_refl _) (.cells #[.string ⟨s.toArray⟩, .iface 52 (.int .i64 no)] 197))
  unfold refV
  cases hab : (no == b)
  all_goals
    rw [hab] at heq
    clear hab
    go_enter Tryz.func77, Tryz.ntmps77
    go_wp2
    refine wp_loop_rounds 2 ?_
    rw [rounds_succ]
    go_wp2
    rw [rounds_succ]
    go_wp2
    go_ret
    exact ⟨rfl, HB.out⟩
set_option maxHeartbeats 4000000 in
theorem is_rf (s : List UInt8) (no ln k b : Int) (w : World) :
    Calls Tryz.prog 77 #[refV s (fltV no ln k), .iface 52 (.int .i64 b)] w fun e w' => e = .returned (.bool (no == b)) ∧ Below w.heap.size w w' := by
  obtain ⟨i, hi, hcmp⟩ := Option.map_eq_some_iff.1 Tryz.eComp
  have h8 := @run_callFunc_extern Tryz.prog 104 _ ReflectliteType.typeOf Tryz.func104 (by kernel_rfl) (by kernel_rfl) (by kernel_rfl) (by kernel_rfl)
  have tT := Tryz.eTypeOf
  have cT := Tryz.eComparable
  have mR := Tryz.eMethodComparable
  have nE := Tryz.noIs
  have uE := Tryz.noUnwrap
  have vE := Tryz.noUnwraps
  have nR := Tryz.rNoIs
  have uR := Tryz.rUnwrap
  have mU := Tryz.rMethodUnwrap
  have qR := Tryz.rEql
  have nF := Tryz.fNoIs
  have uF := Tryz.fUnwrap
  have mF := Tryz.fMethodUnwrap
  have qF := Tryz.fEql
  have heq := fun W : World => run_eql_iface_int (P := Tryz.prog) W no b Tryz.underlying74 Tryz.underlying52 hi hcmp
  have HB := hide (((Below.refl w.heap.size w).alloc (Nat.le_refl _) (.cells #[.string ⟨s.toArray⟩, fltV no ln k] 197)).alloc (by simp) (.cells #[.int .i64 no, .int .i64 ln, .int .i64 k] 201))
  unfold fltV at HB
  unfold refV fltV
  cases hab : (no == b)
  all_goals
    rw [hab] at heq
    clear hab
    go_enter Tryz.func77, Tryz.ntmps77
    go_wp2
    refine wp_loop_rounds 3 ?_
    rw [rounds_succ]
    go_wp2
    rw [rounds_succ]
    go_wp2
    rw [rounds_succ]
    go_wp2
    go_ret
    exact ⟨rfl, HB.out⟩
/-! ### errors.As -/
end Go.Proofs.YtdjhbecbbmdimaaGreatDoor.BL
