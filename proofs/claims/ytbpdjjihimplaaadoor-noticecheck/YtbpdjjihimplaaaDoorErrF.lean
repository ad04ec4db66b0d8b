/-
  My own text: errors that tell a place: errors.Is, errors.As, the number, the place.
-/
import Derived.Test.YtbpdjjihimplaaaDoorC1
import Derived.Deep.RegionWith
import Derived.BigRegion
namespace Go.Proofs.YtbpdjjihimplaaaDoor.LC
open Go.RowKit Go.Extern.Stop Go.Stop Go.Extern

/-- A fault of number 6 at a place, as an error. -/
def fltV (k : Int) : Value := .iface 37 (.agg #[.int .i64 6, .int .i64 0, .int .i64 k])
theorem Tryd.fNoIs (v : Value) (xT : TypeId) (w : World) : (Instr.typeAssert (.iface 37 v) xT 100 true).run Tryd.prog w = .ok (.tuple #[.nilIface, .bool false]) w := run_typeAssert_lacksB Tryd.underlying100 (by kernel_rfl) (by kernel_rfl) v xT w
theorem Tryd.fUnwrap (v : Value) (xT : TypeId) (w : World) : (Instr.typeAssert (.iface 37 v) xT 80 true).run Tryd.prog w = .ok (.tuple #[.iface 37 v, .bool true]) w := run_typeAssert_hasB Tryd.underlying80 (by kernel_rfl) v xT w
theorem Tryd.fMethodUnwrap (v : Value) (w : World) : (Go.method 239 37 v "Unwrap").run Tryd.prog w = .ok (82, v) w := by kernel_rfl
theorem Tryd.fEql (v u : Value) (w : World) : (binOp .eql 30 (.iface 37 v) (.iface 35 u)).run Tryd.prog w = .ok (.bool false) w := run_eql_iface_types 37 35 v u Tryd.underlying30 (by decide) w

set_option maxHeartbeats 4000000 in
theorem is_fault (k b : Int) (w : World) :
    Calls Tryd.prog 19 #[fltV k, .iface 35 (.int .i64 b)] w fun e w' => e = .returned (.bool ((6 : Int) == b)) ∧ w' = w.alloc (.cells #[.int .i64 6, .int .i64 0, .int .i64 k] 37) := by
  obtain ⟨i, hi, hcmp⟩ := Option.map_eq_some_iff.1 Tryd.eComp
  have h8 := @run_callFunc_extern Tryd.prog 38 _ ReflectliteType.typeOf Tryd.func38 (by kernel_rfl) (by kernel_rfl) (by kernel_rfl) (by kernel_rfl)
  have tT := Tryd.eTypeOf
  have cT := Tryd.eComparable
  have mR := Tryd.eMethodComparable
  have nE := Tryd.noIs
  have uE := Tryd.noUnwrap
  have vE := Tryd.noUnwraps
  have nF := Tryd.fNoIs
  have uF := Tryd.fUnwrap
  have mF := Tryd.fMethodUnwrap
  have qF := Tryd.fEql
  have heq := fun W : World => run_eql_iface_int (P := Tryd.prog) W 6 b Tryd.underlying30 Tryd.underlying35 hi hcmp
  unfold fltV
  cases hab : ((6 : Int) == b)
  all_goals
    rw [hab] at heq
    clear hab
    go_enter Tryd.func19, Tryd.ntmps19
    go_wp2
    refine wp_loop_rounds 2 ?_
    rw [rounds_succ]
    go_wp2
    rw [rounds_succ]
    go_wp2
    go_ret
    exact ⟨rfl, rfl⟩

set_option maxHeartbeats 1000000 in
theorem num_fault (k : Int) (w : World) :
    Calls Tryd.prog 10 #[fltV k] w fun e w' => e = .returned (.int .i64 6) ∧ Below w.heap.size w w' := by
  unfold fltV
  go_enter Tryd.func10, Tryd.ntmps10
  go_wp2
  go_loopw [3, 4] (fun f j wr => ∃ i : Int, 1 ≤ i ∧ i ≤ 25 ∧ j = .int .i64 i ∧ f = .int .i64 (if 6 < i then 6 else 0) ∧ Below w.heap.size w wr) (fun _ j _ => (25 - intOf j).toNat)
  case atStart => exact ⟨1, by omega, by omega, rfl, by rw [if_neg (by omega)], Below.refl _ _⟩
  case round =>
    obtain ⟨i, hi1, hi2, rfl, rfl, hB⟩ := hrel
    by_cases hlt : i ≤ 24
    · by_cases he : 6 = i
      · subst he
        have hb : ((6 : Int) == 6) = true := by decide
        rw [if_neg (by omega)]
        go_wp2_with (go_at_call 19; refine (is_fault k _ _).mono ?_; rintro e w' ⟨rfl, rfl⟩)
        go_roundw
        case rel => exact ⟨7, by omega, by omega, rfl, by rw [if_pos (by omega)], hB.alloc hB.size _⟩
        case measure => simp [intOf]
      · have hb : ((6 : Int) == i) = false := by simpa using he
        go_wp2_with (go_at_call 19; refine (is_fault k _ _).mono ?_; rintro e w' ⟨rfl, rfl⟩)
        go_roundw
        case rel => exact ⟨i + 1, by omega, by omega, rfl, congrArg _ (num_step 6 i he), hB.alloc hB.size _⟩
        case measure => simp [intOf]; omega
    · rw [if_pos (by omega)]
      go_wp2_with (go_at_call 19; refine (is_fault k _ _).mono ?_; rintro e w' ⟨rfl, rfl⟩)
      go_ret
      exact ⟨rfl, hB.alloc hB.size _⟩

/-! ### errors.As of such an error at a target of its own type: a hit -/
theorem Tryd.fTypeOf (v : Value) (w : World) : (ReflectliteType.typeOf #[.iface 37 v]).run Tryd.prog w = .ok (.iface 73 (.agg #[.pointer (some ⟨3, 37, none⟩)])) w := by kernel_rfl
theorem Tryd.assignableFF (w : World) : (ReflectliteType.relation "AssignableTo" ReflectliteType.assignableTo #[.agg #[.pointer (some ⟨3, 37, none⟩)], .iface 73 (.agg #[.pointer (some ⟨3, 37, none⟩)])]).run Tryd.prog w = .ok (.bool true) w := by kernel_rfl
theorem Tryd.partsF (a : Addr) (w : World) : (ReflectliteValue.parts (.agg #[.pointer (some ⟨3, 37, none⟩), .pointer (some a), .int .u64 409])).run Tryd.prog w = .ok (some (37, a, 409)) w := by kernel_rfl
theorem Tryd.partsG (a : Addr) (w : World) : (ReflectliteValue.parts (.agg #[.pointer (some ⟨3, 37, none⟩), .pointer (some a), .int .u64 153])).run Tryd.prog w = .ok (some (37, a, 153)) w := by kernel_rfl
theorem Tryd.elemTF (w : World) : (Rtype.elem? 40).run Tryd.prog w = .ok (some 37) w := by kernel_rfl
theorem Tryd.mkF (a : Addr) (w : World) : (ReflectliteValue.mk 37 a ReflectliteValue.flagAddr).run Tryd.prog w = .ok (.agg #[.pointer (some ⟨3, 37, none⟩), .pointer (some a), .int .u64 409]) w := by kernel_rfl
theorem Tryd.elemVF (a p : Addr) (W : World) (ha : W.cell? a = some (.pointer (some p))) :
    (ReflectliteValue.method (ReflectliteValue.valueError "reflectlite.Value.Elem" 0) ReflectliteValue.elem #[.agg #[.pointer (some ⟨3, 40, none⟩), .pointer (some a), .int .u64 150]]).run Tryd.prog W = .ok (.agg #[.pointer (some ⟨3, 37, none⟩), .pointer (some p), .int .u64 409]) W := by
  rw [rlm]
  simp only [Sem.run_bind, Tryd.partsP, Result.andThen]
  have e := Tryd.elemTF W
  have m := Tryd.mkF p W
  have hl : (loadVar 40 a).run Tryd.prog W = .ok (.pointer (some p)) W := by simp [loadVar, isAgg, underlying, Tryd.underlying40, ha, Result.andThen]
  simp [ReflectliteValue.elem, hl, e, m, Result.andThen]
theorem Tryd.valueOfG (v0 v1 v2 : Value) (w : World) : (ReflectliteValue.unpack (.iface 37 (.agg #[v0, v1, v2]))).run Tryd.prog w
    = .ok (.agg #[.pointer (some ⟨3, 37, none⟩), .pointer (some ⟨w.heap.size, 0, none⟩), .int .u64 153]) (w.alloc (.cells #[v0, v1, v2] 37)) := by kernel_rfl
theorem Tryd.directF (w : World) : (Rtype.directlyAssignable 37 37).run Tryd.prog w = .ok true w := by kernel_rfl
theorem Tryd.sizeF : (Tryd.prog.info? 37).map (·.size) = some 3 := by kernel_rfl
theorem Tryd.setF (W : World) (g b : Nat) (old cs : Array Value) (hg : W.heap[g]? = some (.cells old 37 (0, 0))) (ho : old.size = 3) (hb : W.heap[b]? = some (.cells cs 37 (0, 0))) (hc : cs.size = 3) (h1 : cs.all (·.oneCell') = true) :
    (ReflectliteValue.set #[.agg #[.pointer (some ⟨3, 37, none⟩), .pointer (some ⟨g, 0, none⟩), .int .u64 409], .agg #[.pointer (some ⟨3, 37, none⟩), .pointer (some ⟨b, 0, none⟩), .int .u64 153]]).run Tryd.prog W = .ok (.tuple #[]) (W.setRow g cs) := by
  have hl := run_loadVar_row (P := Tryd.prog) W b 37 37 cs (0, 0) _ hb Tryd.underlying37 rfl (by rw [hc]; exact Tryd.sizeF)
  have hs := run_storeVar_row (P := Tryd.prog) W g 37 37 old cs hg (by rw [hc]; exact Tryd.sizeF) (by rw [ho, hc]) h1
  have p1 := Tryd.partsF ⟨g, 0, none⟩ W
  have p2 := Tryd.partsG ⟨b, 0, none⟩ W
  have d1 := Tryd.directF W
  refine (show _ = (ReflectliteValue.parts (.agg #[.pointer (some ⟨3, 37, none⟩), .pointer (some ⟨g, 0, none⟩), .int .u64 409]) >>= _).run Tryd.prog W from rfl).trans ?_
  simp [p1, p2, hl, hs, d1, Result.andThen, ReflectliteValue.flagAddr, Array.getLit]
end Go.Proofs.YtbpdjjihimplaaaDoor.LC
