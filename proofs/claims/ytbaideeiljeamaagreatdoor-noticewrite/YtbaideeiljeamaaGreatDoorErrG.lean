/-
  My own text: ErrF, ErrG in one.
-/
import Derived.Test.YtbaideeiljeamaaGreatDoorC1
import Derived.Deep.RegionWith
import Derived.BigRegion
import Derived.Laws.CopyOwn
namespace Go.Proofs.YtbaideeiljeamaaGreatDoor.LC
open Go.RowKit Go.Extern.Stop Go.Stop Go.Extern

/-- A fault of number 6 at a place, as an error. -/
def fltV (k : Int) : Value := .iface 52 (.agg #[.int .i64 6, .int .i64 0, .int .i64 k])
theorem Tryz.fNoIs (v : Value) (xT : TypeId) (w : World) : (Instr.typeAssert (.iface 52 v) xT 160 true).run Tryz.prog w = .ok (.tuple #[.nilIface, .bool false]) w := run_typeAssert_lacksB Tryz.underlying160 (by kernel_rfl) (by kernel_rfl) v xT w
theorem Tryz.fUnwrap (v : Value) (xT : TypeId) (w : World) : (Instr.typeAssert (.iface 52 v) xT 135 true).run Tryz.prog w = .ok (.tuple #[.iface 52 v, .bool true]) w := run_typeAssert_hasB Tryz.underlying135 (by kernel_rfl) v xT w
theorem Tryz.fMethodUnwrap (v : Value) (w : World) : (Go.method 340 52 v "Unwrap").run Tryz.prog w = .ok (198, v) w := by kernel_rfl
theorem Tryz.fEql (v u : Value) (w : World) : (binOp .eql 32 (.iface 52 v) (.iface 50 u)).run Tryz.prog w = .ok (.bool false) w := run_eql_iface_types 52 50 v u Tryz.underlying32 (by decide) w

set_option maxHeartbeats 4000000 in
theorem is_fault (k b : Int) (w : World) :
    Calls Tryz.prog 67 #[fltV k, .iface 50 (.int .i64 b)] w fun e w' => e = .returned (.bool ((6 : Int) == b)) ∧ w' = w.alloc (.cells #[.int .i64 6, .int .i64 0, .int .i64 k] 52) := by
  obtain ⟨i, hi, hcmp⟩ := Option.map_eq_some_iff.1 Tryz.eComp
  have h8 := @run_callFunc_extern Tryz.prog 99 _ ReflectliteType.typeOf Tryz.func99 (by kernel_rfl) (by kernel_rfl) (by kernel_rfl) (by kernel_rfl)
  have tT := Tryz.eTypeOf
  have cT := Tryz.eComparable
  have mR := Tryz.eMethodComparable
  have nE := Tryz.noIs
  have uE := Tryz.noUnwrap
  have vE := Tryz.noUnwraps
  have nF := Tryz.fNoIs
  have uF := Tryz.fUnwrap
  have mF := Tryz.fMethodUnwrap
  have qF := Tryz.fEql
  have heq := fun W : World => run_eql_iface_int (P := Tryz.prog) W 6 b Tryz.underlying32 Tryz.underlying50 hi hcmp
  unfold fltV
  cases hab : ((6 : Int) == b)
  all_goals
    rw [hab] at heq
    clear hab
    go_enter Tryz.func67, Tryz.ntmps67
    go_wp2
    refine wp_loop_rounds 2 ?_
    rw [rounds_succ]
    go_wp2
    rw [rounds_succ]
    go_wp2
    go_ret
    exact ⟨rfl, rfl⟩

set_option maxHeartbeats 1000000 in
theorem num_fault (k : Int) (w : World) :
    Calls Tryz.prog 17 #[fltV k] w fun e w' => e = .returned (.int .i64 6) ∧ Below w.heap.size w w' := by
  unfold fltV
  go_enter Tryz.func17, Tryz.ntmps17
  go_wp2
  go_loopw [3, 4] (fun f j wr => ∃ i : Int, 1 ≤ i ∧ i ≤ 25 ∧ j = .int .i64 i ∧ f = .int .i64 (if 6 < i then 6 else 0) ∧ Below w.heap.size w wr) (fun _ j _ => (25 - intOf j).toNat)
  case atStart => exact ⟨1, by omega, by omega, rfl, by rw [if_neg (by omega)], Below.refl _ _⟩
  case round =>
    obtain ⟨i, hi1, hi2, rfl, rfl, hB⟩ := hrel
    by_cases hlt : i ≤ 24
    · by_cases he : 6 = i
      · subst he
        have hb : ((6 : Int) == 6) = true := by decide
        rw [if_neg (by omega)]
        go_wp2_with (go_at_call 67; refine (is_fault k _ _).mono ?_; rintro e w' ⟨rfl, rfl⟩)
        go_roundw
        case rel => exact ⟨7, by omega, by omega, rfl, by rw [if_pos (by omega)], hB.alloc hB.size _⟩
        case measure => simp [intOf]
      · have hb : ((6 : Int) == i) = false := by simpa using he
        go_wp2_with (go_at_call 67; refine (is_fault k _ _).mono ?_; rintro e w' ⟨rfl, rfl⟩)
        go_roundw
        case rel => exact ⟨i + 1, by omega, by omega, rfl, congrArg _ (num_step 6 i he), hB.alloc hB.size _⟩
        case measure => simp [intOf]; omega
    · rw [if_pos (by omega)]
      go_wp2_with (go_at_call 67; refine (is_fault k _ _).mono ?_; rintro e w' ⟨rfl, rfl⟩)
      go_ret
      exact ⟨rfl, hB.alloc hB.size _⟩

/-! ### errors.As of such an error at a target of its own type: a hit -/
theorem Tryz.fTypeOf (v : Value) (w : World) : (ReflectliteType.typeOf #[.iface 52 v]).run Tryz.prog w = .ok (.iface 128 (.agg #[.pointer (some ⟨11, 52, none⟩)])) w := by kernel_rfl
theorem Tryz.assignableFF (w : World) : (ReflectliteType.relation "AssignableTo" ReflectliteType.assignableTo #[.agg #[.pointer (some ⟨11, 52, none⟩)], .iface 128 (.agg #[.pointer (some ⟨11, 52, none⟩)])]).run Tryz.prog w = .ok (.bool true) w := by kernel_rfl
theorem Tryz.partsF (a : Addr) (w : World) : (ReflectliteValue.parts (.agg #[.pointer (some ⟨11, 52, none⟩), .pointer (some a), .int .u64 409])).run Tryz.prog w = .ok (some (52, a, 409)) w := by kernel_rfl
theorem Tryz.partsG (a : Addr) (w : World) : (ReflectliteValue.parts (.agg #[.pointer (some ⟨11, 52, none⟩), .pointer (some a), .int .u64 153])).run Tryz.prog w = .ok (some (52, a, 153)) w := by kernel_rfl
theorem Tryz.elemTF (w : World) : (Rtype.elem? 55).run Tryz.prog w = .ok (some 52) w := by kernel_rfl
theorem Tryz.mkF (a : Addr) (w : World) : (ReflectliteValue.mk 52 a ReflectliteValue.flagAddr).run Tryz.prog w = .ok (.agg #[.pointer (some ⟨11, 52, none⟩), .pointer (some a), .int .u64 409]) w := by kernel_rfl
theorem Tryz.elemVF (a p : Addr) (W : World) (ha : W.cell? a = some (.pointer (some p))) :
    (ReflectliteValue.method (ReflectliteValue.valueError "reflectlite.Value.Elem" 0) ReflectliteValue.elem #[.agg #[.pointer (some ⟨11, 55, none⟩), .pointer (some a), .int .u64 150]]).run Tryz.prog W = .ok (.agg #[.pointer (some ⟨11, 52, none⟩), .pointer (some p), .int .u64 409]) W := by
  rw [rlm]
  simp only [Sem.run_bind, Tryz.partsP, Result.andThen]
  have e := Tryz.elemTF W
  have m := Tryz.mkF p W
  have hl : (loadVar 55 a).run Tryz.prog W = .ok (.pointer (some p)) W := by simp [loadVar, isAgg, underlying, Tryz.underlying55, ha, Result.andThen]
  simp [ReflectliteValue.elem, hl, e, m, Result.andThen]
theorem Tryz.valueOfG (v0 v1 v2 : Value) (w : World) : (ReflectliteValue.unpack (.iface 52 (.agg #[v0, v1, v2]))).run Tryz.prog w
    = .ok (.agg #[.pointer (some ⟨11, 52, none⟩), .pointer (some ⟨w.heap.size, 0, none⟩), .int .u64 153]) (w.alloc (.cells #[v0, v1, v2] 52)) := by kernel_rfl
theorem Tryz.directF (w : World) : (Rtype.directlyAssignable 52 52).run Tryz.prog w = .ok true w := by kernel_rfl
theorem Tryz.sizeF : (Tryz.prog.info? 52).map (·.size) = some 3 := by kernel_rfl
theorem Tryz.setF (W : World) (g b : Nat) (old cs : Array Value) (hg : W.heap[g]? = some (.cells old 52 (0, 0))) (ho : old.size = 3) (hb : W.heap[b]? = some (.cells cs 52 (0, 0))) (hc : cs.size = 3) (h1 : cs.all (·.oneCell') = true) :
    (ReflectliteValue.set #[.agg #[.pointer (some ⟨11, 52, none⟩), .pointer (some ⟨g, 0, none⟩), .int .u64 409], .agg #[.pointer (some ⟨11, 52, none⟩), .pointer (some ⟨b, 0, none⟩), .int .u64 153]]).run Tryz.prog W = .ok (.tuple #[]) (W.setRow g cs) := by
  have hl := run_loadVar_row (P := Tryz.prog) W b 52 52 cs (0, 0) _ hb Tryz.underlying52 rfl (by rw [hc]; exact Tryz.sizeF)
  have hs := run_storeVar_row (P := Tryz.prog) W g 52 52 old cs hg (by rw [hc]; exact Tryz.sizeF) (by rw [ho, hc]) h1
  have p1 := Tryz.partsF ⟨g, 0, none⟩ W
  have p2 := Tryz.partsG ⟨b, 0, none⟩ W
  have d1 := Tryz.directF W
  refine (show _ = (ReflectliteValue.parts (.agg #[.pointer (some ⟨11, 52, none⟩), .pointer (some ⟨g, 0, none⟩), .int .u64 409]) >>= _).run Tryz.prog W from rfl).trans ?_
  simp [p1, p2, hl, hs, d1, Result.andThen, ReflectliteValue.flagAddr, Array.getLit]
end Go.Proofs.YtbaideeiljeamaaGreatDoor.LC
namespace Go.Proofs.YtbaideeiljeamaaGreatDoor.LC
open Go.RowKit Go.Extern.Stop Go.Stop Go.Extern

/-- The world behind errors.As of a fault. -/
def asHit (g : Nat) (k : Int) (w : World) : World :=
  ((asMiss ⟨g, 0, none⟩ w).alloc (.cells #[.int .i64 6, .int .i64 0, .int .i64 k] 52)).setRow g #[.int .i64 6, .int .i64 0, .int .i64 k]
theorem asHit_below {g B : Nat} {k : Int} {w : World} (hB : B ≤ g) (hw : B ≤ w.heap.size) : Below B w (asHit g k w) :=
  below_setRow ((((((Below.refl B w).alloc hw _).alloc (by simp; omega) _).alloc (by simp; omega) _)).alloc (by simp; omega) _) hB _
theorem asMiss_block {g : Nat} {t : Addr} {w : World} {o : Obj} (h : w.heap[g]? = some o) : (asMiss t w).heap[g]? = some o := by
  have hlt : g < w.heap.size := by
    by_cases hc : g < w.heap.size
    · exact hc
    · rw [Array.getElem?_eq_none (by omega)] at h; cases h
  have hb := (asMiss_below t w).block g hlt
  rw [hb]; exact h
theorem asMiss_size (t : Addr) (w : World) : (asMiss t w).heap.size = w.heap.size + 1 + 1 + 1 := by simp [asMiss]
theorem alloc_block {w : World} {b : Nat} {o x : Obj} (hh : w.heap[b]? = some x) : (w.alloc o).heap[b]? = some x := by
  have hlt : b < w.heap.size := by
    by_cases hc : b < w.heap.size
    · exact hc
    · rw [Array.getElem?_eq_none (by omega)] at hh; cases hh
  rw [Below.heap_alloc _ _ _ hlt]; exact hh
theorem alloc_new (w : World) (o : Obj) : (w.alloc o).heap[w.heap.size]? = some o := (MapKept.heap_alloc w o).1

set_option maxHeartbeats 4000000 in
theorem as_hit (k : Int) (g : Nat) (old : Array Value) (w : World) (hE : ErrType w) (hg : w.heap[g]? = some (.cells old 52 (0, 0))) (ho : old.size = 3) :
    Calls Tryz.prog 18 #[fltV k, .iface 55 (.pointer (some ⟨g, 0, none⟩))] w fun e w' => e = .returned (.bool true) ∧ w' = asHit g k w := by
  have h6 := @run_callFunc_extern Tryz.prog 68 _ (fun args => ReflectliteValue.unpack (args.getD 0 (.tuple #[]))) Tryz.func68 (by kernel_rfl) (by kernel_rfl) (by kernel_rfl) (by kernel_rfl)
  have h7 := @run_callFunc_extern Tryz.prog 69 _ (ReflectliteValue.methodAny (ReflectliteValue.valueError "reflectlite.Value.Type" 0) (fun t _ _ _ => ReflectliteType.toType t)) Tryz.func69 (by kernel_rfl) (by kernel_rfl) (by kernel_rfl) (by kernel_rfl)
  have h8 := @run_callFunc_extern Tryz.prog 70 _ (ReflectliteValue.method (ReflectliteValue.valueError "reflectlite.Value.IsNil" 0) ReflectliteValue.isNil) Tryz.func70 (by kernel_rfl) (by kernel_rfl) (by kernel_rfl) (by kernel_rfl)
  have h27 := @run_callFunc_extern Tryz.prog 193 _ (ReflectliteType.abiMethod fun t => do pure (.int .u8 (← Rtype.kind t))) Tryz.func193 (by kernel_rfl) (by kernel_rfl) (by kernel_rfl) (by kernel_rfl)
  have h37 := @run_callFunc_extern Tryz.prog 205 _ (ReflectliteType.method ReflectliteType.elem) Tryz.func205 (by kernel_rfl) (by kernel_rfl) (by kernel_rfl) (by kernel_rfl)
  have h38 := @run_callFunc_extern Tryz.prog 206 _ (ReflectliteType.relation "Implements" ReflectliteType.implements_) Tryz.func206 (by kernel_rfl) (by kernel_rfl) (by kernel_rfl) (by kernel_rfl)
  have h10 := @run_callFunc_extern Tryz.prog 99 _ ReflectliteType.typeOf Tryz.func99 (by kernel_rfl) (by kernel_rfl) (by kernel_rfl) (by kernel_rfl)
  have h35 := @run_callFunc_extern Tryz.prog 203 _ (ReflectliteType.relation "AssignableTo" ReflectliteType.assignableTo) Tryz.func203 (by kernel_rfl) (by kernel_rfl) (by kernel_rfl) (by kernel_rfl)
  have h62 := @run_callFunc_extern Tryz.prog 101 _ (ReflectliteValue.method (ReflectliteValue.valueError "reflectlite.Value.Elem" 0) ReflectliteValue.elem) Tryz.func101 (by kernel_rfl) (by kernel_rfl) (by kernel_rfl) (by kernel_rfl)
  have h63 := @run_callFunc_extern Tryz.prog 102 _ ReflectliteValue.set Tryz.func102 (by kernel_rfl) (by kernel_rfl) (by kernel_rfl) (by kernel_rfl)
  have tO := Tryz.fTypeOf
  have mA := Tryz.methodAssignableTo
  have aE := Tryz.assignableFF
  have f6 := Tryz.valueOfF
  have g6 := Tryz.valueOfG
  have f7 := Tryz.typeF
  have mK := Tryz.methodKind
  have mE := Tryz.methodElem
  have mI := Tryz.methodImplements
  have k27 := Tryz.kindP
  have k25 := Tryz.kindF
  have e27 := Tryz.elemP
  have i25 := Tryz.implementsF
  have n8 := Tryz.isNilP ⟨w.heap.size, 0, none⟩ ⟨g, 0, none⟩ ((w.alloc (.cells #[.pointer (some ⟨g, 0, none⟩)] 55)).alloc (.cells #[.pointer (some ⟨11, 55, none⟩), .pointer (some ⟨w.heap.size, 0, none⟩), .int .u64 150] 88)) (by simp)
  have hlt := hE.lt
  have hg2 : ((w.alloc (.cells #[.pointer (some ⟨g, 0, none⟩)] 55)).alloc (.cells #[.pointer (some ⟨11, 55, none⟩), .pointer (some ⟨w.heap.size, 0, none⟩), .int .u64 150] 88)).cell? ⟨0, 0, none⟩ = some (.iface 128 (.agg #[.pointer (some ⟨11, 32, none⟩)])) := by
    rw [World.cell?_alloc_lt _ _ ⟨0, 0, none⟩ (by simp; try omega), World.cell?_alloc_lt _ _ ⟨0, 0, none⟩ hlt]; exact hE
  have hc3 : (asMiss ⟨g, 0, none⟩ w).cell? ⟨w.heap.size, 0, none⟩ = some (.pointer (some ⟨g, 0, none⟩)) := by
    unfold asMiss
    rw [World.cell?_alloc_lt _ _ ⟨w.heap.size, 0, none⟩ (by simp; try omega), World.cell?_alloc_lt _ _ ⟨w.heap.size, 0, none⟩ (by simp)]
    simp
  have e62 := Tryz.elemVF ⟨w.heap.size, 0, none⟩ ⟨g, 0, none⟩ _ hc3
  have s63 := Tryz.setF ((asMiss ⟨g, 0, none⟩ w).alloc (.cells #[.int .i64 6, .int .i64 0, .int .i64 k] 52)) g (w.heap.size + 1 + 1 + 1) old #[.int .i64 6, .int .i64 0, .int .i64 k] (alloc_block (asMiss_block hg)) ho (by rw [← asMiss_size ⟨g, 0, none⟩ w]; exact alloc_new _ _) rfl (by simp [Value.oneCell'])
  unfold asHit
  unfold asMiss at *
  clear hc3 hg ho
  unfold fltV
  go_enter Tryz.func18, Tryz.ntmps18
  go_wp2
  refine wp_loop_rounds 1 ?_
  rw [rounds_succ]
  go_wp2
  go_ret
  exact ⟨rfl, rfl⟩

theorem ret_place {a b : Int} {c : Bool} {a' b' : Int} {c' : Bool} (h : a = a') (h2 : b = b') (h3 : c = c') : Ending.returned (.tuple #[.int .i64 a, .int .i64 b, .bool c]) = .returned (.tuple #[.int .i64 a', .int .i64 b', .bool c']) := by rw [h, h2, h3]
/-- What a law asks of an error: its number, and a place just with the number 6. -/
def Err6 (r : Int × Int) : Prop := (r.1 = 6 ∧ 0 ≤ r.2) ∨ (0 ≤ r.1 ∧ r.1 ≤ 24 ∧ r.1 ≠ 6)
theorem err6_form (l f : List UInt8) : Err6 (formR l f) := by
  rcases formR_lo l f with h | h | h | ⟨k, _, h⟩
  · rw [h]; exact .inr (by decide)
  · rw [h]; exact .inr (by decide)
  · rw [h]; exact .inr (by decide)
  · rw [h]; exact .inl ⟨rfl, by simp⟩
theorem errF_fault (k : Int) : errF (6, k) = fltV k := rfl
end Go.Proofs.YtbaideeiljeamaaGreatDoor.LC
