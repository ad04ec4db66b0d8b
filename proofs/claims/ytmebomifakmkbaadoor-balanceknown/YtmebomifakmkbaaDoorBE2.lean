/-
  My own text: refusals that wrap a number or a fault: errors.Is, errors.As, the number, the place, plain ones.
-/
import Derived.Test.YtmebomifakmkbaaDoorBE1
namespace Go.Proofs.YtmebomifakmkbaaDoor
open Go.RowKit Go.Extern.Stop Go.Stop Go.Extern

/-- A refusal as an error. -/
def refV (s : List UInt8) (v : Value) : Value := .iface 87 (.agg #[.string ⟨s.toArray⟩, v])
theorem Tryd.rNoIs (v : Value) (xT : TypeId) (w : World) : (Instr.typeAssert (.iface 87 v) xT 122 true).run Tryd.prog w = .ok (.tuple #[.nilIface, .bool false]) w := run_typeAssert_lacksB Tryd.underlying122 (by kernel_rfl) (by kernel_rfl) v xT w
theorem Tryd.rNoAs (v : Value) (xT : TypeId) (w : World) : (Instr.typeAssert (.iface 87 v) xT 113 true).run Tryd.prog w = .ok (.tuple #[.nilIface, .bool false]) w := run_typeAssert_lacksB Tryd.underlying113 (by kernel_rfl) (by kernel_rfl) v xT w
theorem Tryd.rUnwrap (v : Value) (xT : TypeId) (w : World) : (Instr.typeAssert (.iface 87 v) xT 116 true).run Tryd.prog w = .ok (.tuple #[.iface 87 v, .bool true]) w := run_typeAssert_hasB Tryd.underlying116 (by kernel_rfl) v xT w
theorem Tryd.rMethodUnwrap (v : Value) (w : World) : (Go.method 255 87 v "Unwrap").run Tryd.prog w = .ok (101, v) w := by kernel_rfl
theorem Tryd.rEql (v u : Value) (w : World) : (binOp .eql 29 (.iface 87 v) (.iface 74 u)).run Tryd.prog w = .ok (.bool false) w := run_eql_iface_types 87 74 v u Tryd.underlying29 (by decide) w
theorem Tryd.rTypeOf (v : Value) (w : World) : (ReflectliteType.typeOf #[.iface 87 v]).run Tryd.prog w = .ok (.iface 109 (.agg #[.pointer (some ⟨1, 87, none⟩)])) w := by kernel_rfl
theorem Tryd.rAssignable (w : World) : (ReflectliteType.relation "AssignableTo" ReflectliteType.assignableTo #[.agg #[.pointer (some ⟨1, 87, none⟩)], .iface 109 (.agg #[.pointer (some ⟨1, 78, none⟩)])]).run Tryd.prog w = .ok (.bool false) w := by kernel_rfl

set_option maxHeartbeats 4000000 in
theorem is_rn (s : List UInt8) (no b : Int) (w : World) :
    Calls Tryd.prog 66 #[refV s (.iface 74 (.int .i64 no)), .iface 74 (.int .i64 b)] w fun e w' => e = .returned (.bool (no == b)) ∧ Below w.heap.size w w' := by
  obtain ⟨i, hi, hcmp⟩ := Option.map_eq_some_iff.1 Tryd.eComp
  have h8 := @run_callFunc_extern Tryd.prog 75 _ ReflectliteType.typeOf Tryd.func75 (by kernel_rfl) (by kernel_rfl) (by kernel_rfl) (by kernel_rfl)
  have tT := Tryd.eTypeOf
  have cT := Tryd.eComparable
  have mR := Tryd.eMethodComparable
  have nE := Tryd.noIs
  have uE := Tryd.noUnwrap
  have vE := Tryd.noUnwraps
  have nR := Tryd.rNoIs
  have uR := Tryd.rUnwrap
  have mU := Tryd.rMethodUnwrap
  have qR := Tryd.rEql
  have heq := fun W : World => run_eql_iface_int (P := Tryd.prog) W no b Tryd.underlying29 Tryd.underlying74 hi hcmp
  have HB := hide ((Below.refl w.heap.size w).alloc (Nat.le_refl _) (.cells #[.string ⟨s.toArray⟩, .iface 74 (.int .i64 no)] 87))
  unfold refV
  cases hab : (no == b)
  all_goals
    rw [hab] at heq
    clear hab
    go_enter Tryd.func66, Tryd.ntmps66
    go_wp2
    refine wp_loop_rounds 2 ?_
    rw [rounds_succ]
    go_wp2
    rw [rounds_succ]
    go_wp2
    go_ret
    exact ⟨rfl, HB.out⟩
set_option maxHeartbeats 4000000 in
theorem is_rf (s : List UInt8) (no ln k b : Int) (w : World) :
    Calls Tryd.prog 66 #[refV s (fltV no ln k), .iface 74 (.int .i64 b)] w fun e w' => e = .returned (.bool (no == b)) ∧ Below w.heap.size w w' := by
  obtain ⟨i, hi, hcmp⟩ := Option.map_eq_some_iff.1 Tryd.eComp
  have h8 := @run_callFunc_extern Tryd.prog 75 _ ReflectliteType.typeOf Tryd.func75 (by kernel_rfl) (by kernel_rfl) (by kernel_rfl) (by kernel_rfl)
  have tT := Tryd.eTypeOf
  have cT := Tryd.eComparable
  have mR := Tryd.eMethodComparable
  have nE := Tryd.noIs
  have uE := Tryd.noUnwrap
  have vE := Tryd.noUnwraps
  have nR := Tryd.rNoIs
  have uR := Tryd.rUnwrap
  have mU := Tryd.rMethodUnwrap
  have qR := Tryd.rEql
  have nF := Tryd.fNoIs
  have uF := Tryd.fUnwrap
  have mF := Tryd.fMethodUnwrap
  have qF := Tryd.fEql
  have heq := fun W : World => run_eql_iface_int (P := Tryd.prog) W no b Tryd.underlying29 Tryd.underlying74 hi hcmp
  have HB := hide (((Below.refl w.heap.size w).alloc (Nat.le_refl _) (.cells #[.string ⟨s.toArray⟩, fltV no ln k] 87)).alloc (by simp) (.cells #[.int .i64 no, .int .i64 ln, .int .i64 k] 78))
  unfold fltV at HB
  unfold refV fltV
  cases hab : (no == b)
  all_goals
    rw [hab] at heq
    clear hab
    go_enter Tryd.func66, Tryd.ntmps66
    go_wp2
    refine wp_loop_rounds 3 ?_
    rw [rounds_succ]
    go_wp2
    rw [rounds_succ]
    go_wp2
    rw [rounds_succ]
    go_wp2
    go_ret
    exact ⟨rfl, HB.out⟩
set_option maxHeartbeats 1000000 in
theorem num_rn (s : List UInt8) (no : Int) (w : World) (h1 : 1 ≤ no) (h2 : no ≤ 24) :
    Calls Tryd.prog 59 #[refV s (.iface 74 (.int .i64 no))] w fun e w' => e = .returned (.int .i64 no) ∧ Below w.heap.size w w' := by
  have HI := hide (fun (b : Int) (W : World) => is_rn s no b W)
  unfold refV at HI ⊢
  obtain ⟨S, HS⟩ : ∃ S : Value, Hid (S = .string ⟨s.toArray⟩) := ⟨_, hide rfl⟩
  rw [← HS.out] at HI ⊢
  have HH := hide (And.intro h1 h2)
  have hz : (no == 0) = false := by rw [beq_eq_false_iff_ne]; omega
  clear HS
  go_enter Tryd.func59, Tryd.ntmps59
  go_wp2
  go_loopw [3, 4] (fun f j wr => ∃ i : Int, 1 ≤ i ∧ i ≤ 25 ∧ j = .int .i64 i ∧ f = .int .i64 (if no < i then no else 0) ∧ Below w.heap.size w wr) (fun _ j _ => (25 - intOf j).toNat)
  case atStart => exact ⟨1, by omega, by omega, rfl, by rw [if_neg (by have := HH.out.1; omega)], Below.refl _ _⟩
  case round =>
    obtain ⟨i, hi1, hi2, rfl, rfl, hB⟩ := hrel
    by_cases hlt : i ≤ 24
    · by_cases he : no = i
      · subst he
        have hb : (no == no) = true := by simp
        rw [if_neg (by omega)]
        go_wp2_with (go_at_call 66; refine (HI.out _ _).mono ?_; rintro e w' ⟨rfl, hb'⟩)
        go_roundw
        case rel => exact ⟨no + 1, by omega, by omega, rfl, by rw [if_pos (by omega)], hB.trans (hb'.mono hB.size)⟩
        case measure => simp [intOf]; omega
      · have hb : (no == i) = false := by simpa using he
        have HE := hide he
        clear he
        obtain ⟨v0, hv0⟩ : ∃ v0, v0 = (if no < i then no else 0) := ⟨_, rfl⟩
        rw [← hv0]
        have HX := hide hv0
        clear hv0
        go_wp2_with (go_at_call 66; refine (HI.out _ _).mono ?_; rintro e w' ⟨rfl, hb'⟩)
        go_roundw
        case rel => exact ⟨i + 1, by omega, by omega, rfl, by rw [HX.out]; exact congrArg _ (num_step no i HE.out), hB.trans (hb'.mono hB.size)⟩
        case measure => simp [intOf]; omega
    · rw [if_pos (by have := HH.out.2; omega)]
      go_wp2_with (go_at_call 66; refine (HI.out _ _).mono ?_; rintro e w' ⟨rfl, hb'⟩)
      go_ret
      exact ⟨rfl, hB.trans (hb'.mono hB.size)⟩

set_option maxHeartbeats 1000000 in
theorem num_rf (s : List UInt8) (no ln k : Int) (w : World) (h1 : 1 ≤ no) (h2 : no ≤ 24) :
    Calls Tryd.prog 59 #[refV s (fltV no ln k)] w fun e w' => e = .returned (.int .i64 no) ∧ Below w.heap.size w w' := by
  have HI := hide (fun (b : Int) (W : World) => is_rf s no ln k b W)
  unfold fltV refV at HI ⊢
  obtain ⟨S, HS⟩ : ∃ S : Value, Hid (S = .string ⟨s.toArray⟩) := ⟨_, hide rfl⟩
  rw [← HS.out] at HI ⊢
  have HH := hide (And.intro h1 h2)
  have hz : (no == 0) = false := by rw [beq_eq_false_iff_ne]; omega
  clear HS
  go_enter Tryd.func59, Tryd.ntmps59
  go_wp2
  go_loopw [3, 4] (fun f j wr => ∃ i : Int, 1 ≤ i ∧ i ≤ 25 ∧ j = .int .i64 i ∧ f = .int .i64 (if no < i then no else 0) ∧ Below w.heap.size w wr) (fun _ j _ => (25 - intOf j).toNat)
  case atStart => exact ⟨1, by omega, by omega, rfl, by rw [if_neg (by have := HH.out.1; omega)], Below.refl _ _⟩
  case round =>
    obtain ⟨i, hi1, hi2, rfl, rfl, hB⟩ := hrel
    by_cases hlt : i ≤ 24
    · by_cases he : no = i
      · subst he
        have hb : (no == no) = true := by simp
        rw [if_neg (by omega)]
        go_wp2_with (go_at_call 66; refine (HI.out _ _).mono ?_; rintro e w' ⟨rfl, hb'⟩)
        go_roundw
        case rel => exact ⟨no + 1, by omega, by omega, rfl, by rw [if_pos (by omega)], hB.trans (hb'.mono hB.size)⟩
        case measure => simp [intOf]; omega
      · have hb : (no == i) = false := by simpa using he
        have HE := hide he
        clear he
        obtain ⟨v0, hv0⟩ : ∃ v0, v0 = (if no < i then no else 0) := ⟨_, rfl⟩
        rw [← hv0]
        have HX := hide hv0
        clear hv0
        go_wp2_with (go_at_call 66; refine (HI.out _ _).mono ?_; rintro e w' ⟨rfl, hb'⟩)
        go_roundw
        case rel => exact ⟨i + 1, by omega, by omega, rfl, by rw [HX.out]; exact congrArg _ (num_step no i HE.out), hB.trans (hb'.mono hB.size)⟩
        case measure => simp [intOf]; omega
    · rw [if_pos (by have := HH.out.2; omega)]
      go_wp2_with (go_at_call 66; refine (HI.out _ _).mono ?_; rintro e w' ⟨rfl, hb'⟩)
      go_ret
      exact ⟨rfl, hB.trans (hb'.mono hB.size)⟩

/-! ### errors.As -/
/-- The world behind errors.As of a refusal that wraps a number. -/
def asMissR (t : Addr) (s : List UInt8) (v : Value) (w : World) : World := (asMiss t w).alloc (.cells #[.string ⟨s.toArray⟩, v] 87)
theorem asMissR_below (t : Addr) (s : List UInt8) (v : Value) (w : World) : Below w.heap.size w (asMissR t s v w) := (asMiss_below t w).alloc (by rw [asMiss_size]; omega) _
set_option maxHeartbeats 4000000 in
theorem as_rn (s : List UInt8) (no : Int) (t : Addr) (w : World) (hE : ErrType w) :
    Calls Tryd.prog 60 #[refV s (.iface 74 (.int .i64 no)), .iface 83 (.pointer (some t))] w fun e w' => e = .returned (.bool false) ∧ w' = asMissR t s (.iface 74 (.int .i64 no)) w := by
  have h6 := @run_callFunc_extern Tryd.prog 67 _ (fun args => ReflectliteValue.unpack (args.getD 0 (.tuple #[]))) Tryd.func67 (by kernel_rfl) (by kernel_rfl) (by kernel_rfl) (by kernel_rfl)
  have h7 := @run_callFunc_extern Tryd.prog 68 _ (ReflectliteValue.methodAny (ReflectliteValue.valueError "reflectlite.Value.Type" 0) (fun t _ _ _ => ReflectliteType.toType t)) Tryd.func68 (by kernel_rfl) (by kernel_rfl) (by kernel_rfl) (by kernel_rfl)
  have h8 := @run_callFunc_extern Tryd.prog 69 _ (ReflectliteValue.method (ReflectliteValue.valueError "reflectlite.Value.IsNil" 0) ReflectliteValue.isNil) Tryd.func69 (by kernel_rfl) (by kernel_rfl) (by kernel_rfl) (by kernel_rfl)
  have h27 := @run_callFunc_extern Tryd.prog 94 _ (ReflectliteType.abiMethod fun t => do pure (.int .u8 (← Rtype.kind t))) Tryd.func94 (by kernel_rfl) (by kernel_rfl) (by kernel_rfl) (by kernel_rfl)
  have h37 := @run_callFunc_extern Tryd.prog 108 _ (ReflectliteType.method ReflectliteType.elem) Tryd.func108 (by kernel_rfl) (by kernel_rfl) (by kernel_rfl) (by kernel_rfl)
  have h38 := @run_callFunc_extern Tryd.prog 109 _ (ReflectliteType.relation "Implements" ReflectliteType.implements_) Tryd.func109 (by kernel_rfl) (by kernel_rfl) (by kernel_rfl) (by kernel_rfl)
  have h10 := @run_callFunc_extern Tryd.prog 75 _ ReflectliteType.typeOf Tryd.func75 (by kernel_rfl) (by kernel_rfl) (by kernel_rfl) (by kernel_rfl)
  have h35 := @run_callFunc_extern Tryd.prog 106 _ (ReflectliteType.relation "AssignableTo" ReflectliteType.assignableTo) Tryd.func106 (by kernel_rfl) (by kernel_rfl) (by kernel_rfl) (by kernel_rfl)
  have mA := Tryd.methodAssignableTo
  have f6 := Tryd.valueOfF
  have f7 := Tryd.typeF
  have mK := Tryd.methodKind
  have mE := Tryd.methodElem
  have mI := Tryd.methodImplements
  have k27 := Tryd.kindP
  have k25 := Tryd.kindF
  have e27 := Tryd.elemP
  have i25 := Tryd.implementsF
  have tR := Tryd.rTypeOf
  have aR := Tryd.rAssignable
  have nR := Tryd.rNoAs
  have uR := Tryd.rUnwrap
  have mR := Tryd.rMethodUnwrap
  have tO := Tryd.eTypeOf
  have aE := Tryd.assignableEF
  have nA := Tryd.noAs
  have uE := Tryd.noUnwrap
  have vE := Tryd.noUnwraps
  have n8 := Tryd.isNilP ⟨w.heap.size, 0, none⟩ t ((w.alloc (.cells #[.pointer (some t)] 83)).alloc (.cells #[.pointer (some ⟨1, 83, none⟩), .pointer (some ⟨w.heap.size, 0, none⟩), .int .u64 150] 93)) (by simp)
  have hlt := hE.lt
  have hg2 : ((w.alloc (.cells #[.pointer (some t)] 83)).alloc (.cells #[.pointer (some ⟨1, 83, none⟩), .pointer (some ⟨w.heap.size, 0, none⟩), .int .u64 150] 93)).cell? ⟨0, 0, none⟩ = some (.iface 109 (.agg #[.pointer (some ⟨1, 29, none⟩)])) := by
    rw [World.cell?_alloc_lt _ _ ⟨0, 0, none⟩ (by simp; try omega), World.cell?_alloc_lt _ _ ⟨0, 0, none⟩ hlt]; exact hE
  unfold asMissR asMiss refV
  go_enter Tryd.func60, Tryd.ntmps60
  go_wp2
  refine wp_loop_rounds 2 ?_
  rw [rounds_succ]
  go_wp2
  rw [rounds_succ]
  go_wp2
  go_ret
  exact ⟨rfl, rfl⟩
/-- The world behind errors.As of a refusal that wraps a fault. -/
def asHitR (g : Nat) (s : List UInt8) (no ln k : Int) (w : World) : World :=
  ((asMissR ⟨g, 0, none⟩ s (fltV no ln k) w).alloc (.cells #[.int .i64 no, .int .i64 ln, .int .i64 k] 78)).setRow g #[.int .i64 no, .int .i64 ln, .int .i64 k]
theorem asHitR_below {g B : Nat} {s : List UInt8} {no ln k : Int} {w : World} (hB : B ≤ g) (hw : B ≤ w.heap.size) : Below B w (asHitR g s no ln k w) := by
  have h1 := (asMissR_below ⟨g, 0, none⟩ s (fltV no ln k) w).mono hw
  exact below_setRow (h1.alloc (Nat.le_trans hw h1.size) _) hB _
theorem asMissR_block {g : Nat} {t : Addr} {s : List UInt8} {v : Value} {w : World} {o : Obj} (h : w.heap[g]? = some o) : (asMissR t s v w).heap[g]? = some o := alloc_block (asMiss_block h)
theorem asMissR_size (t : Addr) (s : List UInt8) (v : Value) (w : World) : (asMissR t s v w).heap.size = w.heap.size + 1 + 1 + 1 + 1 := by simp [asMissR, asMiss]
set_option maxHeartbeats 4000000 in
theorem as_rf (s : List UInt8) (no ln k : Int) (g : Nat) (old : Array Value) (w : World) (hE : ErrType w) (hg : w.heap[g]? = some (.cells old 78 (0, 0))) (ho : old.size = 3) :
    Calls Tryd.prog 60 #[refV s (fltV no ln k), .iface 83 (.pointer (some ⟨g, 0, none⟩))] w fun e w' => e = .returned (.bool true) ∧ w' = asHitR g s no ln k w := by
  have h6 := @run_callFunc_extern Tryd.prog 67 _ (fun args => ReflectliteValue.unpack (args.getD 0 (.tuple #[]))) Tryd.func67 (by kernel_rfl) (by kernel_rfl) (by kernel_rfl) (by kernel_rfl)
  have h7 := @run_callFunc_extern Tryd.prog 68 _ (ReflectliteValue.methodAny (ReflectliteValue.valueError "reflectlite.Value.Type" 0) (fun t _ _ _ => ReflectliteType.toType t)) Tryd.func68 (by kernel_rfl) (by kernel_rfl) (by kernel_rfl) (by kernel_rfl)
  have h8 := @run_callFunc_extern Tryd.prog 69 _ (ReflectliteValue.method (ReflectliteValue.valueError "reflectlite.Value.IsNil" 0) ReflectliteValue.isNil) Tryd.func69 (by kernel_rfl) (by kernel_rfl) (by kernel_rfl) (by kernel_rfl)
  have h27 := @run_callFunc_extern Tryd.prog 94 _ (ReflectliteType.abiMethod fun t => do pure (.int .u8 (← Rtype.kind t))) Tryd.func94 (by kernel_rfl) (by kernel_rfl) (by kernel_rfl) (by kernel_rfl)
  have h37 := @run_callFunc_extern Tryd.prog 108 _ (ReflectliteType.method ReflectliteType.elem) Tryd.func108 (by kernel_rfl) (by kernel_rfl) (by kernel_rfl) (by kernel_rfl)
  have h38 := @run_callFunc_extern Tryd.prog 109 _ (ReflectliteType.relation "Implements" ReflectliteType.implements_) Tryd.func109 (by kernel_rfl) (by kernel_rfl) (by kernel_rfl) (by kernel_rfl)
  have h10 := @run_callFunc_extern Tryd.prog 75 _ ReflectliteType.typeOf Tryd.func75 (by kernel_rfl) (by kernel_rfl) (by kernel_rfl) (by kernel_rfl)
  have h35 := @run_callFunc_extern Tryd.prog 106 _ (ReflectliteType.relation "AssignableTo" ReflectliteType.assignableTo) Tryd.func106 (by kernel_rfl) (by kernel_rfl) (by kernel_rfl) (by kernel_rfl)
  have h62 := @run_callFunc_extern Tryd.prog 77 _ (ReflectliteValue.method (ReflectliteValue.valueError "reflectlite.Value.Elem" 0) ReflectliteValue.elem) Tryd.func77 (by kernel_rfl) (by kernel_rfl) (by kernel_rfl) (by kernel_rfl)
  have h63 := @run_callFunc_extern Tryd.prog 78 _ ReflectliteValue.set Tryd.func78 (by kernel_rfl) (by kernel_rfl) (by kernel_rfl) (by kernel_rfl)
  have mA := Tryd.methodAssignableTo
  have f6 := Tryd.valueOfF
  have f7 := Tryd.typeF
  have mK := Tryd.methodKind
  have mE := Tryd.methodElem
  have mI := Tryd.methodImplements
  have k27 := Tryd.kindP
  have k25 := Tryd.kindF
  have e27 := Tryd.elemP
  have i25 := Tryd.implementsF
  have tR := Tryd.rTypeOf
  have aR := Tryd.rAssignable
  have nR := Tryd.rNoAs
  have uR := Tryd.rUnwrap
  have mR := Tryd.rMethodUnwrap
  have tO := Tryd.fTypeOf
  have aE := Tryd.assignableFF
  have g6 := Tryd.valueOfG
  have n8 := Tryd.isNilP ⟨w.heap.size, 0, none⟩ ⟨g, 0, none⟩ ((w.alloc (.cells #[.pointer (some ⟨g, 0, none⟩)] 83)).alloc (.cells #[.pointer (some ⟨1, 83, none⟩), .pointer (some ⟨w.heap.size, 0, none⟩), .int .u64 150] 93)) (by simp)
  have hlt := hE.lt
  have hg2 : ((w.alloc (.cells #[.pointer (some ⟨g, 0, none⟩)] 83)).alloc (.cells #[.pointer (some ⟨1, 83, none⟩), .pointer (some ⟨w.heap.size, 0, none⟩), .int .u64 150] 93)).cell? ⟨0, 0, none⟩ = some (.iface 109 (.agg #[.pointer (some ⟨1, 29, none⟩)])) := by
    rw [World.cell?_alloc_lt _ _ ⟨0, 0, none⟩ (by simp; try omega), World.cell?_alloc_lt _ _ ⟨0, 0, none⟩ hlt]; exact hE
  have hc3 : (asMissR ⟨g, 0, none⟩ s (fltV no ln k) w).cell? ⟨w.heap.size, 0, none⟩ = some (.pointer (some ⟨g, 0, none⟩)) := by
    unfold asMissR asMiss
    rw [World.cell?_alloc_lt _ _ ⟨w.heap.size, 0, none⟩ (by simp; try omega), World.cell?_alloc_lt _ _ ⟨w.heap.size, 0, none⟩ (by simp; try omega), World.cell?_alloc_lt _ _ ⟨w.heap.size, 0, none⟩ (by simp)]
    simp
  have e62 := Tryd.elemVF ⟨w.heap.size, 0, none⟩ ⟨g, 0, none⟩ _ hc3
  have s63 := Tryd.setF ((asMissR ⟨g, 0, none⟩ s (fltV no ln k) w).alloc (.cells #[.int .i64 no, .int .i64 ln, .int .i64 k] 78)) g (w.heap.size + 1 + 1 + 1 + 1) old #[.int .i64 no, .int .i64 ln, .int .i64 k] (alloc_block (asMissR_block hg)) ho (by rw [← asMissR_size ⟨g, 0, none⟩ s (fltV no ln k) w]; exact alloc_new _ _) rfl (by simp [Value.oneCell'])
  unfold asHitR
  unfold asMissR asMiss fltV at *
  clear hc3 hg ho
  unfold refV
  go_enter Tryd.func60, Tryd.ntmps60
  go_wp2
  refine wp_loop_rounds 2 ?_
  rw [rounds_succ]
  go_wp2
  rw [rounds_succ]
  go_wp2
  go_ret
  exact ⟨rfl, rfl⟩
end Go.Proofs.YtmebomifakmkbaaDoor
