/-
  My own text: errors that tell a place, of any number: errors.Is, errors.As, the number, the place, At.
-/
import Derived.Test.YtcdhblfefpkjgaaDoorHeld
import Derived.Deep.RegionWith
import Derived.BigRegion
import Derived.Laws.CopyOwn
namespace Go.Proofs.YtcdhblfefpkjgaaDoor
open Go.RowKit Go.Extern.Stop Go.Stop Go.Extern

/-- A fault as an error. -/
def fltV (no n at_ : Int) : Value := .iface 80 (.agg #[.int .i64 no, .int .i64 n, .int .i64 at_])
theorem alloc_block {w : World} {b : Nat} {o x : Obj} (hh : w.heap[b]? = some x) : (w.alloc o).heap[b]? = some x := by
  have hlt : b < w.heap.size := by
    by_cases hc : b < w.heap.size
    · exact hc
    · rw [Array.getElem?_eq_none (by omega)] at hh; cases hh
  rw [Below.heap_alloc _ _ _ hlt]; exact hh
theorem alloc_new (w : World) (o : Obj) : (w.alloc o).heap[w.heap.size]? = some o := (MapKept.heap_alloc w o).1

theorem Tryd.fNoIs (v : Value) (xT : TypeId) (w : World) : (Instr.typeAssert (.iface 80 v) xT 127 true).run Tryd.prog w = .ok (.tuple #[.nilIface, .bool false]) w := run_typeAssert_lacksB Tryd.underlying127 (by kernel_rfl) (by kernel_rfl) v xT w
theorem Tryd.fUnwrap (v : Value) (xT : TypeId) (w : World) : (Instr.typeAssert (.iface 80 v) xT 120 true).run Tryd.prog w = .ok (.tuple #[.iface 80 v, .bool true]) w := run_typeAssert_hasB Tryd.underlying120 (by kernel_rfl) v xT w
theorem Tryd.fMethodUnwrap (v : Value) (w : World) : (Go.method 261 80 v "Unwrap").run Tryd.prog w = .ok (85, v) w := by kernel_rfl
theorem Tryd.fEql (v u : Value) (w : World) : (binOp .eql 34 (.iface 80 v) (.iface 57 u)).run Tryd.prog w = .ok (.bool false) w := run_eql_iface_types 80 57 v u Tryd.underlying34 (by decide) w

set_option maxHeartbeats 4000000 in
theorem is_fault (no ln k b : Int) (w : World) :
    Calls Tryd.prog 50 #[fltV no ln k, .iface 57 (.int .i64 b)] w fun e w' => e = .returned (.bool (no == b)) ∧ w' = w.alloc (.cells #[.int .i64 no, .int .i64 ln, .int .i64 k] 80) := by
  obtain ⟨i, hi, hcmp⟩ := Option.map_eq_some_iff.1 Tryd.eComp
  have h8 := @run_callFunc_extern Tryd.prog 57 _ ReflectliteType.typeOf Tryd.func57 (by kernel_rfl) (by kernel_rfl) (by kernel_rfl) (by kernel_rfl)
  have tT := Tryd.eTypeOf
  have cT := Tryd.eComparable
  have mR := Tryd.eMethodComparable
  have nE := Tryd.noIs
  have uE := Tryd.noUnwrap
  have vE := Tryd.noUnwraps
  have nF := Tryd.fNoIs
  have uF := Tryd.fUnwrap
  have mF := Tryd.fMethodUnwrap
  have qF := Tryd.fEql
  have heq := fun W : World => run_eql_iface_int (P := Tryd.prog) W no b Tryd.underlying34 Tryd.underlying57 hi hcmp
  unfold fltV
  cases hab : (no == b)
  all_goals
    rw [hab] at heq
    clear hab
    go_enter Tryd.func50, Tryd.ntmps50
    go_wp2
    refine wp_loop_rounds 2 ?_
    rw [rounds_succ]
    go_wp2
    rw [rounds_succ]
    go_wp2
    go_ret
    exact ⟨rfl, rfl⟩

set_option maxHeartbeats 1000000 in
theorem num_fault (no ln k : Int) (w : World) (h1 : 1 ≤ no) (h2 : no ≤ 24) :
    Calls Tryd.prog 43 #[fltV no ln k] w fun e w' => e = .returned (.int .i64 no) ∧ Below w.heap.size w w' := by
  unfold fltV
  have HH := hide (And.intro h1 h2)
  have hz : (no == 0) = false := by rw [beq_eq_false_iff_ne]; omega
  go_enter Tryd.func43, Tryd.ntmps43
  go_wp2
  go_loopw [3, 4] (fun f j wr => ∃ i : Int, 1 ≤ i ∧ i ≤ 25 ∧ j = .int .i64 i ∧ f = .int .i64 (if no < i then no else 0) ∧ Below w.heap.size w wr) (fun _ j _ => (25 - intOf j).toNat)
  case atStart => exact ⟨1, by omega, by omega, rfl, by rw [if_neg (by have := HH.out.1; omega)], Below.refl _ _⟩
  case round =>
    obtain ⟨i, hi1, hi2, rfl, rfl, hB⟩ := hrel
    by_cases hlt : i ≤ 24
    · by_cases he : no = i
      · subst he
        have hb : (no == no) = true := by simp
        rw [if_neg (by omega)]
        go_wp2_with (go_at_call 50; refine (is_fault no ln k _ _).mono ?_; rintro e w' ⟨rfl, rfl⟩)
        go_roundw
        case rel => exact ⟨no + 1, by omega, by omega, rfl, by rw [if_pos (by omega)], hB.alloc hB.size _⟩
        case measure => simp [intOf]; omega
      · have hb : (no == i) = false := by simpa using he
        have HE := hide he
        clear he
        obtain ⟨v0, hv0⟩ : ∃ v0, v0 = (if no < i then no else 0) := ⟨_, rfl⟩
        rw [← hv0]
        have HX := hide hv0
        clear hv0
        go_wp2_with (go_at_call 50; refine (is_fault no ln k _ _).mono ?_; rintro e w' ⟨rfl, rfl⟩)
        go_roundw
        case rel => exact ⟨i + 1, by omega, by omega, rfl, by rw [HX.out]; exact congrArg _ (num_step no i HE.out), hB.alloc hB.size _⟩
        case measure => simp [intOf]; omega
    · rw [if_pos (by have := HH.out.2; omega)]
      go_wp2_with (go_at_call 50; refine (is_fault no ln k _ _).mono ?_; rintro e w' ⟨rfl, rfl⟩)
      go_ret
      exact ⟨rfl, hB.alloc hB.size _⟩

/-! ### errors.As of such an error at a target of its own type: a hit -/
theorem Tryd.fTypeOf (v : Value) (w : World) : (ReflectliteType.typeOf #[.iface 80 v]).run Tryd.prog w = .ok (.iface 113 (.agg #[.pointer (some ⟨1, 80, none⟩)])) w := by kernel_rfl
theorem Tryd.assignableFF (w : World) : (ReflectliteType.relation "AssignableTo" ReflectliteType.assignableTo #[.agg #[.pointer (some ⟨1, 80, none⟩)], .iface 113 (.agg #[.pointer (some ⟨1, 80, none⟩)])]).run Tryd.prog w = .ok (.bool true) w := by kernel_rfl
theorem Tryd.partsF (a : Addr) (w : World) : (ReflectliteValue.parts (.agg #[.pointer (some ⟨1, 80, none⟩), .pointer (some a), .int .u64 409])).run Tryd.prog w = .ok (some (80, a, 409)) w := by kernel_rfl
theorem Tryd.partsG (a : Addr) (w : World) : (ReflectliteValue.parts (.agg #[.pointer (some ⟨1, 80, none⟩), .pointer (some a), .int .u64 153])).run Tryd.prog w = .ok (some (80, a, 153)) w := by kernel_rfl
theorem Tryd.elemTF (w : World) : (Rtype.elem? 88).run Tryd.prog w = .ok (some 80) w := by kernel_rfl
theorem Tryd.mkF (a : Addr) (w : World) : (ReflectliteValue.mk 80 a ReflectliteValue.flagAddr).run Tryd.prog w = .ok (.agg #[.pointer (some ⟨1, 80, none⟩), .pointer (some a), .int .u64 409]) w := by kernel_rfl
theorem Tryd.elemVF (a p : Addr) (W : World) (ha : W.cell? a = some (.pointer (some p))) :
    (ReflectliteValue.method (ReflectliteValue.valueError "reflectlite.Value.Elem" 0) ReflectliteValue.elem #[.agg #[.pointer (some ⟨1, 88, none⟩), .pointer (some a), .int .u64 150]]).run Tryd.prog W = .ok (.agg #[.pointer (some ⟨1, 80, none⟩), .pointer (some p), .int .u64 409]) W := by
  rw [rlm]
  simp only [Sem.run_bind, Tryd.partsP, Result.andThen]
  have e := Tryd.elemTF W
  have m := Tryd.mkF p W
  have hl : (loadVar 88 a).run Tryd.prog W = .ok (.pointer (some p)) W := by simp [loadVar, isAgg, underlying, Tryd.underlying88, ha, Result.andThen]
  simp [ReflectliteValue.elem, hl, e, m, Result.andThen]
theorem Tryd.valueOfG (v0 v1 v2 : Value) (w : World) : (ReflectliteValue.unpack (.iface 80 (.agg #[v0, v1, v2]))).run Tryd.prog w
    = .ok (.agg #[.pointer (some ⟨1, 80, none⟩), .pointer (some ⟨w.heap.size, 0, none⟩), .int .u64 153]) (w.alloc (.cells #[v0, v1, v2] 80)) := by kernel_rfl
theorem Tryd.directF (w : World) : (Rtype.directlyAssignable 80 80).run Tryd.prog w = .ok true w := by kernel_rfl
theorem Tryd.sizeF : (Tryd.prog.info? 80).map (·.size) = some 3 := by kernel_rfl
theorem Tryd.setF (W : World) (g b : Nat) (old cs : Array Value) (hg : W.heap[g]? = some (.cells old 80 (0, 0))) (ho : old.size = 3) (hb : W.heap[b]? = some (.cells cs 80 (0, 0))) (hc : cs.size = 3) (h1 : cs.all (·.oneCell') = true) :
    (ReflectliteValue.set #[.agg #[.pointer (some ⟨1, 80, none⟩), .pointer (some ⟨g, 0, none⟩), .int .u64 409], .agg #[.pointer (some ⟨1, 80, none⟩), .pointer (some ⟨b, 0, none⟩), .int .u64 153]]).run Tryd.prog W = .ok (.tuple #[]) (W.setRow g cs) := by
  have hl := run_loadVar_row (P := Tryd.prog) W b 80 80 cs (0, 0) _ hb Tryd.underlying80 rfl (by rw [hc]; exact Tryd.sizeF)
  have hs := run_storeVar_row (P := Tryd.prog) W g 80 80 old cs hg (by rw [hc]; exact Tryd.sizeF) (by rw [ho, hc]) h1
  have p1 := Tryd.partsF ⟨g, 0, none⟩ W
  have p2 := Tryd.partsG ⟨b, 0, none⟩ W
  have d1 := Tryd.directF W
  refine (show _ = (ReflectliteValue.parts (.agg #[.pointer (some ⟨1, 80, none⟩), .pointer (some ⟨g, 0, none⟩), .int .u64 409]) >>= _).run Tryd.prog W from rfl).trans ?_
  simp [p1, p2, hl, hs, d1, Result.andThen, ReflectliteValue.flagAddr, Array.getLit]
/-- The world behind errors.As of a fault. -/
def asHit (g : Nat) (no ln k : Int) (w : World) : World :=
  ((asMiss ⟨g, 0, none⟩ w).alloc (.cells #[.int .i64 no, .int .i64 ln, .int .i64 k] 80)).setRow g #[.int .i64 no, .int .i64 ln, .int .i64 k]
theorem asHit_below {g B : Nat} {no ln k : Int} {w : World} (hB : B ≤ g) (hw : B ≤ w.heap.size) : Below B w (asHit g no ln k w) :=
  below_setRow ((((((Below.refl B w).alloc hw _).alloc (by simp; omega) _).alloc (by simp; omega) _)).alloc (by simp; omega) _) hB _
theorem asMiss_block {g : Nat} {t : Addr} {w : World} {o : Obj} (h : w.heap[g]? = some o) : (asMiss t w).heap[g]? = some o := by
  have hlt : g < w.heap.size := by
    by_cases hc : g < w.heap.size
    · exact hc
    · rw [Array.getElem?_eq_none (by omega)] at h; cases h
  have hb := (asMiss_below t w).block g hlt
  rw [hb]; exact h
theorem asMiss_size (t : Addr) (w : World) : (asMiss t w).heap.size = w.heap.size + 1 + 1 + 1 := by simp [asMiss]
set_option maxHeartbeats 4000000 in
theorem as_hit (no ln k : Int) (g : Nat) (old : Array Value) (w : World) (hE : ErrType w) (hg : w.heap[g]? = some (.cells old 80 (0, 0))) (ho : old.size = 3) :
    Calls Tryd.prog 44 #[fltV no ln k, .iface 88 (.pointer (some ⟨g, 0, none⟩))] w fun e w' => e = .returned (.bool true) ∧ w' = asHit g no ln k w := by
  have h6 := @run_callFunc_extern Tryd.prog 51 _ (fun args => ReflectliteValue.unpack (args.getD 0 (.tuple #[]))) Tryd.func51 (by kernel_rfl) (by kernel_rfl) (by kernel_rfl) (by kernel_rfl)
  have h7 := @run_callFunc_extern Tryd.prog 52 _ (ReflectliteValue.methodAny (ReflectliteValue.valueError "reflectlite.Value.Type" 0) (fun t _ _ _ => ReflectliteType.toType t)) Tryd.func52 (by kernel_rfl) (by kernel_rfl) (by kernel_rfl) (by kernel_rfl)
  have h8 := @run_callFunc_extern Tryd.prog 53 _ (ReflectliteValue.method (ReflectliteValue.valueError "reflectlite.Value.IsNil" 0) ReflectliteValue.isNil) Tryd.func53 (by kernel_rfl) (by kernel_rfl) (by kernel_rfl) (by kernel_rfl)
  have h27 := @run_callFunc_extern Tryd.prog 79 _ (ReflectliteType.abiMethod fun t => do pure (.int .u8 (← Rtype.kind t))) Tryd.func79 (by kernel_rfl) (by kernel_rfl) (by kernel_rfl) (by kernel_rfl)
  have h37 := @run_callFunc_extern Tryd.prog 92 _ (ReflectliteType.method ReflectliteType.elem) Tryd.func92 (by kernel_rfl) (by kernel_rfl) (by kernel_rfl) (by kernel_rfl)
  have h38 := @run_callFunc_extern Tryd.prog 93 _ (ReflectliteType.relation "Implements" ReflectliteType.implements_) Tryd.func93 (by kernel_rfl) (by kernel_rfl) (by kernel_rfl) (by kernel_rfl)
  have h10 := @run_callFunc_extern Tryd.prog 57 _ ReflectliteType.typeOf Tryd.func57 (by kernel_rfl) (by kernel_rfl) (by kernel_rfl) (by kernel_rfl)
  have h35 := @run_callFunc_extern Tryd.prog 90 _ (ReflectliteType.relation "AssignableTo" ReflectliteType.assignableTo) Tryd.func90 (by kernel_rfl) (by kernel_rfl) (by kernel_rfl) (by kernel_rfl)
  have h62 := @run_callFunc_extern Tryd.prog 59 _ (ReflectliteValue.method (ReflectliteValue.valueError "reflectlite.Value.Elem" 0) ReflectliteValue.elem) Tryd.func59 (by kernel_rfl) (by kernel_rfl) (by kernel_rfl) (by kernel_rfl)
  have h63 := @run_callFunc_extern Tryd.prog 60 _ ReflectliteValue.set Tryd.func60 (by kernel_rfl) (by kernel_rfl) (by kernel_rfl) (by kernel_rfl)
  have tO := Tryd.fTypeOf
  have mA := Tryd.methodAssignableTo
  have aE := Tryd.assignableFF
  have f6 := Tryd.valueOfF
  have g6 := Tryd.valueOfG
  have f7 := Tryd.typeF
  have mK := Tryd.methodKind
  have mE := Tryd.methodElem
  have mI := Tryd.methodImplements
  have k27 := Tryd.kindP
  have k25 := Tryd.kindF
  have e27 := Tryd.elemP
  have i25 := Tryd.implementsF
  have n8 := Tryd.isNilP ⟨w.heap.size, 0, none⟩ ⟨g, 0, none⟩ ((w.alloc (.cells #[.pointer (some ⟨g, 0, none⟩)] 88)).alloc (.cells #[.pointer (some ⟨1, 88, none⟩), .pointer (some ⟨w.heap.size, 0, none⟩), .int .u64 150] 97)) (by simp)
  have hlt := hE.lt
  have hg2 : ((w.alloc (.cells #[.pointer (some ⟨g, 0, none⟩)] 88)).alloc (.cells #[.pointer (some ⟨1, 88, none⟩), .pointer (some ⟨w.heap.size, 0, none⟩), .int .u64 150] 97)).cell? ⟨0, 0, none⟩ = some (.iface 113 (.agg #[.pointer (some ⟨1, 34, none⟩)])) := by
    rw [World.cell?_alloc_lt _ _ ⟨0, 0, none⟩ (by simp; try omega), World.cell?_alloc_lt _ _ ⟨0, 0, none⟩ hlt]; exact hE
  have hc3 : (asMiss ⟨g, 0, none⟩ w).cell? ⟨w.heap.size, 0, none⟩ = some (.pointer (some ⟨g, 0, none⟩)) := by
    unfold asMiss
    rw [World.cell?_alloc_lt _ _ ⟨w.heap.size, 0, none⟩ (by simp; try omega), World.cell?_alloc_lt _ _ ⟨w.heap.size, 0, none⟩ (by simp)]
    simp
  have e62 := Tryd.elemVF ⟨w.heap.size, 0, none⟩ ⟨g, 0, none⟩ _ hc3
  have s63 := Tryd.setF ((asMiss ⟨g, 0, none⟩ w).alloc (.cells #[.int .i64 no, .int .i64 ln, .int .i64 k] 80)) g (w.heap.size + 1 + 1 + 1) old #[.int .i64 no, .int .i64 ln, .int .i64 k] (alloc_block (asMiss_block hg)) ho (by rw [← asMiss_size ⟨g, 0, none⟩ w]; exact alloc_new _ _) rfl (by simp [Value.oneCell'])
  unfold asHit
  unfold asMiss at *
  clear hc3 hg ho
  unfold fltV
  go_enter Tryd.func44, Tryd.ntmps44
  go_wp2
  refine wp_loop_rounds 1 ?_
  rw [rounds_succ]
  go_wp2
  go_ret
  exact ⟨rfl, rfl⟩

theorem ret_place {a b : Int} {c : Bool} {a' b' : Int} {c' : Bool} (h : a = a') (h2 : b = b') (h3 : c = c') : Ending.returned (.tuple #[.int .i64 a, .int .i64 b, .bool c]) = .returned (.tuple #[.int .i64 a', .int .i64 b', .bool c']) := by rw [h, h2, h3]
set_option maxHeartbeats 4000000 in
theorem place_fault (no ln k : Int) (w : World) (h1 : 1 ≤ no) (h2 : no ≤ 24) (hE : ErrType w) :
    Calls Tryd.prog 42 #[fltV no ln k] w fun e w' => e = .returned (.tuple #[.int .i64 ln, .int .i64 k, .bool true]) ∧ Below w.heap.size w w' := by
  have hb0 : Below w.heap.size w (w.alloc (.cells #[.int .i64 0, .int .i64 0, .int .i64 0] 80)) := (Below.refl _ _).alloc (Nat.le_refl _) _
  have HNF := hide (fun W => num_fault no ln k W h1 h2)
  clear h1 h2
  have HE := hide (hE.below hb0)
  have HA := hide (as_hit no ln k w.heap.size #[.int .i64 0, .int .i64 0, .int .i64 0] _ HE.out (alloc_new w _) rfl)
  clear hE
  unfold fltV at HA HNF ⊢
  have HNN : (no == no) = true := by simp
  go_enter Tryd.func42, Tryd.ntmps42
  go_wp2_with (go_at_call 44; refine HA.out.mono ?_; rintro e w1 ⟨rfl, hw1⟩; replace hw1 := hide hw1)
  replace hw1 := hw1.out
  have hB1 : Below w.heap.size w w1 := by rw [hw1]; exact hb0.trans (asHit_below (Nat.le_refl _) (by simp))
  have hblk : w1.heap[w.heap.size]? = some (.cells #[.int .i64 no, .int .i64 ln, .int .i64 k] 80 (0, 0)) := by
    rw [hw1]; exact setRow_heap _ _ #[.int .i64 0, .int .i64 0, .int .i64 0] _ _ _ (alloc_block (asMiss_block (alloc_new w _)))
  have c0 : w1.cell? ⟨w.heap.size, 0, none⟩ = some (.int .i64 no) := by simp [World.cell?, hblk]
  have c1 : w1.cell? ⟨w.heap.size, 1, none⟩ = some (.int .i64 ln) := by simp [World.cell?, hblk]
  have c2 : w1.cell? ⟨w.heap.size, 2, none⟩ = some (.int .i64 k) := by simp [World.cell?, hblk]
  have hlt : w.heap.size < w1.heap.size := World.block_lt_of_cell? w1 ⟨w.heap.size, 0, none⟩ c0
  have HB1 := hide hB1
  have HLT := hide hlt
  clear hw1 hblk HA HE hb0 hB1 hlt
  go_region_with (first | (go_at_call 43; refine (HNF.out _).mono ?_; rintro e w2 ⟨rfl, hb2⟩; have d0 : w2.cell? ⟨w.heap.size, 0, none⟩ = some (.int .i64 no) := (hb2.cell (p := ⟨w.heap.size, 0, none⟩) HLT.out).trans c0; have d1 : w2.cell? ⟨w.heap.size, 1, none⟩ = some (.int .i64 ln) := (hb2.cell (p := ⟨w.heap.size, 1, none⟩) HLT.out).trans c1; have d2 : w2.cell? ⟨w.heap.size, 2, none⟩ = some (.int .i64 k) := (hb2.cell (p := ⟨w.heap.size, 2, none⟩) HLT.out).trans c2))
  all_goals
    have HB2 := HB1.out.drew.trans (hb2.mono HB1.out.size)
    go_wp2_with fail
    go_ret3
    exact ⟨ret_place rfl rfl (by simp), HB2⟩
set_option maxHeartbeats 1000000 in
theorem at_fault (no ln k : Int) (w : World) (h1 : 1 ≤ no) (h2 : no ≤ 24) (hE : ErrType w) :
    Calls Tryd.prog 31 #[fltV no ln k, .int .i64 no, .int .i64 ln, .int .i64 k] w fun e w' => e = .returned (.bool true) ∧ Below w.heap.size w w' := by
  have HP := hide (place_fault no ln k w h1 h2 hE)
  have HN := hide (fun W => num_fault no ln k W h1 h2)
  have hz : (no == 0) = false := by rw [beq_eq_false_iff_ne]; omega
  have hy : (no == no) = true := by simp
  have hx : (ln == ln) = true := by simp
  have hw : (k == k) = true := by simp
  clear h1 h2
  unfold fltV at HP HN ⊢
  go_enter Tryd.func31, Tryd.ntmps31
  go_wp2_with fail
  refine HP.out.mono ?_
  rintro e w1 ⟨rfl, hb1⟩
  go_wp2_with fail
  refine (HN.out _).mono ?_
  rintro e w2 ⟨rfl, hb2⟩
  go_wp2_with fail
  go_ret
  exact ⟨rfl, hb1.trans (hb2.mono hb1.size)⟩
end Go.Proofs.YtcdhblfefpkjgaaDoor
