/-
  My own text: VE1, VE2 in one.
-/
import Derived.Test.YtdjhbecbbmdimaaGreatDoorVS2
import Derived.Test.YtdjhbecbbmdimaaGreatDoorBE2
namespace Go.Proofs.YtdjhbecbbmdimaaGreatDoor.EN
open Go.RowKit Go.Extern.Stop Go.Stop Go.Extern

theorem Tryz.valueOfF (t : Addr) (w : World) : (ReflectliteValue.unpack (.iface 100 (.pointer (some t)))).run Tryz.prog w
    = .ok (.agg #[.pointer (some ⟨1, 100, none⟩), .pointer (some ⟨w.heap.size, 0, none⟩), .int .u64 150]) (w.alloc (.cells #[.pointer (some t)] 100)) := by kernel_rfl
theorem Tryz.typeF (a : Addr) (w : World) : (ReflectliteValue.methodAny (ReflectliteValue.valueError "reflectlite.Value.Type" 0) (fun t _ _ _ => ReflectliteType.toType t) #[.agg #[.pointer (some ⟨1, 100, none⟩), .pointer (some a), .int .u64 150]]).run Tryz.prog w
    = .ok (.iface 164 (.agg #[.pointer (some ⟨1, 100, none⟩)])) w := by kernel_rfl
theorem Tryz.kindP (w : World) : ((ReflectliteType.abiMethod fun t => (fun a : Nat => Value.int IntKind.u8 (a : Int)) <$> Rtype.kind t) #[.pointer (some ⟨1, 100, none⟩)]).run Tryz.prog w = .ok (.int .u8 22) w := by kernel_rfl
theorem Tryz.kindF (w : World) : ((ReflectliteType.abiMethod fun t => (fun a : Nat => Value.int IntKind.u8 (a : Int)) <$> Rtype.kind t) #[.pointer (some ⟨1, 52, none⟩)]).run Tryz.prog w = .ok (.int .u8 2) w := by kernel_rfl
theorem Tryz.partsP (a : Addr) (w : World) : (ReflectliteValue.parts (.agg #[.pointer (some ⟨1, 100, none⟩), .pointer (some a), .int .u64 150])).run Tryz.prog w = .ok (some (100, a, 150)) w := by kernel_rfl
theorem Tryz.isNilP (a p : Addr) (W : World) (ha : W.cell? a = some (.pointer (some p))) :
    (ReflectliteValue.method (ReflectliteValue.valueError "reflectlite.Value.IsNil" 0) ReflectliteValue.isNil #[.agg #[.pointer (some ⟨1, 100, none⟩), .pointer (some a), .int .u64 150]]).run Tryz.prog W = .ok (.bool false) W := by
  rw [rlm]
  simp only [Sem.run_bind, Tryz.partsP, Result.andThen]
  simp [ReflectliteValue.isNil, loadVar, isAgg, underlying, Tryz.underlying100, ha, Result.andThen]
theorem Tryz.elemP (w : World) : (ReflectliteType.method ReflectliteType.elem #[.agg #[.pointer (some ⟨1, 100, none⟩)]]).run Tryz.prog w = .ok (.iface 164 (.agg #[.pointer (some ⟨1, 52, none⟩)])) w := by kernel_rfl
theorem Tryz.implementsF (w : World) : (ReflectliteType.relation "Implements" ReflectliteType.implements_ #[.agg #[.pointer (some ⟨1, 52, none⟩)], .iface 164 (.agg #[.pointer (some ⟨1, 74, none⟩)])]).run Tryz.prog w = .ok (.bool true) w := by kernel_rfl
def asMiss (t : Addr) (w : World) : World :=
  ((w.alloc (.cells #[.pointer (some t)] 100)).alloc (.cells #[.pointer (some ⟨1, 100, none⟩), .pointer (some ⟨w.heap.size, 0, none⟩), .int .u64 150] 131)).alloc (.cells #[.pointer (some ⟨1, 100, none⟩), .pointer (some ⟨w.heap.size, 0, none⟩), .int .u64 150] 131)
theorem asMiss_below (t : Addr) (w : World) : Below w.heap.size w (asMiss t w) :=
  (((Below.refl _ _).alloc (Nat.le_refl _) _).alloc (by simp) _).alloc (by simp; omega) _
theorem asMiss_block {g : Nat} {t : Addr} {w : World} {o : Obj} (h : w.heap[g]? = some o) : (asMiss t w).heap[g]? = some o := by
  have hlt : g < w.heap.size := by
    by_cases hc : g < w.heap.size
    · exact hc
    · rw [Array.getElem?_eq_none (by omega)] at h; cases h
  have hb := (asMiss_below t w).block g hlt
  rw [hb]; exact h
theorem asMiss_size (t : Addr) (w : World) : (asMiss t w).heap.size = w.heap.size + 1 + 1 + 1 := by simp [asMiss]
theorem Tryz.assignableFF (w : World) : (ReflectliteType.relation "AssignableTo" ReflectliteType.assignableTo #[.agg #[.pointer (some ⟨1, 52, none⟩)], .iface 164 (.agg #[.pointer (some ⟨1, 52, none⟩)])]).run Tryz.prog w = .ok (.bool true) w := by kernel_rfl
theorem Tryz.partsF (a : Addr) (w : World) : (ReflectliteValue.parts (.agg #[.pointer (some ⟨1, 52, none⟩), .pointer (some a), .int .u64 386])).run Tryz.prog w = .ok (some (52, a, 386)) w := by kernel_rfl
theorem Tryz.partsG (a : Addr) (w : World) : (ReflectliteValue.parts (.agg #[.pointer (some ⟨1, 52, none⟩), .pointer (some a), .int .u64 130])).run Tryz.prog w = .ok (some (52, a, 130)) w := by kernel_rfl
theorem Tryz.elemTF (w : World) : (Rtype.elem? 100).run Tryz.prog w = .ok (some 52) w := by kernel_rfl
theorem Tryz.mkF (a : Addr) (w : World) : (ReflectliteValue.mk 52 a ReflectliteValue.flagAddr).run Tryz.prog w = .ok (.agg #[.pointer (some ⟨1, 52, none⟩), .pointer (some a), .int .u64 386]) w := by kernel_rfl
theorem Tryz.elemVF (a p : Addr) (W : World) (ha : W.cell? a = some (.pointer (some p))) :
    (ReflectliteValue.method (ReflectliteValue.valueError "reflectlite.Value.Elem" 0) ReflectliteValue.elem #[.agg #[.pointer (some ⟨1, 100, none⟩), .pointer (some a), .int .u64 150]]).run Tryz.prog W = .ok (.agg #[.pointer (some ⟨1, 52, none⟩), .pointer (some p), .int .u64 386]) W := by
  rw [rlm]
  simp only [Sem.run_bind, Tryz.partsP, Result.andThen]
  have e := Tryz.elemTF W
  have m := Tryz.mkF p W
  have hl : (loadVar 100 a).run Tryz.prog W = .ok (.pointer (some p)) W := by simp [loadVar, isAgg, underlying, Tryz.underlying100, ha, Result.andThen]
  simp [ReflectliteValue.elem, hl, e, m, Result.andThen]
theorem Tryz.valueOfG (k : Int) (w : World) : (ReflectliteValue.unpack (.iface 52 (.int .i64 k))).run Tryz.prog w
    = .ok (.agg #[.pointer (some ⟨1, 52, none⟩), .pointer (some ⟨w.heap.size, 0, none⟩), .int .u64 130]) (w.alloc (.cells #[.int .i64 k] 52)) := by kernel_rfl
theorem Tryz.directF (w : World) : (Rtype.directlyAssignable 52 52).run Tryz.prog w = .ok true w := by kernel_rfl
theorem Tryz.setF (W : World) (g b : Nat) (o : Value) (k : Int) (hg : W.cell? ⟨g, 0, none⟩ = some o) (hf : W.frozen? ⟨g, 0, none⟩ = false) (hb : W.cell? ⟨b, 0, none⟩ = some (.int .i64 k)) :
    (ReflectliteValue.set #[.agg #[.pointer (some ⟨1, 52, none⟩), .pointer (some ⟨g, 0, none⟩), .int .u64 386], .agg #[.pointer (some ⟨1, 52, none⟩), .pointer (some ⟨b, 0, none⟩), .int .u64 130]]).run Tryz.prog W = .ok (.tuple #[]) (W.setCell ⟨g, 0, none⟩ (.int .i64 k)) := by
  have hl : (loadVar 52 ⟨b, 0, none⟩).run Tryz.prog W = .ok (.int .i64 k) W := by simp [loadVar, isAgg, underlying, Tryz.underlying52, hb, Result.andThen]
  have hs : (storeVar 52 ⟨g, 0, none⟩ (.int .i64 k)).run Tryz.prog W = .ok () (W.setCell ⟨g, 0, none⟩ (.int .i64 k)) := by simp [storeVar, Value.cells, storeCells, Addr.add, go_sem, hg, hf]
  have p1 := Tryz.partsF ⟨g, 0, none⟩ W
  have p2 := Tryz.partsG ⟨b, 0, none⟩ W
  have d1 := Tryz.directF W
  refine (show _ = (ReflectliteValue.parts (.agg #[.pointer (some ⟨1, 52, none⟩), .pointer (some ⟨g, 0, none⟩), .int .u64 386]) >>= _).run Tryz.prog W from rfl).trans ?_
  simp [p1, p2, hl, hs, d1, Result.andThen, ReflectliteValue.flagAddr, Array.getLit]
/-- The world behind errors.As of a number. -/
def asHit (g : Nat) (no : Int) (w : World) : World :=
  ((asMiss ⟨g, 0, none⟩ w).alloc (.cells #[.int .i64 no] 52)).setCell ⟨g, 0, none⟩ (.int .i64 no)
theorem asHit_below {g B : Nat} {no : Int} {w : World} (hB : B ≤ g) (hw : B ≤ w.heap.size) : Below B w (asHit g no w) :=
  ((((((Below.refl B w).alloc hw _).alloc (by simp; omega) _).alloc (by simp; omega) _)).alloc (by simp; omega) _).setCell hB _
set_option maxHeartbeats 4000000 in
theorem as_hit (no : Int) (g : Nat) (o : Value) (w : World) (hE : ErrType w) (hg : w.heap[g]? = some (.cells #[o] 52 (0, 0))) :
    Calls Tryz.prog 47 #[.iface 52 (.int .i64 no), .iface 100 (.pointer (some ⟨g, 0, none⟩))] w fun e w' => e = .returned (.bool true) ∧ w' = asHit g no w := by
  have h6 := @run_callFunc_extern Tryz.prog 69 _ (fun args => ReflectliteValue.unpack (args.getD 0 (.tuple #[]))) Tryz.func69 (by kernel_rfl) (by kernel_rfl) (by kernel_rfl) (by kernel_rfl)
  have h7 := @run_callFunc_extern Tryz.prog 70 _ (ReflectliteValue.methodAny (ReflectliteValue.valueError "reflectlite.Value.Type" 0) (fun t _ _ _ => ReflectliteType.toType t)) Tryz.func70 (by kernel_rfl) (by kernel_rfl) (by kernel_rfl) (by kernel_rfl)
  have h8 := @run_callFunc_extern Tryz.prog 71 _ (ReflectliteValue.method (ReflectliteValue.valueError "reflectlite.Value.IsNil" 0) ReflectliteValue.isNil) Tryz.func71 (by kernel_rfl) (by kernel_rfl) (by kernel_rfl) (by kernel_rfl)
  have h27 := @run_callFunc_extern Tryz.prog 146 _ (ReflectliteType.abiMethod fun t => do pure (.int .u8 (← Rtype.kind t))) Tryz.func146 (by kernel_rfl) (by kernel_rfl) (by kernel_rfl) (by kernel_rfl)
  have h37 := @run_callFunc_extern Tryz.prog 170 _ (ReflectliteType.method ReflectliteType.elem) Tryz.func170 (by kernel_rfl) (by kernel_rfl) (by kernel_rfl) (by kernel_rfl)
  have h38 := @run_callFunc_extern Tryz.prog 171 _ (ReflectliteType.relation "Implements" ReflectliteType.implements_) Tryz.func171 (by kernel_rfl) (by kernel_rfl) (by kernel_rfl) (by kernel_rfl)
  have h10 := @run_callFunc_extern Tryz.prog 104 _ ReflectliteType.typeOf Tryz.func104 (by kernel_rfl) (by kernel_rfl) (by kernel_rfl) (by kernel_rfl)
  have h35 := @run_callFunc_extern Tryz.prog 168 _ (ReflectliteType.relation "AssignableTo" ReflectliteType.assignableTo) Tryz.func168 (by kernel_rfl) (by kernel_rfl) (by kernel_rfl) (by kernel_rfl)
  have h62 := @run_callFunc_extern Tryz.prog 105 _ (ReflectliteValue.method (ReflectliteValue.valueError "reflectlite.Value.Elem" 0) ReflectliteValue.elem) Tryz.func105 (by kernel_rfl) (by kernel_rfl) (by kernel_rfl) (by kernel_rfl)
  have h63 := @run_callFunc_extern Tryz.prog 106 _ ReflectliteValue.set Tryz.func106 (by kernel_rfl) (by kernel_rfl) (by kernel_rfl) (by kernel_rfl)
  have tO := Tryz.eTypeOf
  have mA := Tryz.methodAssignableTo
  have aE := Tryz.assignableFF
  have f6 := Tryz.valueOfF
  have g6 := Tryz.valueOfG
  have f7 := Tryz.typeF
  have mK := Tryz.methodKind
  have mE := Tryz.methodElem
  have mI := Tryz.methodImplements
  have k27 := Tryz.kindP
  have k25 := Tryz.kindF
  have e27 := Tryz.elemP
  have i25 := Tryz.implementsF
  have n8 := Tryz.isNilP ⟨w.heap.size, 0, none⟩ ⟨g, 0, none⟩ ((w.alloc (.cells #[.pointer (some ⟨g, 0, none⟩)] 100)).alloc (.cells #[.pointer (some ⟨1, 100, none⟩), .pointer (some ⟨w.heap.size, 0, none⟩), .int .u64 150] 131)) (by simp)
  have hlt := hE.lt
  have hg2 : ((w.alloc (.cells #[.pointer (some ⟨g, 0, none⟩)] 100)).alloc (.cells #[.pointer (some ⟨1, 100, none⟩), .pointer (some ⟨w.heap.size, 0, none⟩), .int .u64 150] 131)).cell? ⟨0, 0, none⟩ = some (.iface 164 (.agg #[.pointer (some ⟨1, 74, none⟩)])) := by
    rw [World.cell?_alloc_lt _ _ ⟨0, 0, none⟩ (by simp; try omega), World.cell?_alloc_lt _ _ ⟨0, 0, none⟩ hlt]; exact hE
  have hc3 : (asMiss ⟨g, 0, none⟩ w).cell? ⟨w.heap.size, 0, none⟩ = some (.pointer (some ⟨g, 0, none⟩)) := by
    unfold asMiss
    rw [World.cell?_alloc_lt _ _ ⟨w.heap.size, 0, none⟩ (by simp; try omega), World.cell?_alloc_lt _ _ ⟨w.heap.size, 0, none⟩ (by simp)]
    simp
  have e62 := Tryz.elemVF ⟨w.heap.size, 0, none⟩ ⟨g, 0, none⟩ _ hc3
  have hR3 : ((asMiss ⟨g, 0, none⟩ w).alloc (.cells #[.int .i64 no] 52)).heap[g]? = some (.cells #[o] 52 (0, 0)) := alloc_block (asMiss_block hg)
  have hN3 : ((asMiss ⟨g, 0, none⟩ w).alloc (.cells #[.int .i64 no] 52)).heap[w.heap.size + 1 + 1 + 1]? = some (.cells #[.int .i64 no] 52 (0, 0)) := by rw [← asMiss_size ⟨g, 0, none⟩ w]; exact alloc_new _ _
  have s63 := Tryz.setF ((asMiss ⟨g, 0, none⟩ w).alloc (.cells #[.int .i64 no] 52)) g (w.heap.size + 1 + 1 + 1) o no (by rw [cell_of_row _ _ 0 _ _ _ hR3]; rfl) (nofz hR3 0) (by rw [cell_of_row _ _ 0 _ _ _ hN3]; rfl)
  clear hR3 hN3
  unfold asHit
  unfold asMiss at *
  clear hc3 hg
  go_enter Tryz.func47, Tryz.ntmps47
  go_wp2
  refine wp_loop_rounds 1 ?_
  rw [rounds_succ]
  go_wp2
  go_ret
  exact ⟨rfl, rfl⟩
end Go.Proofs.YtdjhbecbbmdimaaGreatDoor.EN
namespace Go.Proofs.YtdjhbecbbmdimaaGreatDoor.EN
open Go.RowKit Go.Extern.Stop Go.Stop Go.Extern

theorem Tryz.rAssignable (w : World) : (ReflectliteType.relation "AssignableTo" ReflectliteType.assignableTo #[.agg #[.pointer (some ⟨1, 197, none⟩)], .iface 164 (.agg #[.pointer (some ⟨1, 52, none⟩)])]).run Tryz.prog w = .ok (.bool false) w := by kernel_rfl
def asMissR (t : Addr) (s : List UInt8) (v : Value) (w : World) : World := (asMiss t w).alloc (.cells #[.string ⟨s.toArray⟩, v] 197)
theorem asMissR_below (t : Addr) (s : List UInt8) (v : Value) (w : World) : Below w.heap.size w (asMissR t s v w) := (asMiss_below t w).alloc (by rw [asMiss_size]; omega) _
theorem asMissR_block {g : Nat} {t : Addr} {s : List UInt8} {v : Value} {w : World} {o : Obj} (h : w.heap[g]? = some o) : (asMissR t s v w).heap[g]? = some o := alloc_block (asMiss_block h)
theorem asMissR_size (t : Addr) (s : List UInt8) (v : Value) (w : World) : (asMissR t s v w).heap.size = w.heap.size + 1 + 1 + 1 + 1 := by simp [asMissR, asMiss]
/-- The world behind errors.As of a refusal that wraps a number. -/
def asHitR (g : Nat) (s : List UInt8) (no : Int) (w : World) : World :=
  ((asMissR ⟨g, 0, none⟩ s (.iface 52 (.int .i64 no)) w).alloc (.cells #[.int .i64 no] 52)).setCell ⟨g, 0, none⟩ (.int .i64 no)
theorem asHitR_below {g B : Nat} {s : List UInt8} {no : Int} {w : World} (hB : B ≤ g) (hw : B ≤ w.heap.size) : Below B w (asHitR g s no w) := by
  have h1 := (asMissR_below ⟨g, 0, none⟩ s (.iface 52 (.int .i64 no)) w).mono hw
  exact (h1.alloc (Nat.le_trans hw h1.size) _).setCell hB _
set_option maxHeartbeats 4000000 in
theorem as_rf (s : List UInt8) (no : Int) (g : Nat) (o : Value) (w : World) (hE : ErrType w) (hg : w.heap[g]? = some (.cells #[o] 52 (0, 0))) :
    Calls Tryz.prog 47 #[BL.refV s (.iface 52 (.int .i64 no)), .iface 100 (.pointer (some ⟨g, 0, none⟩))] w fun e w' => e = .returned (.bool true) ∧ w' = asHitR g s no w := by
  have h6 := @run_callFunc_extern Tryz.prog 69 _ (fun args => ReflectliteValue.unpack (args.getD 0 (.tuple #[]))) Tryz.func69 (by kernel_rfl) (by kernel_rfl) (by kernel_rfl) (by kernel_rfl)
  have h7 := @run_callFunc_extern Tryz.prog 70 _ (ReflectliteValue.methodAny (ReflectliteValue.valueError "reflectlite.Value.Type" 0) (fun t _ _ _ => ReflectliteType.toType t)) Tryz.func70 (by kernel_rfl) (by kernel_rfl) (by kernel_rfl) (by kernel_rfl)
  have h8 := @run_callFunc_extern Tryz.prog 71 _ (ReflectliteValue.method (ReflectliteValue.valueError "reflectlite.Value.IsNil" 0) ReflectliteValue.isNil) Tryz.func71 (by kernel_rfl) (by kernel_rfl) (by kernel_rfl) (by kernel_rfl)
  have h27 := @run_callFunc_extern Tryz.prog 146 _ (ReflectliteType.abiMethod fun t => do pure (.int .u8 (← Rtype.kind t))) Tryz.func146 (by kernel_rfl) (by kernel_rfl) (by kernel_rfl) (by kernel_rfl)
  have h37 := @run_callFunc_extern Tryz.prog 170 _ (ReflectliteType.method ReflectliteType.elem) Tryz.func170 (by kernel_rfl) (by kernel_rfl) (by kernel_rfl) (by kernel_rfl)
  have h38 := @run_callFunc_extern Tryz.prog 171 _ (ReflectliteType.relation "Implements" ReflectliteType.implements_) Tryz.func171 (by kernel_rfl) (by kernel_rfl) (by kernel_rfl) (by kernel_rfl)
  have h10 := @run_callFunc_extern Tryz.prog 104 _ ReflectliteType.typeOf Tryz.func104 (by kernel_rfl) (by kernel_rfl) (by kernel_rfl) (by kernel_rfl)
  have h35 := @run_callFunc_extern Tryz.prog 168 _ (ReflectliteType.relation "AssignableTo" ReflectliteType.assignableTo) Tryz.func168 (by kernel_rfl) (by kernel_rfl) (by kernel_rfl) (by kernel_rfl)
  have h62 := @run_callFunc_extern Tryz.prog 105 _ (ReflectliteValue.method (ReflectliteValue.valueError "reflectlite.Value.Elem" 0) ReflectliteValue.elem) Tryz.func105 (by kernel_rfl) (by kernel_rfl) (by kernel_rfl) (by kernel_rfl)
  have h63 := @run_callFunc_extern Tryz.prog 106 _ ReflectliteValue.set Tryz.func106 (by kernel_rfl) (by kernel_rfl) (by kernel_rfl) (by kernel_rfl)
  have mA := Tryz.methodAssignableTo
  have f6 := Tryz.valueOfF
  have f7 := Tryz.typeF
  have mK := Tryz.methodKind
  have mE := Tryz.methodElem
  have mI := Tryz.methodImplements
  have k27 := Tryz.kindP
  have k25 := Tryz.kindF
  have e27 := Tryz.elemP
  have i25 := Tryz.implementsF
  have tR := BL.Tryz.rTypeOf
  have aR := Tryz.rAssignable
  have nR := BL.Tryz.rNoAs
  have uR := BL.Tryz.rUnwrap
  have mR := BL.Tryz.rMethodUnwrap
  have tO := Tryz.eTypeOf
  have aE := Tryz.assignableFF
  have g6 := Tryz.valueOfG
  have n8 := Tryz.isNilP ⟨w.heap.size, 0, none⟩ ⟨g, 0, none⟩ ((w.alloc (.cells #[.pointer (some ⟨g, 0, none⟩)] 100)).alloc (.cells #[.pointer (some ⟨1, 100, none⟩), .pointer (some ⟨w.heap.size, 0, none⟩), .int .u64 150] 131)) (by simp)
  have hlt := hE.lt
  have hg2 : ((w.alloc (.cells #[.pointer (some ⟨g, 0, none⟩)] 100)).alloc (.cells #[.pointer (some ⟨1, 100, none⟩), .pointer (some ⟨w.heap.size, 0, none⟩), .int .u64 150] 131)).cell? ⟨0, 0, none⟩ = some (.iface 164 (.agg #[.pointer (some ⟨1, 74, none⟩)])) := by
    rw [World.cell?_alloc_lt _ _ ⟨0, 0, none⟩ (by simp; try omega), World.cell?_alloc_lt _ _ ⟨0, 0, none⟩ hlt]; exact hE
  have hc3 : (asMissR ⟨g, 0, none⟩ s (.iface 52 (.int .i64 no)) w).cell? ⟨w.heap.size, 0, none⟩ = some (.pointer (some ⟨g, 0, none⟩)) := by
    unfold asMissR asMiss
    rw [World.cell?_alloc_lt _ _ ⟨w.heap.size, 0, none⟩ (by simp; try omega), World.cell?_alloc_lt _ _ ⟨w.heap.size, 0, none⟩ (by simp; try omega), World.cell?_alloc_lt _ _ ⟨w.heap.size, 0, none⟩ (by simp)]
    simp
  have e62 := Tryz.elemVF ⟨w.heap.size, 0, none⟩ ⟨g, 0, none⟩ _ hc3
  have hR3 : ((asMissR ⟨g, 0, none⟩ s (.iface 52 (.int .i64 no)) w).alloc (.cells #[.int .i64 no] 52)).heap[g]? = some (.cells #[o] 52 (0, 0)) := alloc_block (asMissR_block hg)
  have hN3 : ((asMissR ⟨g, 0, none⟩ s (.iface 52 (.int .i64 no)) w).alloc (.cells #[.int .i64 no] 52)).heap[w.heap.size + 1 + 1 + 1 + 1]? = some (.cells #[.int .i64 no] 52 (0, 0)) := by rw [← asMissR_size ⟨g, 0, none⟩ s (.iface 52 (.int .i64 no)) w]; exact alloc_new _ _
  have s63 := Tryz.setF ((asMissR ⟨g, 0, none⟩ s (.iface 52 (.int .i64 no)) w).alloc (.cells #[.int .i64 no] 52)) g (w.heap.size + 1 + 1 + 1 + 1) o no (by rw [cell_of_row _ _ 0 _ _ _ hR3]; rfl) (nofz hR3 0) (by rw [cell_of_row _ _ 0 _ _ _ hN3]; rfl)
  clear hR3 hN3
  unfold asHitR
  unfold asMissR asMiss at *
  clear hc3 hg
  unfold BL.refV
  go_enter Tryz.func47, Tryz.ntmps47
  go_wp2
  refine wp_loop_rounds 2 ?_
  rw [rounds_succ]
  go_wp2
  rw [rounds_succ]
  go_wp2
  go_ret
  exact ⟨rfl, rfl⟩
end Go.Proofs.YtdjhbecbbmdimaaGreatDoor.EN
