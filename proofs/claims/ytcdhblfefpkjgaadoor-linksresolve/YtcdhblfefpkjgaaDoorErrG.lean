/-
  My own text: Ls, C2, ErrF, ErrG in one.
-/
import Derived.Test.YtcdhblfefpkjgaaDoorHeld
import Derived.Deep.AppendLies
import Derived.Deep.OwnRows
import Derived.Test.YtcdhblfefpkjgaaDoorC1
import Derived.Deep.RegionWith
import Derived.BigRegion
import Derived.Laws.CopyOwn
namespace Go.Proofs.YtcdhblfefpkjgaaDoor
open Go.RowKit Go.Extern

/-- A slice value that reads as a list of numbers of a kind. -/
def RI (w : World) (K : IntKind) (v : Value) (l : List Int) : Prop :=
  ∃ a cap, v = .slice a l.length cap ∧ (l = [] ∨ ∃ b off, a = some ⟨b, off, none⟩ ∧ b < w.heap.size ∧ ∀ j x, l[j]? = some x → w.cell? ⟨b, off + j, none⟩ = some (.int K x))
theorem RI.later {w w1 : World} {K : IntKind} {v : Value} {l : List Int} (h : RI w K v l) (hb : Below w.heap.size w w1) : RI w1 K v l := by
  obtain ⟨a, cap, rfl, h | ⟨b, off, rfl, hlt, hc⟩⟩ := h
  · exact ⟨a, cap, rfl, .inl h⟩
  · exact ⟨_, cap, rfl, .inr ⟨b, off, rfl, Nat.lt_of_lt_of_le hlt hb.size, fun j x hx => (hb.cell (p := ⟨b, off + j, none⟩) hlt).trans (hc j x hx)⟩⟩
theorem some_at {l : List Int} {k : Nat} (h : k < l.length) : ∃ x, l[k]? = some x := ⟨l[k], List.getElem?_eq_getElem h⟩
/-- A list of numbers of a kind, as cells. -/
def lv (K : IntKind) (l : List Int) : List Value := l.map (Value.int K)
theorem lv_nil (K : IntKind) : lv K [] = [] := rfl
theorem lv_len (K : IntKind) (l : List Int) : (lv K l).length = l.length := by simp [lv]
theorem lv_app (K : IntKind) (l m : List Int) : lv K (l ++ m) = lv K l ++ lv K m := by simp [lv]
theorem info_parts {P : Program} {t : TypeId} {z : Value} {s b : Nat} (h : (P.info? t).map (fun i => (i.zero, i.size, i.bytes)) = some (some z, s, b)) : ∃ i, P.info? t = some i ∧ i.zero = some z ∧ i.size = s ∧ i.bytes = b := by
  obtain ⟨i, hi, hz⟩ := Option.map_eq_some_iff.1 h
  simp only [Prod.mk.injEq] at hz
  exact ⟨i, hi, hz.1, hz.2.1, hz.2.2⟩
theorem ri_of_owns {w : World} {B n : Nat} {e : TypeId} {v : Value} {l : List Int} (h : w.ownsRow B e 1 v n (lv .i64 l)) : RI w .i64 v l := by
  have hn : l.length = n := by have := h.1; rw [lv_len] at this; omega
  rcases h.2 with ⟨rfl, h0⟩ | ⟨g, cap, cur, rfl, hb, hh, hn2, _⟩
  · have : l = [] := List.length_eq_zero_iff.1 (by omega)
    subst this
    exact ⟨none, 0, rfl, .inl rfl⟩
  · refine ⟨_, cap, by rw [hn], .inr ⟨g, 0, rfl, ?_, fun j x hx => ?_⟩⟩
    · by_cases hc : g < w.heap.size
      · exact hc
      · rw [Array.getElem?_eq_none (by omega)] at hh; cases hh
    · have hj : j < n := by rw [← hn]; exact (List.getElem?_eq_some_iff.1 hx).1
      rw [Nat.zero_add, World.ownsRow.cellAt h j (by omega)]
      unfold lv; rw [List.getElem?_map, hx]; rfl
theorem own_later {w w' : World} {B n : Nat} {e : TypeId} {v : Value} {xs : List Value} (h : w.ownsRow B e 1 v n xs) (hb : Below w.heap.size w w') : w'.ownsRow B e 1 v n xs := by
  refine ⟨h.1, ?_⟩
  rcases h.2 with h2 | ⟨g, cap, cur, hv, hg, hh, h3⟩
  · exact .inl h2
  · have hlt : g < w.heap.size := by
      by_cases hc : g < w.heap.size
      · exact hc
      · rw [Array.getElem?_eq_none (by omega)] at hh; cases hh
    exact .inr ⟨g, cap, cur, hv, hg, (hb.block g hlt).trans hh, h3⟩
end Go.Proofs.YtcdhblfefpkjgaaDoor
namespace Go.Proofs.YtcdhblfefpkjgaaDoor.LC
open Go.RowKit

theorem Tryd.infoInt : (Tryd.prog.info? 3).map (fun i => (i.zero, i.size, i.bytes)) = some (some (.int .i64 0), 1, 8) := by kernel_rfl
theorem ret_int {a b : Int} (h : a = b) : Ending.returned (.int .i64 a) = .returned (.int .i64 b) := by rw [h]
theorem spr_take {l : List UInt8} {k : Nat} (h : k < l.length) : spr (l.take (k + 1)) = spr (l.take k) ++ sprc (l.getD k 0) := by
  rw [List.take_add_one, List.getElem?_eq_getElem h, Option.toList_some, spr_app, getD_at h]
  simp [spr]
theorem sign_at {l : List UInt8} {k : Nat} (h : ∀ c ∈ l, Sign c) (hk : k < l.length) : Sign (l.getD k 0) := by
  rw [getD_at hk]; exact h _ (List.getElem_mem hk)
theorem sign_nat {c : UInt8} (h : Sign c) : (48 ≤ c.toNat ∧ c.toNat ≤ 57) ∨ (65 ≤ c.toNat ∧ c.toNat ≤ 90) := by
  rcases h with h | h
  · left; unfold isDg at h; simpa using h
  · right; unfold isCp at h; simpa using h

end Go.Proofs.YtcdhblfefpkjgaaDoor.LC
namespace Go.Proofs.YtcdhblfefpkjgaaDoor.LC
open Go.RowKit Go.Extern.Stop Go.Stop Go.Extern

/-- A fault of number 6 at a place, as an error. -/
def fltV (k : Int) : Value := .iface 80 (.agg #[.int .i64 6, .int .i64 0, .int .i64 k])
theorem Tryd.fNoIs (v : Value) (xT : TypeId) (w : World) : (Instr.typeAssert (.iface 80 v) xT 127 true).run Tryd.prog w = .ok (.tuple #[.nilIface, .bool false]) w := run_typeAssert_lacksB Tryd.underlying127 (by kernel_rfl) (by kernel_rfl) v xT w
theorem Tryd.fUnwrap (v : Value) (xT : TypeId) (w : World) : (Instr.typeAssert (.iface 80 v) xT 120 true).run Tryd.prog w = .ok (.tuple #[.iface 80 v, .bool true]) w := run_typeAssert_hasB Tryd.underlying120 (by kernel_rfl) v xT w
theorem Tryd.fMethodUnwrap (v : Value) (w : World) : (Go.method 261 80 v "Unwrap").run Tryd.prog w = .ok (85, v) w := by kernel_rfl
theorem Tryd.fEql (v u : Value) (w : World) : (binOp .eql 34 (.iface 80 v) (.iface 57 u)).run Tryd.prog w = .ok (.bool false) w := run_eql_iface_types 80 57 v u Tryd.underlying34 (by decide) w

set_option maxHeartbeats 4000000 in
theorem is_fault (k b : Int) (w : World) :
    Calls Tryd.prog 50 #[fltV k, .iface 57 (.int .i64 b)] w fun e w' => e = .returned (.bool ((6 : Int) == b)) ∧ w' = w.alloc (.cells #[.int .i64 6, .int .i64 0, .int .i64 k] 80) := by
  obtain ⟨i, hi, hcmp⟩ := Option.map_eq_some_iff.1 Tryd.eComp
  have h8 := @run_callFunc_extern Tryd.prog 57 _ ReflectliteType.typeOf Tryd.func57 (by kernel_rfl) (by kernel_rfl) (by kernel_rfl) (by kernel_rfl)
  have tT := Tryd.eTypeOf
  have cT := Tryd.eComparable
  have mR := Tryd.eMethodComparable
  have nE := Tryd.noIs
  have uE := Tryd.noUnwrap
  have vE := Tryd.noUnwraps
  have nF := Tryd.fNoIs
  have uF := Tryd.fUnwrap
  have mF := Tryd.fMethodUnwrap
  have qF := Tryd.fEql
  have heq := fun W : World => run_eql_iface_int (P := Tryd.prog) W 6 b Tryd.underlying34 Tryd.underlying57 hi hcmp
  unfold fltV
  cases hab : ((6 : Int) == b)
  all_goals
    rw [hab] at heq
    clear hab
    go_enter Tryd.func50, Tryd.ntmps50
    go_wp2
    refine wp_loop_rounds 2 ?_
    rw [rounds_succ]
    go_wp2
    rw [rounds_succ]
    go_wp2
    go_ret
    exact ⟨rfl, rfl⟩

set_option maxHeartbeats 1000000 in
theorem num_fault (k : Int) (w : World) :
    Calls Tryd.prog 43 #[fltV k] w fun e w' => e = .returned (.int .i64 6) ∧ Below w.heap.size w w' := by
  unfold fltV
  go_enter Tryd.func43, Tryd.ntmps43
  go_wp2
  go_loopw [3, 4] (fun f j wr => ∃ i : Int, 1 ≤ i ∧ i ≤ 25 ∧ j = .int .i64 i ∧ f = .int .i64 (if 6 < i then 6 else 0) ∧ Below w.heap.size w wr) (fun _ j _ => (25 - intOf j).toNat)
  case atStart => exact ⟨1, by omega, by omega, rfl, by rw [if_neg (by omega)], Below.refl _ _⟩
  case round =>
    obtain ⟨i, hi1, hi2, rfl, rfl, hB⟩ := hrel
    by_cases hlt : i ≤ 24
    · by_cases he : 6 = i
      · subst he
        have hb : ((6 : Int) == 6) = true := by decide
        rw [if_neg (by omega)]
        go_wp2_with (go_at_call 50; refine (is_fault k _ _).mono ?_; rintro e w' ⟨rfl, rfl⟩)
        go_roundw
        case rel => exact ⟨7, by omega, by omega, rfl, by rw [if_pos (by omega)], hB.alloc hB.size _⟩
        case measure => simp [intOf]
      · have hb : ((6 : Int) == i) = false := by simpa using he
        go_wp2_with (go_at_call 50; refine (is_fault k _ _).mono ?_; rintro e w' ⟨rfl, rfl⟩)
        go_roundw
        case rel => exact ⟨i + 1, by omega, by omega, rfl, congrArg _ (num_step 6 i he), hB.alloc hB.size _⟩
        case measure => simp [intOf]; omega
    · rw [if_pos (by omega)]
      go_wp2_with (go_at_call 50; refine (is_fault k _ _).mono ?_; rintro e w' ⟨rfl, rfl⟩)
      go_ret
      exact ⟨rfl, hB.alloc hB.size _⟩

/-! ### errors.As of such an error at a target of its own type: a hit -/
theorem Tryd.fTypeOf (v : Value) (w : World) : (ReflectliteType.typeOf #[.iface 80 v]).run Tryd.prog w = .ok (.iface 113 (.agg #[.pointer (some ⟨1, 80, none⟩)])) w := by kernel_rfl
theorem Tryd.assignableFF (w : World) : (ReflectliteType.relation "AssignableTo" ReflectliteType.assignableTo #[.agg #[.pointer (some ⟨1, 80, none⟩)], .iface 113 (.agg #[.pointer (some ⟨1, 80, none⟩)])]).run Tryd.prog w = .ok (.bool true) w := by kernel_rfl
theorem Tryd.partsF (a : Addr) (w : World) : (ReflectliteValue.parts (.agg #[.pointer (some ⟨1, 80, none⟩), .pointer (some a), .int .u64 409])).run Tryd.prog w = .ok (some (80, a, 409)) w := by kernel_rfl
theorem Tryd.partsG (a : Addr) (w : World) : (ReflectliteValue.parts (.agg #[.pointer (some ⟨1, 80, none⟩), .pointer (some a), .int .u64 153])).run Tryd.prog w = .ok (some (80, a, 153)) w := by kernel_rfl
theorem Tryd.elemTF (w : World) : (Rtype.elem? 88).run Tryd.prog w = .ok (some 80) w := by kernel_rfl
theorem Tryd.mkF (a : Addr) (w : World) : (ReflectliteValue.mk 80 a ReflectliteValue.flagAddr).run Tryd.prog w = .ok (.agg #[.pointer (some ⟨1, 80, none⟩), .pointer (some a), .int .u64 409]) w := by kernel_rfl
theorem Tryd.elemVF (a p : Addr) (W : World) (ha : W.cell? a = some (.pointer (some p))) :
    (ReflectliteValue.method (ReflectliteValue.valueError "reflectlite.Value.Elem" 0) ReflectliteValue.elem #[.agg #[.pointer (some ⟨1, 88, none⟩), .pointer (some a), .int .u64 150]]).run Tryd.prog W = .ok (.agg #[.pointer (some ⟨1, 80, none⟩), .pointer (some p), .int .u64 409]) W := by
  rw [rlm]
  simp only [Sem.run_bind, Tryd.partsP, Result.andThen]
  have e := Tryd.elemTF W
  have m := Tryd.mkF p W
  have hl : (loadVar 88 a).run Tryd.prog W = .ok (.pointer (some p)) W := by simp [loadVar, isAgg, underlying, Tryd.underlying88, ha, Result.andThen]
  simp [ReflectliteValue.elem, hl, e, m, Result.andThen]
theorem Tryd.valueOfG (v0 v1 v2 : Value) (w : World) : (ReflectliteValue.unpack (.iface 80 (.agg #[v0, v1, v2]))).run Tryd.prog w
    = .ok (.agg #[.pointer (some ⟨1, 80, none⟩), .pointer (some ⟨w.heap.size, 0, none⟩), .int .u64 153]) (w.alloc (.cells #[v0, v1, v2] 80)) := by kernel_rfl
theorem Tryd.directF (w : World) : (Rtype.directlyAssignable 80 80).run Tryd.prog w = .ok true w := by kernel_rfl
theorem Tryd.sizeF : (Tryd.prog.info? 80).map (·.size) = some 3 := by kernel_rfl
theorem Tryd.setF (W : World) (g b : Nat) (old cs : Array Value) (hg : W.heap[g]? = some (.cells old 80 (0, 0))) (ho : old.size = 3) (hb : W.heap[b]? = some (.cells cs 80 (0, 0))) (hc : cs.size = 3) (h1 : cs.all (·.oneCell') = true) :
    (ReflectliteValue.set #[.agg #[.pointer (some ⟨1, 80, none⟩), .pointer (some ⟨g, 0, none⟩), .int .u64 409], .agg #[.pointer (some ⟨1, 80, none⟩), .pointer (some ⟨b, 0, none⟩), .int .u64 153]]).run Tryd.prog W = .ok (.tuple #[]) (W.setRow g cs) := by
  have hl := run_loadVar_row (P := Tryd.prog) W b 80 80 cs (0, 0) _ hb Tryd.underlying80 rfl (by rw [hc]; exact Tryd.sizeF)
  have hs := run_storeVar_row (P := Tryd.prog) W g 80 80 old cs hg (by rw [hc]; exact Tryd.sizeF) (by rw [ho, hc]) h1
  have p1 := Tryd.partsF ⟨g, 0, none⟩ W
  have p2 := Tryd.partsG ⟨b, 0, none⟩ W
  have d1 := Tryd.directF W
  refine (show _ = (ReflectliteValue.parts (.agg #[.pointer (some ⟨1, 80, none⟩), .pointer (some ⟨g, 0, none⟩), .int .u64 409]) >>= _).run Tryd.prog W from rfl).trans ?_
  simp [p1, p2, hl, hs, d1, Result.andThen, ReflectliteValue.flagAddr, Array.getLit]
end Go.Proofs.YtcdhblfefpkjgaaDoor.LC
namespace Go.Proofs.YtcdhblfefpkjgaaDoor.LC
open Go.RowKit Go.Extern.Stop Go.Stop Go.Extern

/-- The world behind errors.As of a fault. -/
def asHit (g : Nat) (k : Int) (w : World) : World :=
  ((asMiss ⟨g, 0, none⟩ w).alloc (.cells #[.int .i64 6, .int .i64 0, .int .i64 k] 80)).setRow g #[.int .i64 6, .int .i64 0, .int .i64 k]
theorem asHit_below {g B : Nat} {k : Int} {w : World} (hB : B ≤ g) (hw : B ≤ w.heap.size) : Below B w (asHit g k w) :=
  below_setRow ((((((Below.refl B w).alloc hw _).alloc (by simp; omega) _).alloc (by simp; omega) _)).alloc (by simp; omega) _) hB _
theorem asMiss_block {g : Nat} {t : Addr} {w : World} {o : Obj} (h : w.heap[g]? = some o) : (asMiss t w).heap[g]? = some o := by
  have hlt : g < w.heap.size := by
    by_cases hc : g < w.heap.size
    · exact hc
    · rw [Array.getElem?_eq_none (by omega)] at h; cases h
  have hb := (asMiss_below t w).block g hlt
  rw [hb]; exact h
theorem asMiss_size (t : Addr) (w : World) : (asMiss t w).heap.size = w.heap.size + 1 + 1 + 1 := by simp [asMiss]
theorem alloc_block {w : World} {b : Nat} {o x : Obj} (hh : w.heap[b]? = some x) : (w.alloc o).heap[b]? = some x := by
  have hlt : b < w.heap.size := by
    by_cases hc : b < w.heap.size
    · exact hc
    · rw [Array.getElem?_eq_none (by omega)] at hh; cases hh
  rw [Below.heap_alloc _ _ _ hlt]; exact hh
theorem alloc_new (w : World) (o : Obj) : (w.alloc o).heap[w.heap.size]? = some o := (MapKept.heap_alloc w o).1

set_option maxHeartbeats 4000000 in
theorem as_hit (k : Int) (g : Nat) (old : Array Value) (w : World) (hE : ErrType w) (hg : w.heap[g]? = some (.cells old 80 (0, 0))) (ho : old.size = 3) :
    Calls Tryd.prog 44 #[fltV k, .iface 88 (.pointer (some ⟨g, 0, none⟩))] w fun e w' => e = .returned (.bool true) ∧ w' = asHit g k w := by
  have h6 := @run_callFunc_extern Tryd.prog 51 _ (fun args => ReflectliteValue.unpack (args.getD 0 (.tuple #[]))) Tryd.func51 (by kernel_rfl) (by kernel_rfl) (by kernel_rfl) (by kernel_rfl)
  have h7 := @run_callFunc_extern Tryd.prog 52 _ (ReflectliteValue.methodAny (ReflectliteValue.valueError "reflectlite.Value.Type" 0) (fun t _ _ _ => ReflectliteType.toType t)) Tryd.func52 (by kernel_rfl) (by kernel_rfl) (by kernel_rfl) (by kernel_rfl)
  have h8 := @run_callFunc_extern Tryd.prog 53 _ (ReflectliteValue.method (ReflectliteValue.valueError "reflectlite.Value.IsNil" 0) ReflectliteValue.isNil) Tryd.func53 (by kernel_rfl) (by kernel_rfl) (by kernel_rfl) (by kernel_rfl)
  have h27 := @run_callFunc_extern Tryd.prog 79 _ (ReflectliteType.abiMethod fun t => do pure (.int .u8 (← Rtype.kind t))) Tryd.func79 (by kernel_rfl) (by kernel_rfl) (by kernel_rfl) (by kernel_rfl)
  have h37 := @run_callFunc_extern Tryd.prog 92 _ (ReflectliteType.method ReflectliteType.elem) Tryd.func92 (by kernel_rfl) (by kernel_rfl) (by kernel_rfl) (by kernel_rfl)
  have h38 := @run_callFunc_extern Tryd.prog 93 _ (ReflectliteType.relation "Implements" ReflectliteType.implements_) Tryd.func93 (by kernel_rfl) (by kernel_rfl) (by kernel_rfl) (by kernel_rfl)
  have h10 := @run_callFunc_extern Tryd.prog 57 _ ReflectliteType.typeOf Tryd.func57 (by kernel_rfl) (by kernel_rfl) (by kernel_rfl) (by kernel_rfl)
  have h35 := @run_callFunc_extern Tryd.prog 90 _ (ReflectliteType.relation "AssignableTo" ReflectliteType.assignableTo) Tryd.func90 (by kernel_rfl) (by kernel_rfl) (by kernel_rfl) (by kernel_rfl)
  have h62 := @run_callFunc_extern Tryd.prog 59 _ (ReflectliteValue.method (ReflectliteValue.valueError "reflectlite.Value.Elem" 0) ReflectliteValue.elem) Tryd.func59 (by kernel_rfl) (by kernel_rfl) (by kernel_rfl) (by kernel_rfl)
  have h63 := @run_callFunc_extern Tryd.prog 60 _ ReflectliteValue.set Tryd.func60 (by kernel_rfl) (by kernel_rfl) (by kernel_rfl) (by kernel_rfl)
  have tO := Tryd.fTypeOf
  have mA := Tryd.methodAssignableTo
  have aE := Tryd.assignableFF
  have f6 := Tryd.valueOfF
  have g6 := Tryd.valueOfG
  have f7 := Tryd.typeF
  have mK := Tryd.methodKind
  have mE := Tryd.methodElem
  have mI := Tryd.methodImplements
  have k27 := Tryd.kindP
  have k25 := Tryd.kindF
  have e27 := Tryd.elemP
  have i25 := Tryd.implementsF
  have n8 := Tryd.isNilP ⟨w.heap.size, 0, none⟩ ⟨g, 0, none⟩ ((w.alloc (.cells #[.pointer (some ⟨g, 0, none⟩)] 88)).alloc (.cells #[.pointer (some ⟨1, 88, none⟩), .pointer (some ⟨w.heap.size, 0, none⟩), .int .u64 150] 97)) (by simp)
  have hlt := hE.lt
  have hg2 : ((w.alloc (.cells #[.pointer (some ⟨g, 0, none⟩)] 88)).alloc (.cells #[.pointer (some ⟨1, 88, none⟩), .pointer (some ⟨w.heap.size, 0, none⟩), .int .u64 150] 97)).cell? ⟨0, 0, none⟩ = some (.iface 113 (.agg #[.pointer (some ⟨1, 34, none⟩)])) := by
    rw [World.cell?_alloc_lt _ _ ⟨0, 0, none⟩ (by simp; try omega), World.cell?_alloc_lt _ _ ⟨0, 0, none⟩ hlt]; exact hE
  have hc3 : (asMiss ⟨g, 0, none⟩ w).cell? ⟨w.heap.size, 0, none⟩ = some (.pointer (some ⟨g, 0, none⟩)) := by
    unfold asMiss
    rw [World.cell?_alloc_lt _ _ ⟨w.heap.size, 0, none⟩ (by simp; try omega), World.cell?_alloc_lt _ _ ⟨w.heap.size, 0, none⟩ (by simp)]
    simp
  have e62 := Tryd.elemVF ⟨w.heap.size, 0, none⟩ ⟨g, 0, none⟩ _ hc3
  have s63 := Tryd.setF ((asMiss ⟨g, 0, none⟩ w).alloc (.cells #[.int .i64 6, .int .i64 0, .int .i64 k] 80)) g (w.heap.size + 1 + 1 + 1) old #[.int .i64 6, .int .i64 0, .int .i64 k] (alloc_block (asMiss_block hg)) ho (by rw [← asMiss_size ⟨g, 0, none⟩ w]; exact alloc_new _ _) rfl (by simp [Value.oneCell'])
  unfold asHit
  unfold asMiss at *
  clear hc3 hg ho
  unfold fltV
  go_enter Tryd.func44, Tryd.ntmps44
  go_wp2
  refine wp_loop_rounds 1 ?_
  rw [rounds_succ]
  go_wp2
  go_ret
  exact ⟨rfl, rfl⟩

theorem ret_place {a b : Int} {c : Bool} {a' b' : Int} {c' : Bool} (h : a = a') (h2 : b = b') (h3 : c = c') : Ending.returned (.tuple #[.int .i64 a, .int .i64 b, .bool c]) = .returned (.tuple #[.int .i64 a', .int .i64 b', .bool c']) := by rw [h, h2, h3]
set_option maxHeartbeats 4000000 in
theorem place_fault (k : Int) (w : World) (hE : ErrType w) :
    Calls Tryd.prog 42 #[fltV k] w fun e w' => e = .returned (.tuple #[.int .i64 0, .int .i64 k, .bool true]) ∧ Below w.heap.size w w' := by
  have hb0 : Below w.heap.size w (w.alloc (.cells #[.int .i64 0, .int .i64 0, .int .i64 0] 80)) := (Below.refl _ _).alloc (Nat.le_refl _) _
  have HE := hide (hE.below hb0)
  have HA := hide (as_hit k w.heap.size #[.int .i64 0, .int .i64 0, .int .i64 0] _ HE.out (alloc_new w _) rfl)
  clear hE
  unfold fltV at HA ⊢
  go_enter Tryd.func42, Tryd.ntmps42
  go_wp2_with (go_at_call 44; refine HA.out.mono ?_; rintro e w1 ⟨rfl, hw1⟩; replace hw1 := hide hw1)
  replace hw1 := hw1.out
  have hB1 : Below w.heap.size w w1 := by rw [hw1]; exact hb0.trans (asHit_below (Nat.le_refl _) (by simp))
  have hblk : w1.heap[w.heap.size]? = some (.cells #[.int .i64 6, .int .i64 0, .int .i64 k] 80 (0, 0)) := by
    rw [hw1]; exact setRow_heap _ _ #[.int .i64 0, .int .i64 0, .int .i64 0] _ _ _ (alloc_block (asMiss_block (alloc_new w _)))
  have c0 : w1.cell? ⟨w.heap.size, 0, none⟩ = some (.int .i64 6) := by simp [World.cell?, hblk]
  have c1 : w1.cell? ⟨w.heap.size, 1, none⟩ = some (.int .i64 0) := by simp [World.cell?, hblk]
  have c2 : w1.cell? ⟨w.heap.size, 2, none⟩ = some (.int .i64 k) := by simp [World.cell?, hblk]
  have hlt : w.heap.size < w1.heap.size := World.block_lt_of_cell? w1 ⟨w.heap.size, 0, none⟩ c0
  have HB1 := hide hB1
  have HLT := hide hlt
  clear hw1 hblk HA HE hb0 hB1 hlt
  go_region_with (first | (go_at_call 43; refine (num_fault k _).mono ?_; rintro e w2 ⟨rfl, hb2⟩; have d0 : w2.cell? ⟨w.heap.size, 0, none⟩ = some (.int .i64 6) := (hb2.cell (p := ⟨w.heap.size, 0, none⟩) HLT.out).trans c0; have d1 : w2.cell? ⟨w.heap.size, 1, none⟩ = some (.int .i64 0) := (hb2.cell (p := ⟨w.heap.size, 1, none⟩) HLT.out).trans c1; have d2 : w2.cell? ⟨w.heap.size, 2, none⟩ = some (.int .i64 k) := (hb2.cell (p := ⟨w.heap.size, 2, none⟩) HLT.out).trans c2))
  all_goals
    have HB2 := HB1.out.drew.trans (hb2.mono HB1.out.size)
    go_wp2_with fail
    go_ret3
    exact ⟨rfl, HB2⟩
set_option maxHeartbeats 1000000 in
theorem at_fault (k : Int) (w : World) (hE : ErrType w) :
    Calls Tryd.prog 31 #[fltV k, .int .i64 6, .int .i64 0, .int .i64 k] w fun e w' => e = .returned (.bool true) ∧ Below w.heap.size w w' := by
  have HP := hide (place_fault k w hE)
  unfold fltV at HP ⊢
  go_enter Tryd.func31, Tryd.ntmps31
  go_wp2_with fail
  refine HP.out.mono ?_
  rintro e w1 ⟨rfl, hb1⟩
  go_wp2_with fail
  refine (num_fault k _).mono ?_
  rintro e w2 ⟨rfl, hb2⟩
  go_wp2_with fail
  go_ret
  exact ⟨by simp, hb1.trans (hb2.mono hb1.size)⟩
/-- What a law asks of an error: its number, and a place just with the number 6. -/
def Err6 (r : Int × Int) : Prop := (r.1 = 6 ∧ 0 ≤ r.2) ∨ (0 ≤ r.1 ∧ r.1 ≤ 24 ∧ r.1 ≠ 6)
theorem err6_form (l f : List UInt8) : Err6 (formR l f) := by
  rcases formR_lo l f with h | h | h | ⟨k, _, h⟩
  · rw [h]; exact .inr (by decide)
  · rw [h]; exact .inr (by decide)
  · rw [h]; exact .inr (by decide)
  · rw [h]; exact .inl ⟨rfl, by simp⟩
theorem errF_fault (k : Int) : errF (6, k) = fltV k := rfl
end Go.Proofs.YtcdhblfefpkjgaaDoor.LC
