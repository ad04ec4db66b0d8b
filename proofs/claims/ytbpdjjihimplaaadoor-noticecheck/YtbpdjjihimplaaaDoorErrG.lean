/-
  My own text: errors that tell a place: errors.As hits; the place; what a law asks of an error.
-/
import Derived.Test.YtbpdjjihimplaaaDoorErrF
import Derived.Laws.CopyOwn
namespace Go.Proofs.YtbpdjjihimplaaaDoor.LC
open Go.RowKit Go.Extern.Stop Go.Stop Go.Extern

/-- The world behind errors.As of a fault. -/
def asHit (g : Nat) (k : Int) (w : World) : World :=
  ((asMiss ⟨g, 0, none⟩ w).alloc (.cells #[.int .i64 6, .int .i64 0, .int .i64 k] 37)).setRow g #[.int .i64 6, .int .i64 0, .int .i64 k]
theorem asHit_below {g B : Nat} {k : Int} {w : World} (hB : B ≤ g) (hw : B ≤ w.heap.size) : Below B w (asHit g k w) :=
  below_setRow ((((((Below.refl B w).alloc hw _).alloc (by simp; omega) _).alloc (by simp; omega) _)).alloc (by simp; omega) _) hB _
theorem asMiss_block {g : Nat} {t : Addr} {w : World} {o : Obj} (h : w.heap[g]? = some o) : (asMiss t w).heap[g]? = some o := by
  have hlt : g < w.heap.size := by
    by_cases hc : g < w.heap.size
    · exact hc
    · rw [Array.getElem?_eq_none (by omega)] at h; cases h
  have hb := (asMiss_below t w).block g hlt
  rw [hb]; exact h
theorem asMiss_size (t : Addr) (w : World) : (asMiss t w).heap.size = w.heap.size + 1 + 1 + 1 := by simp [asMiss]
theorem alloc_block {w : World} {b : Nat} {o x : Obj} (hh : w.heap[b]? = some x) : (w.alloc o).heap[b]? = some x := by
  have hlt : b < w.heap.size := by
    by_cases hc : b < w.heap.size
    · exact hc
    · rw [Array.getElem?_eq_none (by omega)] at hh; cases hh
  rw [Below.heap_alloc _ _ _ hlt]; exact hh
theorem alloc_new (w : World) (o : Obj) : (w.alloc o).heap[w.heap.size]? = some o := (MapKept.heap_alloc w o).1

set_option maxHeartbeats 4000000 in
theorem as_hit (k : Int) (g : Nat) (old : Array Value) (w : World) (hE : ErrType w) (hg : w.heap[g]? = some (.cells old 37 (0, 0))) (ho : old.size = 3) :
    Calls Tryd.prog 11 #[fltV k, .iface 40 (.pointer (some ⟨g, 0, none⟩))] w fun e w' => e = .returned (.bool true) ∧ w' = asHit g k w := by
  have h6 := @run_callFunc_extern Tryd.prog 20 _ (fun args => ReflectliteValue.unpack (args.getD 0 (.tuple #[]))) Tryd.func20 (by kernel_rfl) (by kernel_rfl) (by kernel_rfl) (by kernel_rfl)
  have h7 := @run_callFunc_extern Tryd.prog 21 _ (ReflectliteValue.methodAny (ReflectliteValue.valueError "reflectlite.Value.Type" 0) (fun t _ _ _ => ReflectliteType.toType t)) Tryd.func21 (by kernel_rfl) (by kernel_rfl) (by kernel_rfl) (by kernel_rfl)
  have h8 := @run_callFunc_extern Tryd.prog 22 _ (ReflectliteValue.method (ReflectliteValue.valueError "reflectlite.Value.IsNil" 0) ReflectliteValue.isNil) Tryd.func22 (by kernel_rfl) (by kernel_rfl) (by kernel_rfl) (by kernel_rfl)
  have h27 := @run_callFunc_extern Tryd.prog 77 _ (ReflectliteType.abiMethod fun t => do pure (.int .u8 (← Rtype.kind t))) Tryd.func77 (by kernel_rfl) (by kernel_rfl) (by kernel_rfl) (by kernel_rfl)
  have h37 := @run_callFunc_extern Tryd.prog 89 _ (ReflectliteType.method ReflectliteType.elem) Tryd.func89 (by kernel_rfl) (by kernel_rfl) (by kernel_rfl) (by kernel_rfl)
  have h38 := @run_callFunc_extern Tryd.prog 90 _ (ReflectliteType.relation "Implements" ReflectliteType.implements_) Tryd.func90 (by kernel_rfl) (by kernel_rfl) (by kernel_rfl) (by kernel_rfl)
  have h10 := @run_callFunc_extern Tryd.prog 38 _ ReflectliteType.typeOf Tryd.func38 (by kernel_rfl) (by kernel_rfl) (by kernel_rfl) (by kernel_rfl)
  have h35 := @run_callFunc_extern Tryd.prog 87 _ (ReflectliteType.relation "AssignableTo" ReflectliteType.assignableTo) Tryd.func87 (by kernel_rfl) (by kernel_rfl) (by kernel_rfl) (by kernel_rfl)
  have h62 := @run_callFunc_extern Tryd.prog 40 _ (ReflectliteValue.method (ReflectliteValue.valueError "reflectlite.Value.Elem" 0) ReflectliteValue.elem) Tryd.func40 (by kernel_rfl) (by kernel_rfl) (by kernel_rfl) (by kernel_rfl)
  have h63 := @run_callFunc_extern Tryd.prog 41 _ ReflectliteValue.set Tryd.func41 (by kernel_rfl) (by kernel_rfl) (by kernel_rfl) (by kernel_rfl)
  have tO := Tryd.fTypeOf
  have mA := Tryd.methodAssignableTo
  have aE := Tryd.assignableFF
  have f6 := Tryd.valueOfF
  have g6 := Tryd.valueOfG
  have f7 := Tryd.typeF
  have mK := Tryd.methodKind
  have mE := Tryd.methodElem
  have mI := Tryd.methodImplements
  have k27 := Tryd.kindP
  have k25 := Tryd.kindF
  have e27 := Tryd.elemP
  have i25 := Tryd.implementsF
  have n8 := Tryd.isNilP ⟨w.heap.size, 0, none⟩ ⟨g, 0, none⟩ ((w.alloc (.cells #[.pointer (some ⟨g, 0, none⟩)] 40)).alloc (.cells #[.pointer (some ⟨3, 40, none⟩), .pointer (some ⟨w.heap.size, 0, none⟩), .int .u64 150] 49)) (by simp)
  have hlt := hE.lt
  have hg2 : ((w.alloc (.cells #[.pointer (some ⟨g, 0, none⟩)] 40)).alloc (.cells #[.pointer (some ⟨3, 40, none⟩), .pointer (some ⟨w.heap.size, 0, none⟩), .int .u64 150] 49)).cell? ⟨0, 0, none⟩ = some (.iface 73 (.agg #[.pointer (some ⟨3, 30, none⟩)])) := by
    rw [World.cell?_alloc_lt _ _ ⟨0, 0, none⟩ (by simp; try omega), World.cell?_alloc_lt _ _ ⟨0, 0, none⟩ hlt]; exact hE
  have hc3 : (asMiss ⟨g, 0, none⟩ w).cell? ⟨w.heap.size, 0, none⟩ = some (.pointer (some ⟨g, 0, none⟩)) := by
    unfold asMiss
    rw [World.cell?_alloc_lt _ _ ⟨w.heap.size, 0, none⟩ (by simp; try omega), World.cell?_alloc_lt _ _ ⟨w.heap.size, 0, none⟩ (by simp)]
    simp
  have e62 := Tryd.elemVF ⟨w.heap.size, 0, none⟩ ⟨g, 0, none⟩ _ hc3
  have s63 := Tryd.setF ((asMiss ⟨g, 0, none⟩ w).alloc (.cells #[.int .i64 6, .int .i64 0, .int .i64 k] 37)) g (w.heap.size + 1 + 1 + 1) old #[.int .i64 6, .int .i64 0, .int .i64 k] (alloc_block (asMiss_block hg)) ho (by rw [← asMiss_size ⟨g, 0, none⟩ w]; exact alloc_new _ _) rfl (by simp [Value.oneCell'])
  unfold asHit
  unfold asMiss at *
  clear hc3 hg ho
  unfold fltV
  go_enter Tryd.func11, Tryd.ntmps11
  go_wp2
  refine wp_loop_rounds 1 ?_
  rw [rounds_succ]
  go_wp2
  go_ret
  exact ⟨rfl, rfl⟩

theorem ret_place {a b : Int} {c : Bool} {a' b' : Int} {c' : Bool} (h : a = a') (h2 : b = b') (h3 : c = c') : Ending.returned (.tuple #[.int .i64 a, .int .i64 b, .bool c]) = .returned (.tuple #[.int .i64 a', .int .i64 b', .bool c']) := by rw [h, h2, h3]
/-- What a law asks of an error: its number, and a place just with the number 6. -/
def Err6 (r : Int × Int) : Prop := (r.1 = 6 ∧ 0 ≤ r.2) ∨ (0 ≤ r.1 ∧ r.1 ≤ 24 ∧ r.1 ≠ 6)
theorem err6_form (l f : List UInt8) : Err6 (formR l f) := by
  rcases formR_lo l f with h | h | h | ⟨k, _, h⟩
  · rw [h]; exact .inr (by decide)
  · rw [h]; exact .inr (by decide)
  · rw [h]; exact .inr (by decide)
  · rw [h]; exact .inl ⟨rfl, by simp⟩
theorem errF_fault (k : Int) : errF (6, k) = fltV k := rfl
end Go.Proofs.YtbpdjjihimplaaaDoor.LC
