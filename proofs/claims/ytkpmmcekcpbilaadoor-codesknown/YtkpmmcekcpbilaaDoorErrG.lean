/-
  My own text: errors that tell a place: errors.As hits; the place; what a law asks of an error.
-/
import Derived.Test.YtkpmmcekcpbilaaDoorErrF
import Derived.Laws.CopyOwn
namespace Go.Proofs.YtkpmmcekcpbilaaDoor
open Go.RowKit Go.Extern.Stop Go.Stop Go.Extern

/-- The world behind errors.As of a fault. -/
def asHit (g : Nat) (k : Int) (w : World) : World :=
  ((asMiss ⟨g, 0, none⟩ w).alloc (.cells #[.int .i64 6, .int .i64 0, .int .i64 k] 72)).setRow g #[.int .i64 6, .int .i64 0, .int .i64 k]
theorem asHit_below {g B : Nat} {k : Int} {w : World} (hB : B ≤ g) (hw : B ≤ w.heap.size) : Below B w (asHit g k w) :=
  below_setRow ((((((Below.refl B w).alloc hw _).alloc (by simp; omega) _).alloc (by simp; omega) _)).alloc (by simp; omega) _) hB _
theorem asMiss_block {g : Nat} {t : Addr} {w : World} {o : Obj} (h : w.heap[g]? = some o) : (asMiss t w).heap[g]? = some o := by
  have hlt : g < w.heap.size := by
    by_cases hc : g < w.heap.size
    · exact hc
    · rw [Array.getElem?_eq_none (by omega)] at h; cases h
  have hb := (asMiss_below t w).block g hlt
  rw [hb]; exact h
theorem asMiss_size (t : Addr) (w : World) : (asMiss t w).heap.size = w.heap.size + 1 + 1 + 1 := by simp [asMiss]
theorem alloc_block {w : World} {b : Nat} {o x : Obj} (hh : w.heap[b]? = some x) : (w.alloc o).heap[b]? = some x := by
  have hlt : b < w.heap.size := by
    by_cases hc : b < w.heap.size
    · exact hc
    · rw [Array.getElem?_eq_none (by omega)] at hh; cases hh
  rw [Below.heap_alloc _ _ _ hlt]; exact hh
theorem alloc_new (w : World) (o : Obj) : (w.alloc o).heap[w.heap.size]? = some o := (MapKept.heap_alloc w o).1

set_option maxHeartbeats 4000000 in
theorem as_hit (k : Int) (g : Nat) (old : Array Value) (w : World) (hE : ErrType w) (hg : w.heap[g]? = some (.cells old 72 (0, 0))) (ho : old.size = 3) :
    Calls Tryd.prog 49 #[fltV k, .iface 77 (.pointer (some ⟨g, 0, none⟩))] w fun e w' => e = .returned (.bool true) ∧ w' = asHit g k w := by
  have h6 := @run_callFunc_extern Tryd.prog 55 _ (fun args => ReflectliteValue.unpack (args.getD 0 (.tuple #[]))) Tryd.func55 (by kernel_rfl) (by kernel_rfl) (by kernel_rfl) (by kernel_rfl)
  have h7 := @run_callFunc_extern Tryd.prog 56 _ (ReflectliteValue.methodAny (ReflectliteValue.valueError "reflectlite.Value.Type" 0) (fun t _ _ _ => ReflectliteType.toType t)) Tryd.func56 (by kernel_rfl) (by kernel_rfl) (by kernel_rfl) (by kernel_rfl)
  have h8 := @run_callFunc_extern Tryd.prog 57 _ (ReflectliteValue.method (ReflectliteValue.valueError "reflectlite.Value.IsNil" 0) ReflectliteValue.isNil) Tryd.func57 (by kernel_rfl) (by kernel_rfl) (by kernel_rfl) (by kernel_rfl)
  have h27 := @run_callFunc_extern Tryd.prog 78 _ (ReflectliteType.abiMethod fun t => do pure (.int .u8 (← Rtype.kind t))) Tryd.func78 (by kernel_rfl) (by kernel_rfl) (by kernel_rfl) (by kernel_rfl)
  have h37 := @run_callFunc_extern Tryd.prog 90 _ (ReflectliteType.method ReflectliteType.elem) Tryd.func90 (by kernel_rfl) (by kernel_rfl) (by kernel_rfl) (by kernel_rfl)
  have h38 := @run_callFunc_extern Tryd.prog 91 _ (ReflectliteType.relation "Implements" ReflectliteType.implements_) Tryd.func91 (by kernel_rfl) (by kernel_rfl) (by kernel_rfl) (by kernel_rfl)
  have h10 := @run_callFunc_extern Tryd.prog 60 _ ReflectliteType.typeOf Tryd.func60 (by kernel_rfl) (by kernel_rfl) (by kernel_rfl) (by kernel_rfl)
  have h35 := @run_callFunc_extern Tryd.prog 88 _ (ReflectliteType.relation "AssignableTo" ReflectliteType.assignableTo) Tryd.func88 (by kernel_rfl) (by kernel_rfl) (by kernel_rfl) (by kernel_rfl)
  have h62 := @run_callFunc_extern Tryd.prog 62 _ (ReflectliteValue.method (ReflectliteValue.valueError "reflectlite.Value.Elem" 0) ReflectliteValue.elem) Tryd.func62 (by kernel_rfl) (by kernel_rfl) (by kernel_rfl) (by kernel_rfl)
  have h63 := @run_callFunc_extern Tryd.prog 63 _ ReflectliteValue.set Tryd.func63 (by kernel_rfl) (by kernel_rfl) (by kernel_rfl) (by kernel_rfl)
  have tO := Tryd.fTypeOf
  have mA := Tryd.methodAssignableTo
  have aE := Tryd.assignableFF
  have f6 := Tryd.valueOfF
  have g6 := Tryd.valueOfG
  have f7 := Tryd.typeF
  have mK := Tryd.methodKind
  have mE := Tryd.methodElem
  have mI := Tryd.methodImplements
  have k27 := Tryd.kindP
  have k25 := Tryd.kindF
  have e27 := Tryd.elemP
  have i25 := Tryd.implementsF
  have n8 := Tryd.isNilP ⟨w.heap.size, 0, none⟩ ⟨g, 0, none⟩ ((w.alloc (.cells #[.pointer (some ⟨g, 0, none⟩)] 77)).alloc (.cells #[.pointer (some ⟨2, 77, none⟩), .pointer (some ⟨w.heap.size, 0, none⟩), .int .u64 150] 82)) (by simp)
  have hlt := hE.lt
  have hg2 : ((w.alloc (.cells #[.pointer (some ⟨g, 0, none⟩)] 77)).alloc (.cells #[.pointer (some ⟨2, 77, none⟩), .pointer (some ⟨w.heap.size, 0, none⟩), .int .u64 150] 82)).cell? ⟨1, 0, none⟩ = some (.iface 94 (.agg #[.pointer (some ⟨2, 27, none⟩)])) := by
    rw [World.cell?_alloc_lt _ _ ⟨1, 0, none⟩ (by simp; try omega), World.cell?_alloc_lt _ _ ⟨1, 0, none⟩ hlt]; exact hE
  have hc3 : (asMiss ⟨g, 0, none⟩ w).cell? ⟨w.heap.size, 0, none⟩ = some (.pointer (some ⟨g, 0, none⟩)) := by
    unfold asMiss
    rw [World.cell?_alloc_lt _ _ ⟨w.heap.size, 0, none⟩ (by simp; try omega), World.cell?_alloc_lt _ _ ⟨w.heap.size, 0, none⟩ (by simp)]
    simp
  have e62 := Tryd.elemVF ⟨w.heap.size, 0, none⟩ ⟨g, 0, none⟩ _ hc3
  have s63 := Tryd.setF ((asMiss ⟨g, 0, none⟩ w).alloc (.cells #[.int .i64 6, .int .i64 0, .int .i64 k] 72)) g (w.heap.size + 1 + 1 + 1) old #[.int .i64 6, .int .i64 0, .int .i64 k] (alloc_block (asMiss_block hg)) ho (by rw [← asMiss_size ⟨g, 0, none⟩ w]; exact alloc_new _ _) rfl (by simp [Value.oneCell'])
  unfold asHit
  unfold asMiss at *
  clear hc3 hg ho
  unfold fltV
  go_enter Tryd.func49, Tryd.ntmps49
  go_wp2
  refine wp_loop_rounds 1 ?_
  rw [rounds_succ]
  go_wp2
  go_ret
  exact ⟨rfl, rfl⟩

theorem ret_place {a b : Int} {c : Bool} {a' b' : Int} {c' : Bool} (h : a = a') (h2 : b = b') (h3 : c = c') : Ending.returned (.tuple #[.int .i64 a, .int .i64 b, .bool c]) = .returned (.tuple #[.int .i64 a', .int .i64 b', .bool c']) := by rw [h, h2, h3]
set_option maxHeartbeats 4000000 in
theorem place_fault (k : Int) (w : World) (hE : ErrType w) :
    Calls Tryd.prog 47 #[fltV k] w fun e w' => e = .returned (.tuple #[.int .i64 0, .int .i64 k, .bool true]) ∧ Below w.heap.size w w' := by
  have hb0 : Below w.heap.size w (w.alloc (.cells #[.int .i64 0, .int .i64 0, .int .i64 0] 72)) := (Below.refl _ _).alloc (Nat.le_refl _) _
  have HE := hide (hE.below hb0)
  have HA := hide (as_hit k w.heap.size #[.int .i64 0, .int .i64 0, .int .i64 0] _ HE.out (alloc_new w _) rfl)
  clear hE
  unfold fltV at HA ⊢
  go_enter Tryd.func47, Tryd.ntmps47
  go_wp2_with (go_at_call 49; refine HA.out.mono ?_; rintro e w1 ⟨rfl, hw1⟩; replace hw1 := hide hw1)
  replace hw1 := hw1.out
  have hB1 : Below w.heap.size w w1 := by rw [hw1]; exact hb0.trans (asHit_below (Nat.le_refl _) (by simp))
  have hblk : w1.heap[w.heap.size]? = some (.cells #[.int .i64 6, .int .i64 0, .int .i64 k] 72 (0, 0)) := by
    rw [hw1]; exact setRow_heap _ _ #[.int .i64 0, .int .i64 0, .int .i64 0] _ _ _ (alloc_block (asMiss_block (alloc_new w _)))
  have c0 : w1.cell? ⟨w.heap.size, 0, none⟩ = some (.int .i64 6) := by simp [World.cell?, hblk]
  have c1 : w1.cell? ⟨w.heap.size, 1, none⟩ = some (.int .i64 0) := by simp [World.cell?, hblk]
  have c2 : w1.cell? ⟨w.heap.size, 2, none⟩ = some (.int .i64 k) := by simp [World.cell?, hblk]
  have hlt : w.heap.size < w1.heap.size := World.block_lt_of_cell? w1 ⟨w.heap.size, 0, none⟩ c0
  have HB1 := hide hB1
  have HLT := hide hlt
  clear hw1 hblk HA HE hb0 hB1 hlt
  go_region_with (first | (go_at_call 48; refine (num_fault k _).mono ?_; rintro e w2 ⟨rfl, hb2⟩; have d0 : w2.cell? ⟨w.heap.size, 0, none⟩ = some (.int .i64 6) := (hb2.cell (p := ⟨w.heap.size, 0, none⟩) HLT.out).trans c0; have d1 : w2.cell? ⟨w.heap.size, 1, none⟩ = some (.int .i64 0) := (hb2.cell (p := ⟨w.heap.size, 1, none⟩) HLT.out).trans c1; have d2 : w2.cell? ⟨w.heap.size, 2, none⟩ = some (.int .i64 k) := (hb2.cell (p := ⟨w.heap.size, 2, none⟩) HLT.out).trans c2))
  all_goals
    have HB2 := HB1.out.drew.trans (hb2.mono HB1.out.size)
    go_wp2_with fail
    go_ret3
    exact ⟨rfl, HB2⟩
set_option maxHeartbeats 1000000 in
theorem at_fault (k : Int) (w : World) (hE : ErrType w) :
    Calls Tryd.prog 36 #[fltV k, .int .i64 6, .int .i64 0, .int .i64 k] w fun e w' => e = .returned (.bool true) ∧ Below w.heap.size w w' := by
  have HP := hide (place_fault k w hE)
  unfold fltV at HP ⊢
  go_enter Tryd.func36, Tryd.ntmps36
  go_wp2_with fail
  refine HP.out.mono ?_
  rintro e w1 ⟨rfl, hb1⟩
  go_wp2_with fail
  refine (num_fault k _).mono ?_
  rintro e w2 ⟨rfl, hb2⟩
  go_wp2_with fail
  go_ret
  exact ⟨by simp, hb1.trans (hb2.mono hb1.size)⟩

/-- What a law asks of an error: its number, and a place just with the number 6. -/
def Err6 (r : Int × Int) : Prop := (r.1 = 6 ∧ 0 ≤ r.2) ∨ (0 ≤ r.1 ∧ r.1 ≤ 24 ∧ r.1 ≠ 6)
theorem err6_form (l f : List UInt8) : Err6 (formR l f) := by
  rcases formR_lo l f with h | h | h | ⟨k, _, h⟩
  · rw [h]; exact .inr (by decide)
  · rw [h]; exact .inr (by decide)
  · rw [h]; exact .inr (by decide)
  · rw [h]; exact .inl ⟨rfl, by simp⟩
theorem errF_fault (k : Int) : errF (6, k) = fltV k := rfl
set_option maxHeartbeats 1000000 in
theorem told_any (r : Int × Int) (w : World) (hr : Err6 r) (hE : ErrType w) :
    Calls Tryd.prog 10 #[errF r, .int .i64 r.1, .int .i64 r.2] w fun e w' => e = .returned (.bool true) ∧ Below w.heap.size w w' := by
  obtain ⟨n, k⟩ := r
  rcases hr with ⟨h6, _⟩ | ⟨h0, h1, h6⟩
  · simp only at h6
    subst h6
    rw [errF_fault]
    have HA := hide (at_fault k w hE)
    unfold fltV at HA ⊢
    go_enter Tryd.func10, Tryd.ntmps10
    go_wp2_with fail
    refine HA.out.mono ?_
    rintro e w1 ⟨rfl, hb1⟩
    go_wp2_with fail
    go_ret
    exact ⟨rfl, hb1⟩
  · simp only at h0 h1 h6
    have hb6 : (n == 6) = false := by simpa using h6
    by_cases hn : n = 0
    · subst hn
      rw [show errF (0, k) = .nilIface from rfl]
      go_enter Tryd.func10, Tryd.ntmps10
      go_wp2_with fail
      refine (plain_nil 0 _).mono ?_
      rintro e w1 ⟨rfl, hb1⟩
      go_wp2_with fail
      go_ret
      exact ⟨rfl, hb1⟩
    · rw [show errF (n, k) = .iface 61 (.int .i64 n) by unfold errF; rw [if_neg hn, if_neg h6]]
      have HP := hide (plain_errno n n w (by omega) h1 hE)
      clear h6
      go_enter Tryd.func10, Tryd.ntmps10
      go_wp2_with fail
      refine HP.out.mono ?_
      rintro e w1 ⟨rfl, hb1⟩
      go_wp2_with fail
      go_ret
      exact ⟨by simp, hb1⟩
end Go.Proofs.YtkpmmcekcpbilaaDoor
