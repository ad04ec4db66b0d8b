/-
  My own text: At, Last, Len, New of a chain.
-/
import Derived.Test.YtechjcmolccdjaaDoorTC4
import Derived.Test.YtechjcmolccdjaaDoorQRz
namespace Go.Proofs.YtechjcmolccdjaaDoor.CT
open Go.RowKit

theorem Tryd.sizeThing : (Tryd.prog.info? 43).map (·.size) = some 3 := by kernel_rfl
theorem thing_range {W : World} {b : Nat} {N q x y : Int} (h : W.heap[b]? = some (.cells #[.int .i64 N, .int .i64 q, .int .u8 x, .int .u8 y] 92 (0, 0))) : W.rangeAt b 1 [.int .i64 q, .int .u8 x, .int .u8 y] := fun j u hj => by
  rw [cell_of_row W b _ _ _ _ h]
  match j, hj with
  | 0, hj => cases hj; rfl
  | 1, hj => cases hj; rfl
  | 2, hj => cases hj; rfl
theorem results_cell_tmp2 {fn : Func} {p q r : Tmp} {ty : TypeId} (h : fn.results = #[.cell p ty, .tmp q, .tmp r]) (tmps : Array Value) (P : Program) (w : World) :
    (results fn tmps).run P w = ((asAddr (tmps.getD p undef)).run P w).andThen fun a w₁ => ((loadVar ty a).run P w₁).andThen fun v w₂ => .ok (.tuple #[v, tmps.getD q undef, tmps.getD r undef]) w₂ := by
  simp only [results, h]
  simp [Sem.run_bind, Result.andThen]
set_option maxRecDepth 100000 in
set_option maxHeartbeats 1000000 in
theorem at_of (n N q x y : Int) (ok : Bool) (cb : Nat) (w : World) (hA : ∀ W, Below w.heap.size w W → Calls Tryd.prog 41 #[.pointer (some ⟨cb, 0, none⟩), .int .i64 n] W fun e w' => e = .returned (.tuple #[.agg #[.int .i64 N, .int .i64 q, .int .u8 x, .int .u8 y], .bool ok]) ∧ Below W.heap.size W w') :
    Calls Tryd.prog 45 #[.pointer (some ⟨cb, 0, none⟩), .int .i64 n] w fun e w' => e = .returned (.tuple #[.agg #[.int .i64 q, .int .u8 x, .int .u8 y], .bool ok]) ∧ Below w.heap.size w w' := by
  have HA := hide hA
  have HB0 := hide ((Below.refl w.heap.size w).alloc (Nat.le_refl _) (.cells #[.int .i64 0, .int .u8 0, .int .u8 0] 43))
  have K0 := hide (alloc_newV w (.cells #[.int .i64 0, .int .u8 0, .int .u8 0] 43))
  clear hA
  go_enter Tryd.func45, Tryd.ntmps45
  go_wp2_with fail
  refine (HA.out _ HB0.out).mono ?_
  rintro e w2 ⟨rfl, hb2⟩
  have B2 := hide (HB0.out.trans (hb2.mono HB0.out.size))
  have K2 := hide ((hb2.block w.heap.size (by simp)).trans K0.out)
  have B3 : Hid (Below w.heap.size w (w2.alloc (.cells #[.int .i64 N, .int .i64 q, .int .u8 x, .int .u8 y] 92))) := hide (B2.out.alloc B2.out.size _)
  have R3 := hide (thing_range (alloc_newV w2 (.cells #[.int .i64 N, .int .i64 q, .int .u8 x, .int .u8 y] 92)))
  have K3 : Hid ((w2.alloc (.cells #[.int .i64 N, .int .i64 q, .int .u8 x, .int .u8 y] 92)).heap[w.heap.size]? = _) := hide ((Below.heap_alloc _ _ _ (Array.getElem?_eq_some_iff.1 K2.out).1).trans K2.out)
  clear hb2 HA K0 HB0 K2 B2
  go_wp2_with (first
    | (refine wpList_store_row rfl 92 _ _ rfl w2.heap.size #[.int .i64 N, .int .i64 q, .int .u8 x, .int .u8 y] rfl rfl _ _ (alloc_newV w2 _) Tryd.sizeVerT rfl (by simp [Value.oneCell']) ?_; rw [World.setRow_alloc_new])
    | (refine wpList_store_row rfl 43 _ _ rfl w.heap.size #[.int .i64 q, .int .u8 x, .int .u8 y] rfl rfl _ _ K3.out Tryd.sizeThing rfl (by simp [Value.oneCell']) ?_))
  refine bodyPost_ret (v := .tuple #[.agg #[.int .i64 q, .int .u8 x, .int .u8 y], .bool ok]) ?_ rfl ⟨rfl, belowRow B3.out (Nat.le_refl _)⟩
  rw [results_cell_tmp rfl]
  simp only [asAddr]
  have hld := run_loadVar_row (P := Tryd.prog) ((w2.alloc (.cells #[.int .i64 N, .int .i64 q, .int .u8 x, .int .u8 y] 92)).setRow w.heap.size #[.int .i64 q, .int .u8 x, .int .u8 y]) w.heap.size 43 43 #[.int .i64 q, .int .u8 x, .int .u8 y] (0, 0) _ (setRow_heap _ _ _ _ _ _ K3.out) Tryd.underlying43 rfl Tryd.sizeThing
  simp [Result.andThen, hld]
set_option maxRecDepth 100000 in
set_option maxHeartbeats 1000000 in
theorem last_of (N q x y : Int) (ok : Bool) (cb : Nat) (w : World) (hA : ∀ W, Below w.heap.size w W → Calls Tryd.prog 41 #[.pointer (some ⟨cb, 0, none⟩), .int .i64 9223372036854775807] W fun e w' => e = .returned (.tuple #[.agg #[.int .i64 N, .int .i64 q, .int .u8 x, .int .u8 y], .bool ok]) ∧ Below W.heap.size W w') :
    Calls Tryd.prog 34 #[.pointer (some ⟨cb, 0, none⟩)] w fun e w' => e = .returned (.tuple #[.agg #[.int .i64 q, .int .u8 x, .int .u8 y], .int .i64 N, .bool ok]) ∧ Below w.heap.size w w' := by
  have HA := hide hA
  have HB0 := hide ((Below.refl w.heap.size w).alloc (Nat.le_refl _) (.cells #[.int .i64 0, .int .u8 0, .int .u8 0] 43))
  have K0 := hide (alloc_newV w (.cells #[.int .i64 0, .int .u8 0, .int .u8 0] 43))
  clear hA
  go_enter Tryd.func34, Tryd.ntmps34
  go_wp2_with fail
  refine (HA.out _ HB0.out).mono ?_
  rintro e w2 ⟨rfl, hb2⟩
  have B2 := hide (HB0.out.trans (hb2.mono HB0.out.size))
  have K2 := hide ((hb2.block w.heap.size (by simp)).trans K0.out)
  have B3 : Hid (Below w.heap.size w (w2.alloc (.cells #[.int .i64 N, .int .i64 q, .int .u8 x, .int .u8 y] 92))) := hide (B2.out.alloc B2.out.size _)
  have R3 := hide (thing_range (alloc_newV w2 (.cells #[.int .i64 N, .int .i64 q, .int .u8 x, .int .u8 y] 92)))
  have K3 : Hid ((w2.alloc (.cells #[.int .i64 N, .int .i64 q, .int .u8 x, .int .u8 y] 92)).heap[w.heap.size]? = _) := hide ((Below.heap_alloc _ _ _ (Array.getElem?_eq_some_iff.1 K2.out).1).trans K2.out)
  clear hb2 HA K0 HB0 K2 B2
  go_wp2_with (refine wpList_store_row rfl 92 _ _ rfl w2.heap.size #[.int .i64 N, .int .i64 q, .int .u8 x, .int .u8 y] rfl rfl _ _ (alloc_newV w2 _) Tryd.sizeVerT rfl (by simp [Value.oneCell']) ?_; rw [World.setRow_alloc_new])
  have HX := hide (alloc_newV w2 (.cells #[.int .i64 N, .int .i64 q, .int .u8 x, .int .u8 y] 92))
  have HNE : Hid (w2.heap.size ≠ w.heap.size) := hide (fun e => by
    have h1 := K3.out
    rw [← e, alloc_newV] at h1
    cases h1)
  generalize (w2.alloc (.cells #[.int .i64 N, .int .i64 q, .int .u8 x, .int .u8 y] 92)) = XA at *
  refine begins_held (S := fun W => W.cell? ⟨w2.heap.size, 0, none⟩ = some (.int .i64 N) ∧ W.cell? ⟨w2.heap.size, 1, none⟩ = some (.int .i64 q) ∧ W.cell? ⟨w2.heap.size, 2, none⟩ = some (.int .u8 x) ∧ W.cell? ⟨w2.heap.size, 3, none⟩ = some (.int .u8 y)) 8 #[false, false, false, false, false, false, false, false] (by kernel_rfl) (by kernel_rfl) (by kernel_rfl) ?hS0 (fun hHeld => ?_)
  case hS0 => exact ⟨by show XA.cell? _ = _; rw [cell_of_row _ _ 0 _ _ _ HX.out]; rfl, by show XA.cell? _ = _; rw [cell_of_row _ _ 1 _ _ _ HX.out]; rfl, by show XA.cell? _ = _; rw [cell_of_row _ _ 2 _ _ _ HX.out]; rfl, by show XA.cell? _ = _; rw [cell_of_row _ _ 3 _ _ _ HX.out]; rfl⟩
  refine tk (v := ?_) 0 12 #[true, false, false, false, false, false, false, false] rfl rfl (by kernel_rfl) (by kernel_rfl) (by kernel_rfl) (fun _ _ _ h => h) (by kernel_rfl) (by rfl) ?hy hHeld ?_
  case hy => rintro W ⟨e1, e2, e3, e4⟩; first | (go_simp; done) | (go_simp; with_reducible rfl)
  simp only [List.setIfInBounds_toArray, List.set_cons_zero, List.set_cons_succ]
  refine tk (v := ?_) 1 13 #[true, true, false, false, false, false, false, false] rfl rfl (by kernel_rfl) (by kernel_rfl) (by kernel_rfl) (fun _ _ _ h => h) (by kernel_rfl) (by rfl) ?hy hHeld ?_
  case hy => rintro W ⟨e1, e2, e3, e4⟩; first | (go_simp; done) | (go_simp; with_reducible rfl)
  simp only [List.setIfInBounds_toArray, List.set_cons_zero, List.set_cons_succ]
  refine tk (v := ?_) 2 14 #[true, true, true, false, false, false, false, false] rfl rfl (by kernel_rfl) (by kernel_rfl) (by kernel_rfl) (fun _ _ _ h => h) (by kernel_rfl) (by rfl) ?hy hHeld ?_
  case hy => rintro W ⟨e1, e2, e3, e4⟩; first | (go_simp; done) | (go_simp; with_reducible rfl)
  simp only [List.setIfInBounds_toArray, List.set_cons_zero, List.set_cons_succ]
  refine tk (v := ?_) 3 15 #[true, true, true, true, false, false, false, false] rfl rfl (by kernel_rfl) (by kernel_rfl) (by kernel_rfl) (fun _ _ _ h => h) (by kernel_rfl) (by rfl) ?hy hHeld ?_
  case hy => rintro W ⟨e1, e2, e3, e4⟩; first | (go_simp; done) | (go_simp; with_reducible rfl)
  simp only [List.setIfInBounds_toArray, List.set_cons_zero, List.set_cons_succ]
  refine tk (v := ?_) 4 16 #[true, true, true, true, true, false, false, false] rfl rfl (by kernel_rfl) (by kernel_rfl) (by kernel_rfl) (fun _ _ _ h => h) (by kernel_rfl) (by rfl) ?hy hHeld ?_
  case hy => rintro W ⟨e1, e2, e3, e4⟩; first | (go_simp; done) | (go_simp; with_reducible rfl)
  simp only [List.setIfInBounds_toArray, List.set_cons_zero, List.set_cons_succ]
  refine one_ready 5 #[true, true, true, true, true, true, false, false] rfl (by kernel_rfl) (by kernel_rfl) (by rfl) (fun K hK => ?_)
  refine wp_store_row 43 _ _ rfl w.heap.size #[.int .i64 q, .int .u8 x, .int .u8 y] rfl rfl _ _ K3.out Tryd.sizeThing rfl (by simp [Value.oneCell']) ?_
  have HX2 : (XA.drew.setRow w.heap.size #[.int .i64 q, .int .u8 x, .int .u8 y]).heap[w2.heap.size]? = _ := (setRow_other _ _ _ _ HNE.out).trans HX.out
  refine hK.out _ _ ⟨by rw [cell_of_row _ _ 0 _ _ _ HX2]; rfl, by rw [cell_of_row _ _ 1 _ _ _ HX2]; rfl, by rw [cell_of_row _ _ 2 _ _ _ HX2]; rfl, by rw [cell_of_row _ _ 3 _ _ _ HX2]; rfl⟩ (fun hHeld => ?_)
  clear hK K HX2
  simp only [Act.put, List.setIfInBounds_toArray]
  refine tk (v := ?_) 6 3 #[true, true, true, true, true, true, true, false] rfl rfl (by kernel_rfl) (by kernel_rfl) (by kernel_rfl) (fun _ _ _ h => h) (by kernel_rfl) (by rfl) ?hy hHeld ?_
  case hy => rintro W ⟨e1, e2, e3, e4⟩; first | (go_simp; done) | (go_simp; with_reducible rfl)
  simp only [List.setIfInBounds_toArray, List.set_cons_zero, List.set_cons_succ]
  refine tk (v := ?_) 7 4 #[true, true, true, true, true, true, true, true] rfl rfl (by kernel_rfl) (by kernel_rfl) (by kernel_rfl) (fun _ _ _ h => h) (by kernel_rfl) (by rfl) ?hy hHeld ?_
  case hy => rintro W ⟨e1, e2, e3, e4⟩; first | (go_simp; done) | (go_simp; with_reducible rfl)
  simp only [List.setIfInBounds_toArray, List.set_cons_zero, List.set_cons_succ]
  refine wpAnyH_done (by kernel_rfl) ?_ _
  have B4 : Hid (Below w.heap.size w XA.drew) := hide B3.out.drew
  have K4 : Hid (XA.drew.heap[w.heap.size]? = some (.cells #[.int .i64 0, .int .u8 0, .int .u8 0] 43 (0, 0))) := hide K3.out
  go_wp2_with fail
  refine bodyPost_ret (v := .tuple #[.agg #[.int .i64 q, .int .u8 x, .int .u8 y], .int .i64 N, .bool ok]) ?_ rfl ⟨rfl, belowRow B4.out (Nat.le_refl _)⟩
  rw [results_cell_tmp2 rfl]
  simp only [asAddr]
  have hld := run_loadVar_row (P := Tryd.prog) (XA.drew.setRow w.heap.size #[.int .i64 q, .int .u8 x, .int .u8 y]) w.heap.size 43 43 #[.int .i64 q, .int .u8 x, .int .u8 y] (0, 0) _ (setRow_heap _ _ _ _ _ _ K4.out) Tryd.underlying43 rfl Tryd.sizeThing
  simp [Result.andThen, hld]
theorem at_no (n : Int) (B cb : Nat) (L : List Ver) (w : World) (h : CH w B cb L) (hr : Ris L) (hl : L.length ≤ 4611686018427387904) (h0 : ab n L = 0) :
    Calls Tryd.prog 45 #[.pointer (some ⟨cb, 0, none⟩), .int .i64 n] w fun e w' => e = .returned (.tuple #[.agg #[.int .i64 0, .int .u8 0, .int .u8 0], .bool false]) ∧ Below w.heap.size w w' :=
  at_of n 0 0 0 0 false cb w (fun W hb => counts_no n B cb L W (h.later hb) hr hl h0)
theorem at_yes (n : Int) (B cb : Nat) (L : List Ver) (k : Nat) (p : Ver) (w : World) (h : CH w B cb L) (hr : Ris L) (hl : L.length ≤ 4611686018427387904) (h0 : ab n L = k + 1) (hp : L[k]? = some p) :
    Calls Tryd.prog 45 #[.pointer (some ⟨cb, 0, none⟩), .int .i64 n] w fun e w' => e = .returned (.tuple #[.agg #[.int .i64 p.2.1, .int .u8 p.2.2.1, .int .u8 p.2.2.2], .bool true]) ∧ Below w.heap.size w w' :=
  at_of n p.1 p.2.1 p.2.2.1 p.2.2.2 true cb w (fun W hb => counts_yes n B cb k L p W (h.later hb) hr hl h0 hp)
theorem last_no (B cb : Nat) (L : List Ver) (w : World) (h : CH w B cb L) (hr : Ris L) (hl : L.length ≤ 4611686018427387904) (h0 : ab 9223372036854775807 L = 0) :
    Calls Tryd.prog 34 #[.pointer (some ⟨cb, 0, none⟩)] w fun e w' => e = .returned (.tuple #[.agg #[.int .i64 0, .int .u8 0, .int .u8 0], .int .i64 0, .bool false]) ∧ Below w.heap.size w w' :=
  last_of 0 0 0 0 false cb w (fun W hb => counts_no 9223372036854775807 B cb L W (h.later hb) hr hl h0)
theorem last_yes (B cb : Nat) (L : List Ver) (k : Nat) (p : Ver) (w : World) (h : CH w B cb L) (hr : Ris L) (hl : L.length ≤ 4611686018427387904) (h0 : ab 9223372036854775807 L = k + 1) (hp : L[k]? = some p) :
    Calls Tryd.prog 34 #[.pointer (some ⟨cb, 0, none⟩)] w fun e w' => e = .returned (.tuple #[.agg #[.int .i64 p.2.1, .int .u8 p.2.2.1, .int .u8 p.2.2.2], .int .i64 p.1, .bool true]) ∧ Below w.heap.size w w' :=
  last_of p.1 p.2.1 p.2.2.1 p.2.2.2 true cb w (fun W hb => counts_yes 9223372036854775807 B cb k L p W (h.later hb) hr hl h0 hp)
set_option maxRecDepth 100000 in
theorem len_any (B cb : Nat) (L : List Ver) (w : World) (h : CH w B cb L) :
    Calls Tryd.prog 47 #[.pointer (some ⟨cb, 0, none⟩)] w fun e w' => e = .returned (.int .i64 (L.length : Int)) ∧ Below w.heap.size w w' := by
  obtain ⟨a, cap, c0, _⟩ := h.parts
  clear h
  go_enter Tryd.func47, Tryd.ntmps47
  go_wp2_with fail
  go_ret
  exact ⟨rfl, Below.refl _ _⟩
set_option maxRecDepth 100000 in
theorem new_any (w : World) :
    Calls Tryd.prog 13 #[] w fun e w' => e = .returned (.pointer (some ⟨w.heap.size, 0, none⟩)) ∧ CH w' w.heap.size w.heap.size [] ∧ Below w.heap.size w w' := by
  have HC : Hid (CH (w.alloc (.cells #[.slice none 0 0, .int .i64 0] 80)) w.heap.size w.heap.size []) := hide ⟨Nat.le_refl _, .slice none 0 0, 0, alloc_newV w _, OR.nil _ _ _ _, (fun e => by cases e), Nat.le_refl _⟩
  have HB := hide ((Below.refl w.heap.size w).alloc (Nat.le_refl _) (.cells #[.slice none 0 0, .int .i64 0] 80))
  go_enter Tryd.func13, Tryd.ntmps13
  go_wp2_with fail
  go_ret
  exact ⟨rfl, HC.out, HB.out⟩
end Go.Proofs.YtechjcmolccdjaaDoor.CT
