/-
  My own text: the version that counts; At, Last, Len.
-/
import Derived.Test.YtnjjehlfgoggfaaDoorHC3
namespace Go.Proofs.YtnjjehlfgoggfaaDoor
open Go.RowKit

theorem results_cell_tmp {fn : Func} {p q : Tmp} {ty : TypeId} (h : fn.results = #[.cell p ty, .tmp q]) (tmps : Array Value) (P : Program) (w : World) :
    (results fn tmps).run P w = ((asAddr (tmps.getD p undef)).run P w).andThen fun a w₁ => ((loadVar ty a).run P w₁).andThen fun v w₂ => .ok (.tuple #[v, tmps.getD q undef]) w₂ := by
  simp only [results, h]
  simp [Sem.run_bind, Result.andThen]
def vrC (p : Ver) : Array Value := #[.int .i64 p.1, .string ⟨p.2.toArray⟩]
theorem setRowV {w : World} {g : Nat} {c c' : Array Value} (h : w.heap[g]? = some (.cells c 92 (0, 0))) : (w.setRow g c').heap[g]? = some (.cells c' 92 (0, 0)) := setRow_heap w g c c' _ _ h
theorem belowRow {B g : Nat} {w w' : World} {c : Array Value} (h : Below B w w') (hg : B ≤ g) : Below B w (w'.setRow g c) := by
  refine ⟨h.os, h.tape, h.output, by have := h.size; simp [World.setRow]; exact this, fun k hk => ?_⟩
  rw [setRow_other _ _ _ _ (by omega)]
  exact h.block k hk
theorem alloc_newV (w : World) (o : Obj) : (w.alloc o).heap[w.heap.size]? = some o := (MapKept.heap_alloc w o).1
set_option maxRecDepth 100000 in
set_option maxHeartbeats 1000000 in
theorem counts_no (n : Int) (B cb : Nat) (L : List Ver) (w : World) (h : CH w B cb L) (hr : Ris L) (hl : L.length ≤ 4611686018427387904) (h0 : ab n L = 0) :
    Calls Tryd.prog 50 #[.pointer (some ⟨cb, 0, none⟩), .int .i64 n] w fun e w' => e = .returned (.tuple #[.agg #[.int .i64 0, .string ⟨#[]⟩], .bool false]) ∧ Below w.heap.size w w' := by
  have hb := (Below.refl w.heap.size w).alloc (Nat.le_refl _) (.cells #[.int .i64 0, .string ⟨#[]⟩] 92)
  have HA := hide (above_any n B cb L _ (h.later hb) hr hl)
  rw [h0] at HA
  have HB := hide hb
  have K0 := hide (alloc_newV w (.cells #[.int .i64 0, .string ⟨#[]⟩] 92))
  clear h hr hl h0 hb
  go_enter Tryd.func50, Tryd.ntmps50
  go_wp2_with fail
  refine HA.out.mono ?_
  rintro e w2 ⟨rfl, hb2⟩
  have B2 := hide (HB.out.trans (hb2.mono HB.out.size))
  have K2 := hide ((hb2.block w.heap.size (by simp)).trans K0.out)
  clear hb2 K0 HB HA
  go_wp2_with (refine wpList_store_row rfl 92 (.tmp 4) _ rfl w.heap.size #[.int .i64 0, .string ⟨#[]⟩] rfl rfl _ _ K2.out Tryd.sizeVer rfl (by simp [Value.oneCell']) ?_)
  refine bodyPost_ret (v := .tuple #[.agg #[.int .i64 0, .string ⟨#[]⟩], .bool false]) ?_ rfl ⟨rfl, belowRow B2.out (Nat.le_refl _)⟩
  rw [results_cell_tmp rfl]
  simp only [asAddr]
  have hld := run_loadVar_row (P := Tryd.prog) (w2.setRow w.heap.size #[.int .i64 0, .string ⟨#[]⟩]) w.heap.size 92 92 #[.int .i64 0, .string ⟨#[]⟩] (0, 0) _ (setRowV K2.out) Tryd.underlying92 rfl Tryd.sizeVer
  simp [Result.andThen, hld]
set_option maxRecDepth 100000 in
set_option maxHeartbeats 1000000 in
theorem counts_yes (n : Int) (B cb k : Nat) (L : List Ver) (p : Ver) (w : World) (h : CH w B cb L) (hr : Ris L) (hl : L.length ≤ 4611686018427387904) (h0 : ab n L = k + 1) (hp : L[k]? = some p) :
    Calls Tryd.prog 50 #[.pointer (some ⟨cb, 0, none⟩), .int .i64 n] w fun e w' => e = .returned (.tuple #[.agg #[.int .i64 p.1, .string ⟨p.2.toArray⟩], .bool true]) ∧ Below w.heap.size w w' := by
  have hb := (Below.refl w.heap.size w).alloc (Nat.le_refl _) (.cells #[.int .i64 0, .string ⟨#[]⟩] 92)
  have HA := hide (above_any n B cb L _ (h.later hb) hr hl)
  rw [h0] at HA
  have HC := hide (h.later hb)
  have HB := hide hb
  have K0 := hide (alloc_newV w (.cells #[.int .i64 0, .string ⟨#[]⟩] 92))
  have hkl := (List.getElem?_eq_some_iff.1 hp).1
  have HP := hide hp
  clear h hr h0 hp hb
  have d1 : ((((k + 1 : Nat)) : Int) == 0) = false := by rw [beq_eq_false_iff_ne]; omega
  have k0 : (0 : Int) ≤ (k : Int) := by omega
  have k1 : (k : Int) < (L.length : Int) := by omega
  go_enter Tryd.func50, Tryd.ntmps50
  go_wp2_with fail
  refine HA.out.mono ?_
  rintro e w2 ⟨rfl, hb2⟩
  have B2 := hide (HB.out.trans (hb2.mono HB.out.size))
  have K2 := hide ((hb2.block w.heap.size (by simp)).trans K0.out)
  obtain ⟨a, cap, c0, hL⟩ := (HC.out.later hb2).parts
  obtain ⟨g, off, rfl, c1, c2⟩ := hL k p HP.out
  have HR : Hid (w2.rangeAt g (off + k * 2) (vrC p).toList) := hide (fun j u hj => by
    match j, hj with
    | 0, hj => cases hj; exact c1
    | 1, hj => cases hj; exact c2)
  clear hb2 HC hL K0 HB HA
  go_wp2_with (first
    | (refine wpList_load_mid rfl 92 _ rfl g (off + k * 2) rfl (vrC p).toList _ HR.out Tryd.underlying92 rfl Tryd.sizeVer ?_; rw [Array.toArray_toList]; unfold vrC)
    | (refine wpList_store_row rfl 92 (.tmp 4) _ rfl w.heap.size #[.int .i64 p.1, .string ⟨p.2.toArray⟩] rfl rfl _ _ K2.out Tryd.sizeVer rfl (by simp [Value.oneCell']) ?_))
  refine bodyPost_ret (v := .tuple #[.agg #[.int .i64 p.1, .string ⟨p.2.toArray⟩], .bool true]) ?_ rfl ⟨rfl, belowRow B2.out (Nat.le_refl _)⟩
  rw [results_cell_tmp rfl]
  simp only [asAddr]
  have hld := run_loadVar_row (P := Tryd.prog) (w2.setRow w.heap.size #[.int .i64 p.1, .string ⟨p.2.toArray⟩]) w.heap.size 92 92 #[.int .i64 p.1, .string ⟨p.2.toArray⟩] (0, 0) _ (setRowV K2.out) Tryd.underlying92 rfl Tryd.sizeVer
  simp [Result.andThen, hld]
end Go.Proofs.YtnjjehlfgoggfaaDoor
