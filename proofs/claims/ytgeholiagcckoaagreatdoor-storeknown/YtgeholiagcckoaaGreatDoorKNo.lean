/-
  My own text: KN0, KNo in one.
-/
import Derived.Test.YtgeholiagcckoaaGreatDoorSN13
import Derived.Test.YtgeholiagcckoaaGreatDoorG0
import Derived.Maps.AppendAt
import Derived.Great.BuildSlice
namespace Go.Proofs.YtgeholiagcckoaaGreatDoor
open Go.RowKit Go.Extern Go.MapKept Go.ChangeMaps

def cc : List Cl → List Value
  | [] => []
  | p :: r => .int .i64 p.on :: .int .i64 p.kind :: .int .i64 p.k.1 :: .int .i64 p.k.2 :: .int .i64 p.N :: .string ⟨p.V.toArray⟩ :: cc r
theorem cc_len : ∀ l : List Cl, (cc l).length = l.length * 6
  | [] => rfl
  | p :: r => by simp only [cc, List.length_cons, cc_len r]; omega
theorem cc_app : ∀ a b : List Cl, cc (a ++ b) = cc a ++ cc b
  | [], _ => rfl
  | p :: r, b => by simp only [List.cons_append, cc, cc_app r b]
theorem cc_one : ∀ (l : List Cl), ∀ u ∈ cc l, u.oneCell' = true
  | [], u, h => by cases h
  | p :: r, u, h => by
    simp only [cc, List.mem_cons] at h
    rcases h with rfl | rfl | rfl | rfl | rfl | rfl | h
    · rfl
    · rfl
    · rfl
    · rfl
    · rfl
    · rfl
    · exact cc_one r u h
theorem cc_at : ∀ (L : List Cl) (j : Nat) (p : Cl), L[j]? = some p → (cc L)[j * 6]? = some (.int .i64 p.on) ∧ (cc L)[j * 6 + 1]? = some (.int .i64 p.kind) ∧ (cc L)[j * 6 + 2]? = some (.int .i64 p.k.1) ∧ (cc L)[j * 6 + 3]? = some (.int .i64 p.k.2) ∧ (cc L)[j * 6 + 4]? = some (.int .i64 p.N) ∧ (cc L)[j * 6 + 5]? = some (.string ⟨p.V.toArray⟩)
  | q :: r, 0, p, h => by
    obtain rfl : q = p := Option.some.inj h
    exact ⟨rfl, rfl, rfl, rfl, rfl, rfl⟩
  | q :: r, j + 1, p, h => by
    have := cc_at r j p h
    rw [show (j + 1) * 6 = j * 6 + 1 + 1 + 1 + 1 + 1 + 1 by omega]
    exact this
/-- A row of calls of its own. -/
def OC (w : World) (B : Nat) (v : Value) (ps : List Cl) : Prop := w.ownsRow B 47 6 v ps.length (cc ps)
theorem OC.rcl {w : World} {B : Nat} {v : Value} {ps : List Cl} (h : OC w B v ps) : RCl w v ps := by
  rcases h.2 with ⟨hv, h0⟩ | ⟨g, cap, cur, hv, _⟩
  · refine ⟨none, 0, by rw [hv, h0], fun i p hp => ?_⟩
    have := (List.getElem?_eq_some_iff.1 hp).1
    omega
  · refine ⟨some ⟨g, 0, none⟩, cap, hv, fun i p hp => ⟨g, 0, rfl, ?_⟩⟩
    have hc : ∀ (j : Nat) (u : Value), (cc ps)[j]? = some u → w.cell? ⟨g, 0 + j, none⟩ = some u := fun j u hj => by
      have := World.ownsRow.cells h (g := g) (by rw [hv]; rfl) j u hj
      rw [Addr.add_lit] at this
      exact this
    obtain ⟨e0, e1, e2, e3, e4, e5⟩ := cc_at ps i p hp
    exact ⟨hc _ _ e0, by rw [Nat.add_assoc]; exact hc _ _ e1, by rw [Nat.add_assoc]; exact hc _ _ e2, by rw [Nat.add_assoc]; exact hc _ _ e3, by rw [Nat.add_assoc]; exact hc _ _ e4, by rw [Nat.add_assoc]; exact hc _ _ e5⟩
theorem OC.nil (w : World) (B : Nat) : OC w B (.slice none 0 0) [] := World.ownsRow_nil w B 47 6
theorem OC.slc {w : World} {B : Nat} {v : Value} {ps : List Cl} (h : OC w B v ps) : ∃ a cap, v = .slice a ps.length cap := by
  obtain ⟨a, cap, e, _⟩ := h.rcl
  exact ⟨a, cap, e⟩
/-- Calls that may be asked. -/
def CO (ps : List Cl) : Prop := ∀ p ∈ ps, KOK p.k ∧ IOK p.N ∧ p.N ≤ 9223372036854775807
theorem CO.app {a b : List Cl} (h : CO a) (k : CO b) : CO (a ++ b) := fun p hp => (List.mem_append.1 hp).elim (h p) (k p)
theorem iok_wrap (x : Int) : IOK (wrap64 x) ∧ wrap64 x ≤ 9223372036854775807 := ⟨iok_of (by unfold wrap64; omega) (by unfold wrap64; omega), by unfold wrap64; omega⟩
theorem kok0 : KOK (0, 0) := ⟨by decide, by decide⟩
theorem Tryz.infoCall : (Tryz.prog.info? 47).map (fun i => (i.zero, i.size, i.bytes)) = some (some (.agg #[.int .i64 0, .int .i64 0, .int .i64 0, .int .i64 0, .int .i64 0, .string ⟨#[]⟩]), 6, 56) := by kernel_rfl
theorem cells_new (w : World) (xs : Array Value) (t : TypeId) (ys : List Value) (h : xs.toList = ys) : ∀ j u, ys[j]? = some u → (w.alloc (.cells xs t)).cell? ((⟨w.heap.size, 0, none⟩ : Addr).add j) = some u := fun j u hj => by
  rw [Addr.add_lit, cell_of_row _ _ _ _ _ _ (alloc_newV w _), Nat.zero_add, ← Array.getElem?_toList, h]
  exact hj
theorem oc_more {W' : World} {B : Nat} {v' : Value} {ps cs : List Cl} (hown : W'.ownsRow B 47 6 v' (ps.length + cs.length) (cc ps ++ cc cs)) : OC W' B v' (ps ++ cs) := by
  unfold OC
  rw [List.length_append, cc_app]
  exact hown
theorem grown_row {w W W' : World} {B k n : Nat} {e : TypeId} {v : Value} {xs : List Value} (hB : Below B w W) (hw : B ≤ w.heap.size) (hO : W.ownsRow B e k v n xs) (hg : W.grownBy W' v.ownBlock) : Below B w W' :=
  hB.grown hg (Nat.le_trans hw hB.size) (fun k hk => (hO.lt k hk).1)
end Go.Proofs.YtgeholiagcckoaaGreatDoor
namespace Go.Proofs.YtgeholiagcckoaaGreatDoor
open Go.RowKit

theorem op_calls {o : Oper} {a : Act} {w : World} {K : Act → World → Prop} {Q : Exit → Act → World → Prop} (len : Nat) (parts : Array (Nat × Operand)) (ho : o.op = .buildSlice 48 len parts) (cells : Array Value) (h1 : ¬ len * 6 > 2 ^ 24) (h2 : ¬ len * 6 = 0)
    (hf : Instr.fill (fun i => some (i * 6, 6)) ((Array.range (len * 6)).map ((Value.agg #[.int .i64 0, .int .i64 0, .int .i64 0, .int .i64 0, .int .i64 0, .string ⟨#[]⟩]).cells[· % (Value.agg #[.int .i64 0, .int .i64 0, .int .i64 0, .int .i64 0, .int .i64 0, .string ⟨#[]⟩]).cells.size]!)) (parts.map fun (i, x) => (i, a.eval x)).toList = some cells)
    (h : K (a.put o.dst (.slice (some ⟨w.heap.size, 0, none⟩) len len)) (w.alloc (.cells cells 47))) : o.wp Tryz.prog a w K Q := by
  obtain ⟨i0, hi, hz0, hz1, hz2⟩ := info_parts Tryz.infoCall
  exact wp_buildSlice _ _ len parts ho cells i0 _ Tryz.underlying48 hi hz0 (by rw [hz1]; exact h1) (by rw [hz1]; exact h2) (by rw [hz1]; exact hf) h
theorem fc4 (c0 c1 c2 c3 : Cl) : Instr.fill (fun i => some (i * 6, 6)) ((Array.range (4 * 6)).map ((Value.agg #[.int .i64 0, .int .i64 0, .int .i64 0, .int .i64 0, .int .i64 0, .string ⟨#[]⟩]).cells[· % (Value.agg #[.int .i64 0, .int .i64 0, .int .i64 0, .int .i64 0, .int .i64 0, .string ⟨#[]⟩]).cells.size]!)) [(0, .agg (clc c0)), (1, .agg (clc c1)), (2, .agg (clc c2)), (3, .agg (clc c3))] = some (cc [c0, c1, c2, c3]).toArray := by kernel_rfl
theorem op_calls4 {o : Oper} {a : Act} {w : World} {K : Act → World → Prop} {Q : Exit → Act → World → Prop} (p0 p1 p2 p3 : Operand) (ho : o.op = .buildSlice 48 4 #[(0, p0), (1, p1), (2, p2), (3, p3)]) (c0 c1 c2 c3 : Cl) (e0 : a.eval p0 = .agg (clc c0)) (e1 : a.eval p1 = .agg (clc c1)) (e2 : a.eval p2 = .agg (clc c2)) (e3 : a.eval p3 = .agg (clc c3))
    (h : K (a.put o.dst (.slice (some ⟨w.heap.size, 0, none⟩) 4 4)) (w.alloc (.cells (cc [c0, c1, c2, c3]).toArray 47))) : o.wp Tryz.prog a w K Q := by
  refine op_calls 4 _ ho _ (by decide) (by decide) ?_ h
  simp only [List.map_toArray, List.map_cons, List.map_nil, e0, e1, e2, e3]
  exact fc4 c0 c1 c2 c3
theorem fc16 (c0 c1 c2 c3 c4 c5 c6 c7 c8 c9 c10 c11 c12 c13 c14 c15 : Cl) : Instr.fill (fun i => some (i * 6, 6)) ((Array.range (16 * 6)).map ((Value.agg #[.int .i64 0, .int .i64 0, .int .i64 0, .int .i64 0, .int .i64 0, .string ⟨#[]⟩]).cells[· % (Value.agg #[.int .i64 0, .int .i64 0, .int .i64 0, .int .i64 0, .int .i64 0, .string ⟨#[]⟩]).cells.size]!)) [(0, .agg (clc c0)), (1, .agg (clc c1)), (2, .agg (clc c2)), (3, .agg (clc c3)), (4, .agg (clc c4)), (5, .agg (clc c5)), (6, .agg (clc c6)), (7, .agg (clc c7)), (8, .agg (clc c8)), (9, .agg (clc c9)), (10, .agg (clc c10)), (11, .agg (clc c11)), (12, .agg (clc c12)), (13, .agg (clc c13)), (14, .agg (clc c14)), (15, .agg (clc c15))] = some (cc [c0, c1, c2, c3, c4, c5, c6, c7, c8, c9, c10, c11, c12, c13, c14, c15]).toArray := by kernel_rfl
theorem op_calls16 {o : Oper} {a : Act} {w : World} {K : Act → World → Prop} {Q : Exit → Act → World → Prop} (p0 p1 p2 p3 p4 p5 p6 p7 p8 p9 p10 p11 p12 p13 p14 p15 : Operand) (ho : o.op = .buildSlice 48 16 #[(0, p0), (1, p1), (2, p2), (3, p3), (4, p4), (5, p5), (6, p6), (7, p7), (8, p8), (9, p9), (10, p10), (11, p11), (12, p12), (13, p13), (14, p14), (15, p15)]) (c0 c1 c2 c3 c4 c5 c6 c7 c8 c9 c10 c11 c12 c13 c14 c15 : Cl) (e0 : a.eval p0 = .agg (clc c0)) (e1 : a.eval p1 = .agg (clc c1)) (e2 : a.eval p2 = .agg (clc c2)) (e3 : a.eval p3 = .agg (clc c3)) (e4 : a.eval p4 = .agg (clc c4)) (e5 : a.eval p5 = .agg (clc c5)) (e6 : a.eval p6 = .agg (clc c6)) (e7 : a.eval p7 = .agg (clc c7)) (e8 : a.eval p8 = .agg (clc c8)) (e9 : a.eval p9 = .agg (clc c9)) (e10 : a.eval p10 = .agg (clc c10)) (e11 : a.eval p11 = .agg (clc c11)) (e12 : a.eval p12 = .agg (clc c12)) (e13 : a.eval p13 = .agg (clc c13)) (e14 : a.eval p14 = .agg (clc c14)) (e15 : a.eval p15 = .agg (clc c15))
    (h : K (a.put o.dst (.slice (some ⟨w.heap.size, 0, none⟩) 16 16)) (w.alloc (.cells (cc [c0, c1, c2, c3, c4, c5, c6, c7, c8, c9, c10, c11, c12, c13, c14, c15]).toArray 47))) : o.wp Tryz.prog a w K Q := by
  refine op_calls 16 _ ho _ (by decide) (by decide) ?_ h
  simp only [List.map_toArray, List.map_cons, List.map_nil, e0, e1, e2, e3, e4, e5, e6, e7, e8, e9, e10, e11, e12, e13, e14, e15]
  exact fc16 c0 c1 c2 c3 c4 c5 c6 c7 c8 c9 c10 c11 c12 c13 c14 c15
end Go.Proofs.YtgeholiagcckoaaGreatDoor
