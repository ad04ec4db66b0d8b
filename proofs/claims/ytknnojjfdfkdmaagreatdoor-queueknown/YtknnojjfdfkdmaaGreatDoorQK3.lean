/-
  My own text: layer 19: QueueKnown: many() (printed by mkqk3.py out of QK3.base).
-/
import Derived.Test.YtknnojjfdfkdmaaGreatDoorQK2
import Derived.Test.YtknnojjfdfkdmaaGreatDoorQRs
import Derived.Test.YtknnojjfdfkdmaaGreatDoorQRs
import Derived.Deep.DeepCutAuto
import Derived.Great.BuildSlice
namespace Go.Proofs.YtknnojjfdfkdmaaGreatDoor
open Go.RowKit Go.Extern Go.MapKept Go.ChangeMaps

/-- The seven keys. -/
def K7 : List Ky := [(0, 0), (1, 0), (0, 1), (2199023255552, 0), (4398046511104, 0), (-1, -9223372036854775808), (9223372036854775807, 0)]
theorem K7.ok : ∀ k ∈ K7, KOK k := by
  intro k hk
  simp only [K7, List.mem_cons, List.not_mem_nil, or_false] at hk
  rcases hk with rfl | rfl | rfl | rfl | rfl | rfl | rfl <;> exact ⟨by decide, by decide⟩
structure MS (w0 w : World) (gk : Nat) (v : Value) (S : List Oq) : Prop where
  go : GO w0.heap.size w v S
  bl : Below w0.heap.size w0 w
  kb : w.heap[gk]? = some (.cells (KY.mc K7).toArray 23 (0, 0))
theorem MS.later {w0 w w' : World} {gk : Nat} {v : Value} {S : List Oq} (h : MS w0 w gk v S) (hb : Below w.heap.size w w') : MS w0 w' gk v S := ⟨h.go.later hb, h.bl.trans (hb.mono h.bl.size), blk_later h.kb hb⟩
theorem kcell {W : World} {gk i : Nat} {x y : Int} (h : W.heap[gk]? = some (.cells (KY.mc K7).toArray 23 (0, 0))) (hk : K7[i]? = some (x, y)) : W.cell? ⟨gk, i * 2, none⟩ = some (.int .i64 x) ∧ W.cell? ⟨gk, i * 2 + 1, none⟩ = some (.int .i64 y) := by
  rw [cell_of_row _ _ _ _ _ _ h, cell_of_row _ _ _ _ _ _ h]
  have := KY.mc_at hk
  simpa using this
theorem idx7 (n : Nat) : ∃ (i : Nat) (x y : Int), (n : Int).tmod 7 = (i : Int) ∧ (0 : Int) ≤ (i : Int) ∧ (i : Int) < 7 ∧ K7[i]? = some (x, y) := by
  have hi : n % 7 < K7.length := Nat.mod_lt _ (by decide)
  exact ⟨n % 7, (K7[n % 7]).1, (K7[n % 7]).2, by rw [Int.tmod_eq_emod_of_nonneg (by omega)]; omega, by omega, by have : n % 7 < 7 := hi; omega, List.getElem?_eq_getElem hi⟩
theorem idx5 (n : Nat) : ∃ (i : Nat) (x y : Int), (n : Int).tmod 5 = (i : Int) ∧ (0 : Int) ≤ (i : Int) ∧ (i : Int) < 7 ∧ K7[i]? = some (x, y) := by
  have hi : n % 5 < K7.length := Nat.lt_of_lt_of_le (Nat.mod_lt _ (by decide)) (by decide)
  exact ⟨n % 5, (K7[n % 5]).1, (K7[n % 5]).2, by rw [Int.tmod_eq_emod_of_nonneg (by omega)]; omega, by omega, by have : n % 5 < 5 := Nat.mod_lt _ (by decide); omega, List.getElem?_eq_getElem hi⟩
theorem kok_at {i : Nat} {x y : Int} (h : K7[i]? = some (x, y)) : KOK (x, y) := K7.ok _ (List.mem_of_getElem? h)
theorem MS.push {w0 w : World} {gk : Nat} {v : Value} {M : List Oq} (h : MS w0 w gk v M) (ty : TypeId) (g c : Nat) (L : List Oq) (A : Array Value) (hg : w.heap[g]? = some (.cells A 26 (0, 0))) (hA : A = (opc L).toArray) (hok : ∀ p ∈ L, KOp w p) (hn : M.length + L.length ≤ 2000) :
    ∃ v' w', (Builtin.append_ #[27, 27] ty #[v, .slice (some ⟨g, 0, none⟩) L.length c]).run Tryz.prog w = .ok v' w' ∧ MS w0 w' gk v' (M ++ L) := by
  obtain ⟨v', w', h1, h2, h3⟩ := run_append_oq w w0.heap.size ty v M h.go.own g c L A hg hA (by omega) h.bl.size
  have hk := KK.grown h.go.own h3
  refine ⟨v', w', h1, ⟨h2, fun p hp => ?_⟩, Below.of_grown h.bl h.go.own h3, hk _ _ h.kb⟩
  rcases List.mem_append.1 hp with hp | hp
  · exact (h.go.ok p hp).mono hk
  · exact (hok p hp).mono hk
theorem wpList_append_oq {w0 w : World} {ops : Array Oper} {rest : List Oper} {o : Oper} {a : Act} {Q : Exit → Act → World → Prop} (hgd : o.guard = none) (s x : Operand)
    (ho : o.op = .call { callee := .builtin .append, args := #[s, x], argTypes := #[27, 27] }) {gk : Nat} (v : Value) (M : List Oq) (hs : a.eval s = v) (hM : MS w0 w gk v M) (g c n : Nat) (L : List Oq) (hx : a.eval x = .slice (some ⟨g, 0, none⟩) n c) (hnL : n = L.length) (A : Array Value) (hg : w.heap[g]? = some (.cells A 26 (0, 0))) (hA : A = (opc L).toArray) (hok : ∀ p ∈ L, KOp w p) (hn : M.length + L.length ≤ 2000)
    (h : ∀ v' w', MS w0 w' gk v' (M ++ L) → wpList Tryz.prog ops Q rest (a.put o.dst v') w') :
    wpList Tryz.prog ops Q (o :: rest) a w := by
  subst hnL
  refine wpList_plain hgd fun K hK => ?_
  obtain ⟨v', w', hr, h2⟩ := hM.push o.type g c L A hg hA hok hn
  unfold Oper.wp execOp
  simp only [ho, resolve, invoke, builtin, Sem.run_bind, Sem.run_pure, Result.andThen_ok, List.map_toArray, List.map_cons, List.map_nil, hs, hx, hr]
  exact hK _ _ (h v' w' h2)
theorem op_append_oq {w0 w : World} {o : Oper} {a : Act} {K : Act → World → Prop} {Q : Exit → Act → World → Prop} (s x : Operand)
    (ho : o.op = .call { callee := .builtin .append, args := #[s, x], argTypes := #[27, 27] }) {gk : Nat} (v : Value) (M : List Oq) (hs : a.eval s = v) (hM : MS w0 w gk v M) (g c n : Nat) (L : List Oq) (hx : a.eval x = .slice (some ⟨g, 0, none⟩) n c) (hnL : n = L.length) (A : Array Value) (hg : w.heap[g]? = some (.cells A 26 (0, 0))) (hA : A = (opc L).toArray) (hok : ∀ p ∈ L, KOp w p) (hn : M.length + L.length ≤ 2000)
    (h : ∀ v' w', MS w0 w' gk v' (M ++ L) → K (a.put o.dst v') w') : o.wp Tryz.prog a w K Q := by
  subst hnL
  obtain ⟨v', w', hr, h2⟩ := hM.push o.type g c L A hg hA hok hn
  exact op_append_gen s x ho v ⟨g, 0, none⟩ L.length c hs hx v' w' hr (h v' w' h2)
section
variable {P : Program} {ops : Array Oper} {Q : Exit → Act → World → Prop} {md : Region.Mode} {S : World → Prop} {zs : List Nat}
/-- Two that may come up. -/
theorem s_two {f : Nat} {ls : Array Bool} {a : Act} {w : World} {oi oj : Oper} (i j : Nat) (lsi lsj : Array Bool) (hi : ops[i]? = some oi) (hj : ops[j]? = some oj) (hr : Region.ready md ops ls = [i, j]) (hli : ls.setIfInBounds i true = lsi) (hlj : ls.setIfInBounds j true = lsj)
    (hwi : Region.wanted oi (yielded ops a.tmps) = true) (hwj : Region.wanted oj (yielded ops a.tmps) = true)
    (h1 : ∀ K' : Act → World → Prop, Shut (∀ a w, (unl zs lsi = true → S w) → anyS P md ops Q S zs f lsi a w → K' a w) → Oper.wp P oi a w K' Q)
    (h2 : ∀ K' : Act → World → Prop, Shut (∀ a w, (unl zs lsj = true → S w) → anyS P md ops Q S zs f lsj a w → K' a w) → Oper.wp P oj a w K' Q) : anyS P md ops Q S zs (f + 1) ls a w := by
  refine ⟨fun h0 => (by rw [hr] at h0; cases h0), fun n hn => ?_⟩
  rw [hr] at hn
  rcases List.mem_cons.1 hn with rfl | hn
  · refine wpOp_step hi (fun K' hK => ?_)
    rw [if_pos hwi]
    rw [hli] at hK
    exact h1 K' (fun a w h1 h2 => hK a w ⟨h1, h2⟩)
  · obtain rfl := List.mem_singleton.1 hn
    refine wpOp_step hj (fun K' hK => ?_)
    rw [if_pos hwj]
    rw [hlj] at hK
    exact h2 K' (fun a w h1 h2 => hK a w ⟨h1, h2⟩)
end
/-- Keys that were laid. -/
theorem keysAt_new {w w' : World} {A : Array Value} {K : List Ky} {g : Nat} (hw : w.alloc (.cells A 23) = w') (hA : A = (KY.mc K).toArray) (hg : w.heap.size = g) : KeysAt w' (some ⟨g, 0, none⟩) K := by
  subst hw hA hg
  refine .inr ⟨w.heap.size, 0, _, rfl, alloc_new w _, fun j k hk => ?_⟩
  have := KY.mc_at hk
  simpa using this
theorem keysAt_sub {w : World} {gk i m : Nat} (h : w.heap[gk]? = some (.cells (KY.mc K7).toArray 23 (0, 0))) : KeysAt w (some ⟨gk, i * 2, none⟩) ((K7.drop i).take m) := by
  refine .inr ⟨gk, i * 2, _, rfl, h, fun j k hk => ?_⟩
  have hk' : K7[i + j]? = some k := by
    rw [List.getElem?_take] at hk
    split at hk
    · rw [List.getElem?_drop] at hk; exact hk
    · cases hk
  have := KY.mc_at hk'
  rw [show (i + j) * 2 = i * 2 + j * 2 by omega] at this
  simpa using this
theorem below_al {w : World} {o : Obj} {w' : World} (hw : w.alloc o = w') : Below w.heap.size w w' := by subst hw; exact (Below.refl _ _).alloc (Nat.le_refl _) o
theorem wr1 (n : Nat) (h : n ≤ 1000000) (m : Nat) (hm : m ≤ 1000000) : IntKind.i64.wrap ((n : Int) + (m : Int)) = ((n + m : Nat) : Int) ∧ wrap64 ((n : Int) + (m : Int)) = ((n + m : Nat) : Int) := by
  exact ⟨by rw [IntKind.wrap_i64]; omega, by unfold wrap64; omega⟩
theorem wrm (n : Nat) (h : n ≤ 1000000) (m : Nat) (hm : m ≤ 100) : IntKind.i64.wrap ((m : Int) * (n : Int)) = ((m * n : Nat) : Int) ∧ IntKind.i64.wrap ((n : Int) * (m : Int)) = ((n * m : Nat) : Int) := by
  have hb : m * n ≤ 100000000 := Nat.le_trans (Nat.mul_le_mul hm h) (by decide)
  have h1 : IntKind.i64.wrap (((m * n : Nat)) : Int) = ((m * n : Nat) : Int) := by rw [IntKind.wrap_i64]; omega
  refine ⟨?_, ?_⟩
  · rw [← Int.natCast_mul]; exact h1
  · rw [← Int.natCast_mul, Nat.mul_comm]; exact h1
theorem iok_sm {n : Nat} (h : n ≤ 1000000) : IOK (n : Int) := WalkArith.wf_i64 ⟨by omega, by omega⟩
theorem op_keys {o : Oper} {a : Act} {w : World} {K : Act → World → Prop} {Q : Exit → Act → World → Prop} (len : Nat) (parts : Array (Nat × Operand)) (ho : o.op = .buildSlice 24 len parts) (cells : Array Value) (h1 : ¬ len * 2 > 2 ^ 24) (h2 : ¬ len * 2 = 0)
    (hf : Instr.fill (fun i => some (i * 2, 2)) ((Array.range (len * 2)).map ((Value.agg #[.int .i64 0, .int .i64 0]).cells[· % (Value.agg #[.int .i64 0, .int .i64 0]).cells.size]!)) (parts.map fun (i, x) => (i, a.eval x)).toList = some cells)
    (h : K (a.put o.dst (.slice (some ⟨w.heap.size, 0, none⟩) len len)) (w.alloc (.cells cells 23))) : o.wp Tryz.prog a w K Q := by
  obtain ⟨i0, hi, hz0, hz1, hz2⟩ := info_parts KY.Tryz.infoMk
  exact wp_buildSlice _ _ len parts ho cells i0 _ Tryz.underlying24 hi hz0 (by rw [hz1]; exact h1) (by rw [hz1]; exact h2) (by rw [hz1]; exact hf) h
theorem op_ops {o : Oper} {a : Act} {w : World} {K : Act → World → Prop} {Q : Exit → Act → World → Prop} (len : Nat) (parts : Array (Nat × Operand)) (ho : o.op = .buildSlice 27 len parts) (cells : Array Value) (h1 : ¬ len * 4 > 2 ^ 24) (h2 : ¬ len * 4 = 0)
    (hf : Instr.fill (fun i => some (i * 4, 4)) ((Array.range (len * 4)).map ((Value.agg #[.int .i64 0, .int .i64 0, .int .i64 0, .slice none 0 0]).cells[· % (Value.agg #[.int .i64 0, .int .i64 0, .int .i64 0, .slice none 0 0]).cells.size]!)) (parts.map fun (i, x) => (i, a.eval x)).toList = some cells)
    (h : K (a.put o.dst (.slice (some ⟨w.heap.size, 0, none⟩) len len)) (w.alloc (.cells cells 26))) : o.wp Tryz.prog a w K Q := by
  obtain ⟨i0, hi, hz0, hz1, hz2⟩ := info_parts Tryz.infoOq
  exact wp_buildSlice _ _ len parts ho cells i0 _ Tryz.underlying27 hi hz0 (by rw [hz1]; exact h1) (by rw [hz1]; exact h2) (by rw [hz1]; exact hf) h
theorem fk1 (x0 y0 : Int) : Instr.fill (fun i => some (i * 2, 2)) ((Array.range (1 * 2)).map ((Value.agg #[.int .i64 0, .int .i64 0]).cells[· % (Value.agg #[.int .i64 0, .int .i64 0]).cells.size]!)) [(0, .agg #[.int .i64 x0, .int .i64 y0])] = some #[.int .i64 x0, .int .i64 y0] := by kernel_rfl
theorem op_keys1 {o : Oper} {a : Act} {w : World} {K : Act → World → Prop} {Q : Exit → Act → World → Prop} (p0 : Operand) (ho : o.op = .buildSlice 24 1 #[(0, p0)]) (x0 y0 : Int) (e0 : a.eval p0 = .agg #[.int .i64 x0, .int .i64 y0])
    (h : K (a.put o.dst (.slice (some ⟨w.heap.size, 0, none⟩) 1 1)) (w.alloc (.cells #[.int .i64 x0, .int .i64 y0] 23))) : o.wp Tryz.prog a w K Q := by
  refine op_keys 1 _ ho _ (by decide) (by decide) ?_ h
  simp only [List.map_toArray, List.map_cons, List.map_nil, e0]
  exact fk1 x0 y0
theorem fk2 (x0 y0 x1 y1 : Int) : Instr.fill (fun i => some (i * 2, 2)) ((Array.range (2 * 2)).map ((Value.agg #[.int .i64 0, .int .i64 0]).cells[· % (Value.agg #[.int .i64 0, .int .i64 0]).cells.size]!)) [(0, .agg #[.int .i64 x0, .int .i64 y0]), (1, .agg #[.int .i64 x1, .int .i64 y1])] = some #[.int .i64 x0, .int .i64 y0, .int .i64 x1, .int .i64 y1] := by kernel_rfl
theorem op_keys2 {o : Oper} {a : Act} {w : World} {K : Act → World → Prop} {Q : Exit → Act → World → Prop} (p0 p1 : Operand) (ho : o.op = .buildSlice 24 2 #[(0, p0), (1, p1)]) (x0 y0 x1 y1 : Int) (e0 : a.eval p0 = .agg #[.int .i64 x0, .int .i64 y0]) (e1 : a.eval p1 = .agg #[.int .i64 x1, .int .i64 y1])
    (h : K (a.put o.dst (.slice (some ⟨w.heap.size, 0, none⟩) 2 2)) (w.alloc (.cells #[.int .i64 x0, .int .i64 y0, .int .i64 x1, .int .i64 y1] 23))) : o.wp Tryz.prog a w K Q := by
  refine op_keys 2 _ ho _ (by decide) (by decide) ?_ h
  simp only [List.map_toArray, List.map_cons, List.map_nil, e0, e1]
  exact fk2 x0 y0 x1 y1
theorem fk4 (x0 y0 x1 y1 x2 y2 x3 y3 : Int) : Instr.fill (fun i => some (i * 2, 2)) ((Array.range (4 * 2)).map ((Value.agg #[.int .i64 0, .int .i64 0]).cells[· % (Value.agg #[.int .i64 0, .int .i64 0]).cells.size]!)) [(0, .agg #[.int .i64 x0, .int .i64 y0]), (1, .agg #[.int .i64 x1, .int .i64 y1]), (2, .agg #[.int .i64 x2, .int .i64 y2]), (3, .agg #[.int .i64 x3, .int .i64 y3])] = some #[.int .i64 x0, .int .i64 y0, .int .i64 x1, .int .i64 y1, .int .i64 x2, .int .i64 y2, .int .i64 x3, .int .i64 y3] := by kernel_rfl
theorem op_keys4 {o : Oper} {a : Act} {w : World} {K : Act → World → Prop} {Q : Exit → Act → World → Prop} (p0 p1 p2 p3 : Operand) (ho : o.op = .buildSlice 24 4 #[(0, p0), (1, p1), (2, p2), (3, p3)]) (x0 y0 x1 y1 x2 y2 x3 y3 : Int) (e0 : a.eval p0 = .agg #[.int .i64 x0, .int .i64 y0]) (e1 : a.eval p1 = .agg #[.int .i64 x1, .int .i64 y1]) (e2 : a.eval p2 = .agg #[.int .i64 x2, .int .i64 y2]) (e3 : a.eval p3 = .agg #[.int .i64 x3, .int .i64 y3])
    (h : K (a.put o.dst (.slice (some ⟨w.heap.size, 0, none⟩) 4 4)) (w.alloc (.cells #[.int .i64 x0, .int .i64 y0, .int .i64 x1, .int .i64 y1, .int .i64 x2, .int .i64 y2, .int .i64 x3, .int .i64 y3] 23))) : o.wp Tryz.prog a w K Q := by
  refine op_keys 4 _ ho _ (by decide) (by decide) ?_ h
  simp only [List.map_toArray, List.map_cons, List.map_nil, e0, e1, e2, e3]
  exact fk4 x0 y0 x1 y1 x2 y2 x3 y3
theorem fk5 (x0 y0 x1 y1 x2 y2 x3 y3 x4 y4 : Int) : Instr.fill (fun i => some (i * 2, 2)) ((Array.range (5 * 2)).map ((Value.agg #[.int .i64 0, .int .i64 0]).cells[· % (Value.agg #[.int .i64 0, .int .i64 0]).cells.size]!)) [(0, .agg #[.int .i64 x0, .int .i64 y0]), (1, .agg #[.int .i64 x1, .int .i64 y1]), (2, .agg #[.int .i64 x2, .int .i64 y2]), (3, .agg #[.int .i64 x3, .int .i64 y3]), (4, .agg #[.int .i64 x4, .int .i64 y4])] = some #[.int .i64 x0, .int .i64 y0, .int .i64 x1, .int .i64 y1, .int .i64 x2, .int .i64 y2, .int .i64 x3, .int .i64 y3, .int .i64 x4, .int .i64 y4] := by kernel_rfl
theorem op_keys5 {o : Oper} {a : Act} {w : World} {K : Act → World → Prop} {Q : Exit → Act → World → Prop} (p0 p1 p2 p3 p4 : Operand) (ho : o.op = .buildSlice 24 5 #[(0, p0), (1, p1), (2, p2), (3, p3), (4, p4)]) (x0 y0 x1 y1 x2 y2 x3 y3 x4 y4 : Int) (e0 : a.eval p0 = .agg #[.int .i64 x0, .int .i64 y0]) (e1 : a.eval p1 = .agg #[.int .i64 x1, .int .i64 y1]) (e2 : a.eval p2 = .agg #[.int .i64 x2, .int .i64 y2]) (e3 : a.eval p3 = .agg #[.int .i64 x3, .int .i64 y3]) (e4 : a.eval p4 = .agg #[.int .i64 x4, .int .i64 y4])
    (h : K (a.put o.dst (.slice (some ⟨w.heap.size, 0, none⟩) 5 5)) (w.alloc (.cells #[.int .i64 x0, .int .i64 y0, .int .i64 x1, .int .i64 y1, .int .i64 x2, .int .i64 y2, .int .i64 x3, .int .i64 y3, .int .i64 x4, .int .i64 y4] 23))) : o.wp Tryz.prog a w K Q := by
  refine op_keys 5 _ ho _ (by decide) (by decide) ?_ h
  simp only [List.map_toArray, List.map_cons, List.map_nil, e0, e1, e2, e3, e4]
  exact fk5 x0 y0 x1 y1 x2 y2 x3 y3 x4 y4
theorem fo1 (a0 b0 c0 : Int) (v0 : Value) : Instr.fill (fun i => some (i * 4, 4)) ((Array.range (1 * 4)).map ((Value.agg #[.int .i64 0, .int .i64 0, .int .i64 0, .slice none 0 0]).cells[· % (Value.agg #[.int .i64 0, .int .i64 0, .int .i64 0, .slice none 0 0]).cells.size]!)) [(0, .agg #[.int .i64 a0, .int .i64 b0, .int .i64 c0, v0])] = some #[.int .i64 a0, .int .i64 b0, .int .i64 c0, v0] := by kernel_rfl
theorem op_ops1 {o : Oper} {a : Act} {w : World} {K : Act → World → Prop} {Q : Exit → Act → World → Prop} (p0 : Operand) (ho : o.op = .buildSlice 27 1 #[(0, p0)]) (a0 b0 c0 : Int) (v0 : Value) (e0 : a.eval p0 = .agg #[.int .i64 a0, .int .i64 b0, .int .i64 c0, v0])
    (h : K (a.put o.dst (.slice (some ⟨w.heap.size, 0, none⟩) 1 1)) (w.alloc (.cells #[.int .i64 a0, .int .i64 b0, .int .i64 c0, v0] 26))) : o.wp Tryz.prog a w K Q := by
  refine op_ops 1 _ ho _ (by decide) (by decide) ?_ h
  simp only [List.map_toArray, List.map_cons, List.map_nil, e0]
  exact fo1 a0 b0 c0 v0
theorem fo2 (a0 b0 c0 a1 b1 c1 : Int) (v0 v1 : Value) : Instr.fill (fun i => some (i * 4, 4)) ((Array.range (2 * 4)).map ((Value.agg #[.int .i64 0, .int .i64 0, .int .i64 0, .slice none 0 0]).cells[· % (Value.agg #[.int .i64 0, .int .i64 0, .int .i64 0, .slice none 0 0]).cells.size]!)) [(0, .agg #[.int .i64 a0, .int .i64 b0, .int .i64 c0, v0]), (1, .agg #[.int .i64 a1, .int .i64 b1, .int .i64 c1, v1])] = some #[.int .i64 a0, .int .i64 b0, .int .i64 c0, v0, .int .i64 a1, .int .i64 b1, .int .i64 c1, v1] := by kernel_rfl
theorem op_ops2 {o : Oper} {a : Act} {w : World} {K : Act → World → Prop} {Q : Exit → Act → World → Prop} (p0 p1 : Operand) (ho : o.op = .buildSlice 27 2 #[(0, p0), (1, p1)]) (a0 b0 c0 a1 b1 c1 : Int) (v0 v1 : Value) (e0 : a.eval p0 = .agg #[.int .i64 a0, .int .i64 b0, .int .i64 c0, v0]) (e1 : a.eval p1 = .agg #[.int .i64 a1, .int .i64 b1, .int .i64 c1, v1])
    (h : K (a.put o.dst (.slice (some ⟨w.heap.size, 0, none⟩) 2 2)) (w.alloc (.cells #[.int .i64 a0, .int .i64 b0, .int .i64 c0, v0, .int .i64 a1, .int .i64 b1, .int .i64 c1, v1] 26))) : o.wp Tryz.prog a w K Q := by
  refine op_ops 2 _ ho _ (by decide) (by decide) ?_ h
  simp only [List.map_toArray, List.map_cons, List.map_nil, e0, e1]
  exact fo2 a0 b0 c0 a1 b1 c1 v0 v1
theorem fo3 (a0 b0 c0 a1 b1 c1 a2 b2 c2 : Int) (v0 v1 v2 : Value) : Instr.fill (fun i => some (i * 4, 4)) ((Array.range (3 * 4)).map ((Value.agg #[.int .i64 0, .int .i64 0, .int .i64 0, .slice none 0 0]).cells[· % (Value.agg #[.int .i64 0, .int .i64 0, .int .i64 0, .slice none 0 0]).cells.size]!)) [(0, .agg #[.int .i64 a0, .int .i64 b0, .int .i64 c0, v0]), (1, .agg #[.int .i64 a1, .int .i64 b1, .int .i64 c1, v1]), (2, .agg #[.int .i64 a2, .int .i64 b2, .int .i64 c2, v2])] = some #[.int .i64 a0, .int .i64 b0, .int .i64 c0, v0, .int .i64 a1, .int .i64 b1, .int .i64 c1, v1, .int .i64 a2, .int .i64 b2, .int .i64 c2, v2] := by kernel_rfl
theorem op_ops3 {o : Oper} {a : Act} {w : World} {K : Act → World → Prop} {Q : Exit → Act → World → Prop} (p0 p1 p2 : Operand) (ho : o.op = .buildSlice 27 3 #[(0, p0), (1, p1), (2, p2)]) (a0 b0 c0 a1 b1 c1 a2 b2 c2 : Int) (v0 v1 v2 : Value) (e0 : a.eval p0 = .agg #[.int .i64 a0, .int .i64 b0, .int .i64 c0, v0]) (e1 : a.eval p1 = .agg #[.int .i64 a1, .int .i64 b1, .int .i64 c1, v1]) (e2 : a.eval p2 = .agg #[.int .i64 a2, .int .i64 b2, .int .i64 c2, v2])
    (h : K (a.put o.dst (.slice (some ⟨w.heap.size, 0, none⟩) 3 3)) (w.alloc (.cells #[.int .i64 a0, .int .i64 b0, .int .i64 c0, v0, .int .i64 a1, .int .i64 b1, .int .i64 c1, v1, .int .i64 a2, .int .i64 b2, .int .i64 c2, v2] 26))) : o.wp Tryz.prog a w K Q := by
  refine op_ops 3 _ ho _ (by decide) (by decide) ?_ h
  simp only [List.map_toArray, List.map_cons, List.map_nil, e0, e1, e2]
  exact fo3 a0 b0 c0 a1 b1 c1 a2 b2 c2 v0 v1 v2
theorem fo8 (a0 b0 c0 a1 b1 c1 a2 b2 c2 a3 b3 c3 a4 b4 c4 a5 b5 c5 a6 b6 c6 a7 b7 c7 : Int) (v0 v1 v2 v3 v4 v5 v6 v7 : Value) : Instr.fill (fun i => some (i * 4, 4)) ((Array.range (8 * 4)).map ((Value.agg #[.int .i64 0, .int .i64 0, .int .i64 0, .slice none 0 0]).cells[· % (Value.agg #[.int .i64 0, .int .i64 0, .int .i64 0, .slice none 0 0]).cells.size]!)) [(0, .agg #[.int .i64 a0, .int .i64 b0, .int .i64 c0, v0]), (1, .agg #[.int .i64 a1, .int .i64 b1, .int .i64 c1, v1]), (2, .agg #[.int .i64 a2, .int .i64 b2, .int .i64 c2, v2]), (3, .agg #[.int .i64 a3, .int .i64 b3, .int .i64 c3, v3]), (4, .agg #[.int .i64 a4, .int .i64 b4, .int .i64 c4, v4]), (5, .agg #[.int .i64 a5, .int .i64 b5, .int .i64 c5, v5]), (6, .agg #[.int .i64 a6, .int .i64 b6, .int .i64 c6, v6]), (7, .agg #[.int .i64 a7, .int .i64 b7, .int .i64 c7, v7])] = some #[.int .i64 a0, .int .i64 b0, .int .i64 c0, v0, .int .i64 a1, .int .i64 b1, .int .i64 c1, v1, .int .i64 a2, .int .i64 b2, .int .i64 c2, v2, .int .i64 a3, .int .i64 b3, .int .i64 c3, v3, .int .i64 a4, .int .i64 b4, .int .i64 c4, v4, .int .i64 a5, .int .i64 b5, .int .i64 c5, v5, .int .i64 a6, .int .i64 b6, .int .i64 c6, v6, .int .i64 a7, .int .i64 b7, .int .i64 c7, v7] := by kernel_rfl
theorem op_ops8 {o : Oper} {a : Act} {w : World} {K : Act → World → Prop} {Q : Exit → Act → World → Prop} (p0 p1 p2 p3 p4 p5 p6 p7 : Operand) (ho : o.op = .buildSlice 27 8 #[(0, p0), (1, p1), (2, p2), (3, p3), (4, p4), (5, p5), (6, p6), (7, p7)]) (a0 b0 c0 a1 b1 c1 a2 b2 c2 a3 b3 c3 a4 b4 c4 a5 b5 c5 a6 b6 c6 a7 b7 c7 : Int) (v0 v1 v2 v3 v4 v5 v6 v7 : Value) (e0 : a.eval p0 = .agg #[.int .i64 a0, .int .i64 b0, .int .i64 c0, v0]) (e1 : a.eval p1 = .agg #[.int .i64 a1, .int .i64 b1, .int .i64 c1, v1]) (e2 : a.eval p2 = .agg #[.int .i64 a2, .int .i64 b2, .int .i64 c2, v2]) (e3 : a.eval p3 = .agg #[.int .i64 a3, .int .i64 b3, .int .i64 c3, v3]) (e4 : a.eval p4 = .agg #[.int .i64 a4, .int .i64 b4, .int .i64 c4, v4]) (e5 : a.eval p5 = .agg #[.int .i64 a5, .int .i64 b5, .int .i64 c5, v5]) (e6 : a.eval p6 = .agg #[.int .i64 a6, .int .i64 b6, .int .i64 c6, v6]) (e7 : a.eval p7 = .agg #[.int .i64 a7, .int .i64 b7, .int .i64 c7, v7])
    (h : K (a.put o.dst (.slice (some ⟨w.heap.size, 0, none⟩) 8 8)) (w.alloc (.cells #[.int .i64 a0, .int .i64 b0, .int .i64 c0, v0, .int .i64 a1, .int .i64 b1, .int .i64 c1, v1, .int .i64 a2, .int .i64 b2, .int .i64 c2, v2, .int .i64 a3, .int .i64 b3, .int .i64 c3, v3, .int .i64 a4, .int .i64 b4, .int .i64 c4, v4, .int .i64 a5, .int .i64 b5, .int .i64 c5, v5, .int .i64 a6, .int .i64 b6, .int .i64 c6, v6, .int .i64 a7, .int .i64 b7, .int .i64 c7, v7] 26))) : o.wp Tryz.prog a w K Q := by
  refine op_ops 8 _ ho _ (by decide) (by decide) ?_ h
  simp only [List.map_toArray, List.map_cons, List.map_nil, e0, e1, e2, e3, e4, e5, e6, e7]
  exact fo8 a0 b0 c0 a1 b1 c1 a2 b2 c2 a3 b3 c3 a4 b4 c4 a5 b5 c5 a6 b6 c6 a7 b7 c7 v0 v1 v2 v3 v4 v5 v6 v7
theorem KOp.plain {w : World} {a b c : Int} (h : IOK c) : KOp w ⟨a, b, c, [], none, 0⟩ := ⟨.inl rfl, Nat.le_refl _, Nat.zero_le _, fun k hk => (by cases hk), h⟩
theorem iok0 : IOK 0 := by unfold IOK; decide
theorem KOp.one {w : World} {a b c x y : Int} {ad : Option Addr} {cap : Nat} (h : KeysAt w ad [(x, y)]) (hc : 1 ≤ cap) (hk : KOK (x, y)) (hi : IOK c) : KOp w ⟨a, b, c, [(x, y)], ad, cap⟩ := ⟨h, hc, show 1 ≤ 10 by decide, fun k hk' => by rw [List.mem_singleton.1 hk']; exact hk, hi⟩
theorem KOp.two {w : World} {a b c x y x' y' : Int} {ad : Option Addr} {cap : Nat} (h : KeysAt w ad [(x, y), (x', y')]) (hc : 2 ≤ cap) (hk : KOK (x, y)) (hk2 : KOK (x', y')) (hi : IOK c) : KOp w ⟨a, b, c, [(x, y), (x', y')], ad, cap⟩ := ⟨h, hc, show 2 ≤ 10 by decide, fun k hk' => by
  simp only [List.mem_cons, List.not_mem_nil, or_false] at hk'
  rcases hk' with rfl | rfl
  · exact hk
  · exact hk2, hi⟩
theorem KOp.sub {w : World} {a b c : Int} {gk i m cap : Nat} (h : w.heap[gk]? = some (.cells (KY.mc K7).toArray 23 (0, 0))) (hc : ((K7.drop i).take m).length ≤ cap) (hi : IOK c) : KOp w ⟨a, b, c, (K7.drop i).take m, some ⟨gk, i * 2, none⟩, cap⟩ :=
  ⟨keysAt_sub h, hc, Nat.le_trans (by rw [List.length_take, List.length_drop]; omega) (show K7.length ≤ 10 by decide), fun k hk => K7.ok k (List.mem_of_mem_drop (List.mem_of_mem_take hk)), hi⟩
theorem al_size (w : World) (o : Obj) : (w.alloc o).heap.size = w.heap.size + 1 := by simp
theorem h64 (n : Nat) : n % 6 = 0 → n % 4 = 0 ∨ n % 4 = 2 := by omega
theorem le_mil {n m : Nat} (h : n < m) (hm : m ≤ 1000000) : n ≤ 1000000 := by omega
theorem wmul7 {n : Nat} (h : n < 60) : wrap64 ((n : Int) * 7) = ((n * 7 : Nat) : Int) := by unfold wrap64; omega
theorem len_ok {a d c m n N : Nat} (h : a ≤ c + m * n) (hn : n ≤ N) (hd : c + m * N + d ≤ 2000) : a + d ≤ 2000 := Nat.le_trans (Nat.add_le_add_right (Nat.le_trans h (Nat.add_le_add_left (Nat.mul_le_mul_left m hn) c)) d) hd
theorem len_up {a d c c' x : Nat} (h : a ≤ c + x) (hc : c + d = c') : a + d ≤ c' + x := by omega
theorem rem3 (n : Nat) : ∃ r : Nat, (n : Int).tmod 3 = (r : Int) ∧ (n : Int) % 3 = (r : Int) ∧ r = n % 3 ∧ r < 3 :=
  ⟨n % 3, by rw [Int.tmod_eq_emod_of_nonneg (by omega)]; omega, by omega, rfl, Nat.mod_lt _ (by decide)⟩
theorem rem4 (n : Nat) : ∃ r : Nat, (n : Int).tmod 4 = (r : Int) ∧ (n : Int) % 4 = (r : Int) ∧ r = n % 4 ∧ r < 4 :=
  ⟨n % 4, by rw [Int.tmod_eq_emod_of_nonneg (by omega)]; omega, by omega, rfl, Nat.mod_lt _ (by decide)⟩
theorem rem6 (n : Nat) : ∃ r : Nat, (n : Int).tmod 6 = (r : Int) ∧ (n : Int) % 6 = (r : Int) ∧ r = n % 6 ∧ r < 6 :=
  ⟨n % 6, by rw [Int.tmod_eq_emod_of_nonneg (by omega)]; omega, by omega, rfl, Nat.mod_lt _ (by decide)⟩
theorem rem20 (n : Nat) : ∃ r : Nat, (n : Int).tmod 20 = (r : Int) ∧ (n : Int) % 20 = (r : Int) ∧ r = n % 20 ∧ r < 20 :=
  ⟨n % 20, by rw [Int.tmod_eq_emod_of_nonneg (by omega)]; omega, by omega, rfl, Nat.mod_lt _ (by decide)⟩
theorem len_up2 {a n k : Nat} (h : a ≤ 2 + 16 * n + 2 * k) : a + 2 ≤ 2 + 16 * n + 2 * (k + 1) := by omega
theorem h63 (n : Nat) : n % 6 = 0 → n % 3 = 0 := by omega
theorem r4_ok {r : Nat} (h : r < 4) : (r : Int) ≤ 7 ∧ ¬ 7 = r := by omega
theorem meas_upK {k n : Nat} (h : k < n) : n - (intOf (.int .i64 ((k + 1 : Nat) : Int))).toNat < n - (intOf (.int .i64 (k : Int))).toNat := by
  show n - ((k + 1 : Nat) : Int).toNat < n - (k : Int).toNat
  omega
set_option maxRecDepth 100000 in
set_option maxHeartbeats 40000000 in
theorem many_any (w : World) (hS : Hid (∀ (W : World) (m0 m1 : Int) (v : Value) (S : List Oq), Below w.heap.size w W → RO W v S → S.length ≤ 2000 → Calls Tryz.prog 4 #[.agg #[.int .i64 m0, .int .i64 m1], v] W fun e w' => e = .returned (.bool true) ∧ Below W.heap.size W w')) :
    Calls Tryz.prog 5 #[] w fun e w' => e = .returned (.bool true) ∧ Below w.heap.size w w' := by
  obtain ⟨gk, hgk⟩ : ∃ gk, w.heap.size = gk := ⟨_, rfl⟩
  obtain ⟨W0, hW0⟩ : ∃ x, w.alloc (.cells #[.int .i64 0, .int .i64 0, .int .i64 1, .int .i64 0, .int .i64 0, .int .i64 1, .int .i64 2199023255552, .int .i64 0, .int .i64 4398046511104, .int .i64 0, .int .i64 (-1), .int .i64 (-9223372036854775808), .int .i64 9223372036854775807, .int .i64 0] 23) = x := ⟨_, rfl⟩
  have HM0 : Hid (MS w W0 gk (.slice none 0 0) []) := hide ⟨GO.nil _ _, by rw [← hW0]; exact (Below.refl _ _).alloc (Nat.le_refl _) _, by rw [← hW0, ← hgk]; exact alloc_new w _⟩
  go_enter Tryz.func5, Tryz.ntmps5
  go_wp2_with fail
  clear hgk hW0
  go_loopw [2, 3] (fun l i wr => ∃ (k : Nat) (S : List Oq), k ≤ 20 ∧ i = .int .i64 (k : Int) ∧ Hid (MS w wr gk l S ∧ S.length = k)) (fun _ i _ => 20 - (intOf i).toNat)
  case atStart => exact ⟨0, [], by omega, rfl, hide ⟨HM0.out, rfl⟩⟩
  case round =>
    clear HM0
    obtain ⟨k, S, hk, rfl, HP⟩ := hrel
    by_cases hlt : k < 20
    · skip
      have hd : decide ((k : Int) < 20) = true := by rw [decide_eq_true_eq]; omega
      obtain ⟨i1, x1, y1, q1, ia1, ib1, hK1⟩ := idx7 k
      obtain ⟨n2, hn2⟩ : ∃ n2 : Nat, n2 = k + 1 := ⟨_, rfl⟩
      have wn2 : IntKind.i64.wrap ((k : Int) + 1) = (n2 : Int) := by rw [hn2]; exact (wr1 k (by omega) 1 (by first | decide | omega)).1
      obtain ⟨i2, x2, y2, q2, ia2, ib2, hK2⟩ := idx7 n2
      obtain ⟨m3, hm3⟩ : ∃ m3 : Nat, m3 = 3 * k := ⟨_, rfl⟩
      have wm3 : IntKind.i64.wrap (3 * (k : Int)) = (m3 : Int) := by rw [hm3]; exact (wrm k (by omega) 3 (by decide)).1
      obtain ⟨n3, hn3⟩ : ∃ n3 : Nat, n3 = m3 + 2 := ⟨_, rfl⟩
      have wn3 : IntKind.i64.wrap ((m3 : Int) + 2) = (n3 : Int) := by rw [hn3]; exact (wr1 m3 (by omega) 2 (by first | decide | omega)).1
      obtain ⟨i3, x3, y3, q3, ia3, ib3, hK3⟩ := idx7 n3
      obtain ⟨m4, hm4⟩ : ∃ m4 : Nat, m4 = 5 * k := ⟨_, rfl⟩
      have wm4 : IntKind.i64.wrap (5 * (k : Int)) = (m4 : Int) := by rw [hm4]; exact (wrm k (by omega) 5 (by decide)).1
      obtain ⟨n4, hn4⟩ : ∃ n4 : Nat, n4 = m4 + 4 := ⟨_, rfl⟩
      have wn4 : IntKind.i64.wrap ((m4 : Int) + 4) = (n4 : Int) := by rw [hn4]; exact (wr1 m4 (by omega) 4 (by first | decide | omega)).1
      obtain ⟨i4, x4, y4, q4, ia4, ib4, hK4⟩ := idx7 n4

      have B0 : Hid (Below wr.heap.size wr wr.drew) := hide (Below.refl _ _).drew
      have B1 : Hid (Below wr.drew.heap.size wr.drew (wr.drew.alloc (.cells #[.int .i64 x1, .int .i64 y1, .int .i64 x2, .int .i64 y2, .int .i64 x3, .int .i64 y3, .int .i64 x4, .int .i64 y4] 23))) := hide (below_al rfl)
      have HKA : Hid (KeysAt (wr.drew.alloc (.cells #[.int .i64 x1, .int .i64 y1, .int .i64 x2, .int .i64 y2, .int .i64 x3, .int .i64 y3, .int .i64 x4, .int .i64 y4] 23)) (some ⟨wr.heap.size, 0, none⟩) [(x1, y1), (x2, y2), (x3, y3), (x4, y4)]) := hide (keysAt_new rfl rfl rfl)
      have B2 : Hid (Below (wr.drew.alloc (.cells #[.int .i64 x1, .int .i64 y1, .int .i64 x2, .int .i64 y2, .int .i64 x3, .int .i64 y3, .int .i64 x4, .int .i64 y4] 23)).heap.size (wr.drew.alloc (.cells #[.int .i64 x1, .int .i64 y1, .int .i64 x2, .int .i64 y2, .int .i64 x3, .int .i64 y3, .int .i64 x4, .int .i64 y4] 23)) ((wr.drew.alloc (.cells #[.int .i64 x1, .int .i64 y1, .int .i64 x2, .int .i64 y2, .int .i64 x3, .int .i64 y3, .int .i64 x4, .int .i64 y4] 23)).alloc (.cells #[.int .i64 0, .int .i64 0, .int .i64 (k : Int), .slice (some ⟨wr.heap.size, 0, none⟩) 4 4] 26))) := hide (below_al rfl)
      have HG2 : Hid (((wr.drew.alloc (.cells #[.int .i64 x1, .int .i64 y1, .int .i64 x2, .int .i64 y2, .int .i64 x3, .int .i64 y3, .int .i64 x4, .int .i64 y4] 23)).alloc (.cells #[.int .i64 0, .int .i64 0, .int .i64 (k : Int), .slice (some ⟨wr.heap.size, 0, none⟩) 4 4] 26)).heap[(wr.drew.alloc (.cells #[.int .i64 x1, .int .i64 y1, .int .i64 x2, .int .i64 y2, .int .i64 x3, .int .i64 y3, .int .i64 x4, .int .i64 y4] 23)).heap.size]? = some (.cells #[.int .i64 0, .int .i64 0, .int .i64 (k : Int), .slice (some ⟨wr.heap.size, 0, none⟩) 4 4] 26 (0, 0))) := hide (alloc_new (wr.drew.alloc (.cells #[.int .i64 x1, .int .i64 y1, .int .i64 x2, .int .i64 y2, .int .i64 x3, .int .i64 y3, .int .i64 x4, .int .i64 y4] 23)) _)
      have HM2 : Hid (MS w ((wr.drew.alloc (.cells #[.int .i64 x1, .int .i64 y1, .int .i64 x2, .int .i64 y2, .int .i64 x3, .int .i64 y3, .int .i64 x4, .int .i64 y4] 23)).alloc (.cells #[.int .i64 0, .int .i64 0, .int .i64 (k : Int), .slice (some ⟨wr.heap.size, 0, none⟩) 4 4] 26)) gk u2 S) := hide (((HP.out.1.later B0.out).later B1.out).later B2.out)
      have HOK : Hid (∀ p ∈ [(⟨0, 0, (k : Int), [(x1, y1), (x2, y2), (x3, y3), (x4, y4)], some ⟨wr.heap.size, 0, none⟩, 4⟩ : Oq)], KOp ((wr.drew.alloc (.cells #[.int .i64 x1, .int .i64 y1, .int .i64 x2, .int .i64 y2, .int .i64 x3, .int .i64 y3, .int .i64 x4, .int .i64 y4] 23)).alloc (.cells #[.int .i64 0, .int .i64 0, .int .i64 (k : Int), .slice (some ⟨wr.heap.size, 0, none⟩) 4 4] 26)) p) := hide (fun p hp => by
        rw [List.mem_singleton.1 hp]
        refine ⟨HKA.out.mono (KK.below B2.out), Nat.le_refl 4, show 4 ≤ 10 by decide, fun q hq => ?_, ?_⟩
        · simp only [List.mem_cons, List.not_mem_nil, or_false] at hq
          rcases hq with rfl | rfl | rfl | rfl
          · exact kok_at hK1
          · exact kok_at hK2
          · exact kok_at hK3
          · exact kok_at hK4
        · exact iok_sm (by omega))
      have HN : Hid (S.length + 1 ≤ 2000) := hide (by have := HP.out.2; omega)
      have hHeld : Hid (wr.drew.heap[gk]? = some (.cells (KY.mc K7).toArray 23 (0, 0))) := hide (blk_later HP.out.1.kb B0.out)
      have HL2 : Hid (S.length = k) := hide HP.out.2
      have HLT := hide hlt
      have wk : wrap64 ((k : Int) + 1) = ((k + 1 : Nat) : Int) := (wr1 k (by omega) 1 (by decide)).2
      clear hn2 hm3 hn3 hm4 hn4 HP
      as_aux_lemma =>
        go_upto_region 6 with fail
        refine s_begins (S := fun W => W.heap[gk]? = some (.cells (KY.mc K7).toArray 23 (0, 0))) [] 32 #[false, false, false, false, false, false, false, false, false, false, false, false, false, false, false, false, false, false, false, false, false, false, false, false, false, false, false, false, false, false, false, false] (by kernel_rfl) (by kernel_rfl) (by kernel_rfl) ?_
        refine sk0 (v := ?_) 0 22 #[true, false, false, false, false, false, false, false, false, false, false, false, false, false, false, false, false, false, false, false, false, false, false, false, false, false, false, false, false, false, false, false] rfl rfl (by kernel_rfl) (by kernel_rfl) (by kernel_rfl) (by kernel_rfl) (fun _ _ _ h => h) (by kernel_rfl) (by rfl) ?hy (fun _ => hHeld.out) ?_
        case hy => intro W; first | (go_simp; done) | (go_simp; with_reducible rfl)
        simp only [List.setIfInBounds_toArray, List.set_cons_zero, List.set_cons_succ]
        refine sk0 (v := ?_) 1 23 #[true, true, false, false, false, false, false, false, false, false, false, false, false, false, false, false, false, false, false, false, false, false, false, false, false, false, false, false, false, false, false, false] rfl rfl (by kernel_rfl) (by kernel_rfl) (by kernel_rfl) (by kernel_rfl) (fun _ _ _ h => h) (by kernel_rfl) (by rfl) ?hy (fun _ => hHeld.out) ?_
        case hy => intro W; first | (go_simp; done) | (go_simp; with_reducible rfl)
        simp only [List.setIfInBounds_toArray, List.set_cons_zero, List.set_cons_succ]
        refine sk0 (v := ?_) 2 24 #[true, true, true, false, false, false, false, false, false, false, false, false, false, false, false, false, false, false, false, false, false, false, false, false, false, false, false, false, false, false, false, false] rfl rfl (by kernel_rfl) (by kernel_rfl) (by kernel_rfl) (by kernel_rfl) (fun _ _ _ h => h) (by kernel_rfl) (by rfl) ?hy (fun _ => hHeld.out) ?_
        case hy => intro W; first | (go_simp; done) | (go_simp; with_reducible rfl)
        simp only [List.setIfInBounds_toArray, List.set_cons_zero, List.set_cons_succ]
        refine sk0 (v := ?_) 3 25 #[true, true, true, true, false, false, false, false, false, false, false, false, false, false, false, false, false, false, false, false, false, false, false, false, false, false, false, false, false, false, false, false] rfl rfl (by kernel_rfl) (by kernel_rfl) (by kernel_rfl) (by kernel_rfl) (fun _ _ _ h => h) (by kernel_rfl) (by rfl) ?hy (fun _ => hHeld.out) ?_
        case hy => intro W; first | (go_simp; done) | (go_simp; with_reducible rfl)
        simp only [List.setIfInBounds_toArray, List.set_cons_zero, List.set_cons_succ]
        refine sk0 (v := ?_) 4 26 #[true, true, true, true, true, false, false, false, false, false, false, false, false, false, false, false, false, false, false, false, false, false, false, false, false, false, false, false, false, false, false, false] rfl rfl (by kernel_rfl) (by kernel_rfl) (by kernel_rfl) (by kernel_rfl) (fun _ _ _ h => h) (by kernel_rfl) (by rfl) ?hy (fun _ => hHeld.out) ?_
        case hy => intro W; first | (go_simp; done) | (go_simp; with_reducible rfl)
        simp only [List.setIfInBounds_toArray, List.set_cons_zero, List.set_cons_succ]
        refine sk0 (v := ?_) 5 27 #[true, true, true, true, true, true, false, false, false, false, false, false, false, false, false, false, false, false, false, false, false, false, false, false, false, false, false, false, false, false, false, false] rfl rfl (by kernel_rfl) (by kernel_rfl) (by kernel_rfl) (by kernel_rfl) (fun _ _ _ h => h) (by kernel_rfl) (by rfl) ?hy (fun _ => hHeld.out) ?_
        case hy => intro W; first | (go_simp; done) | (go_simp; with_reducible rfl)
        simp only [List.setIfInBounds_toArray, List.set_cons_zero, List.set_cons_succ]
        refine sk1 (v := ?_) 6 28 #[true, true, true, true, true, true, true, false, false, false, false, false, false, false, false, false, false, false, false, false, false, false, false, false, false, false, false, false, false, false, false, false] rfl rfl (by kernel_rfl) (by kernel_rfl) (by kernel_rfl) (by kernel_rfl) (by kernel_rfl) (by kernel_rfl) (fun _ _ _ h => h) (by kernel_rfl) (by rfl) ?hy hHeld.out ?_
        case hy => rintro W e0; obtain ⟨c0, c1⟩ := kcell e0 hK1; first | (go_simp; done) | (go_simp; with_reducible rfl)
        simp only [List.setIfInBounds_toArray, List.set_cons_zero, List.set_cons_succ]
        refine sk0 (v := ?_) 7 29 #[true, true, true, true, true, true, true, true, false, false, false, false, false, false, false, false, false, false, false, false, false, false, false, false, false, false, false, false, false, false, false, false] rfl rfl (by kernel_rfl) (by kernel_rfl) (by kernel_rfl) (by kernel_rfl) (fun _ _ _ h => h) (by kernel_rfl) (by rfl) ?hy (fun _ => hHeld.out) ?_
        case hy => intro W; first | (go_simp; done) | (go_simp; with_reducible rfl)
        simp only [List.setIfInBounds_toArray, List.set_cons_zero, List.set_cons_succ]
        refine sk0 (v := ?_) 8 30 #[true, true, true, true, true, true, true, true, true, false, false, false, false, false, false, false, false, false, false, false, false, false, false, false, false, false, false, false, false, false, false, false] rfl rfl (by kernel_rfl) (by kernel_rfl) (by kernel_rfl) (by kernel_rfl) (fun _ _ _ h => h) (by kernel_rfl) (by rfl) ?hy (fun _ => hHeld.out) ?_
        case hy => intro W; first | (go_simp; done) | (go_simp; with_reducible rfl)
        simp only [List.setIfInBounds_toArray, List.set_cons_zero, List.set_cons_succ]
        refine sk0 (v := ?_) 9 31 #[true, true, true, true, true, true, true, true, true, true, false, false, false, false, false, false, false, false, false, false, false, false, false, false, false, false, false, false, false, false, false, false] rfl rfl (by kernel_rfl) (by kernel_rfl) (by kernel_rfl) (by kernel_rfl) (fun _ _ _ h => h) (by kernel_rfl) (by rfl) ?hy (fun _ => hHeld.out) ?_
        case hy => intro W; first | (go_simp; done) | (go_simp; with_reducible rfl)
        simp only [List.setIfInBounds_toArray, List.set_cons_zero, List.set_cons_succ]
        refine sk0 (v := ?_) 10 32 #[true, true, true, true, true, true, true, true, true, true, true, false, false, false, false, false, false, false, false, false, false, false, false, false, false, false, false, false, false, false, false, false] rfl rfl (by kernel_rfl) (by kernel_rfl) (by kernel_rfl) (by kernel_rfl) (fun _ _ _ h => h) (by kernel_rfl) (by rfl) ?hy (fun _ => hHeld.out) ?_
        case hy => intro W; first | (go_simp; done) | (go_simp; with_reducible rfl)
        simp only [List.setIfInBounds_toArray, List.set_cons_zero, List.set_cons_succ]
        refine sk0 (v := ?_) 11 33 #[true, true, true, true, true, true, true, true, true, true, true, true, false, false, false, false, false, false, false, false, false, false, false, false, false, false, false, false, false, false, false, false] rfl rfl (by kernel_rfl) (by kernel_rfl) (by kernel_rfl) (by kernel_rfl) (fun _ _ _ h => h) (by kernel_rfl) (by rfl) ?hy (fun _ => hHeld.out) ?_
        case hy => intro W; first | (go_simp; done) | (go_simp; with_reducible rfl)
        simp only [List.setIfInBounds_toArray, List.set_cons_zero, List.set_cons_succ]
        refine sk1 (v := ?_) 12 34 #[true, true, true, true, true, true, true, true, true, true, true, true, true, false, false, false, false, false, false, false, false, false, false, false, false, false, false, false, false, false, false, false] rfl rfl (by kernel_rfl) (by kernel_rfl) (by kernel_rfl) (by kernel_rfl) (by kernel_rfl) (by kernel_rfl) (fun _ _ _ h => h) (by kernel_rfl) (by rfl) ?hy hHeld.out ?_
        case hy => rintro W e0; obtain ⟨c0, c1⟩ := kcell e0 hK2; first | (go_simp; done) | (go_simp; with_reducible rfl)
        simp only [List.setIfInBounds_toArray, List.set_cons_zero, List.set_cons_succ]
        refine sk0 (v := ?_) 13 35 #[true, true, true, true, true, true, true, true, true, true, true, true, true, true, false, false, false, false, false, false, false, false, false, false, false, false, false, false, false, false, false, false] rfl rfl (by kernel_rfl) (by kernel_rfl) (by kernel_rfl) (by kernel_rfl) (fun _ _ _ h => h) (by kernel_rfl) (by rfl) ?hy (fun _ => hHeld.out) ?_
        case hy => intro W; first | (go_simp; done) | (go_simp; with_reducible rfl)
        simp only [List.setIfInBounds_toArray, List.set_cons_zero, List.set_cons_succ]
        refine sk0 (v := ?_) 14 36 #[true, true, true, true, true, true, true, true, true, true, true, true, true, true, true, false, false, false, false, false, false, false, false, false, false, false, false, false, false, false, false, false] rfl rfl (by kernel_rfl) (by kernel_rfl) (by kernel_rfl) (by kernel_rfl) (fun _ _ _ h => h) (by kernel_rfl) (by rfl) ?hy (fun _ => hHeld.out) ?_
        case hy => intro W; first | (go_simp; done) | (go_simp; with_reducible rfl)
        simp only [List.setIfInBounds_toArray, List.set_cons_zero, List.set_cons_succ]
        refine sk0 (v := ?_) 15 37 #[true, true, true, true, true, true, true, true, true, true, true, true, true, true, true, true, false, false, false, false, false, false, false, false, false, false, false, false, false, false, false, false] rfl rfl (by kernel_rfl) (by kernel_rfl) (by kernel_rfl) (by kernel_rfl) (fun _ _ _ h => h) (by kernel_rfl) (by rfl) ?hy (fun _ => hHeld.out) ?_
        case hy => intro W; first | (go_simp; done) | (go_simp; with_reducible rfl)
        simp only [List.setIfInBounds_toArray, List.set_cons_zero, List.set_cons_succ]
        refine sk0 (v := ?_) 16 38 #[true, true, true, true, true, true, true, true, true, true, true, true, true, true, true, true, true, false, false, false, false, false, false, false, false, false, false, false, false, false, false, false] rfl rfl (by kernel_rfl) (by kernel_rfl) (by kernel_rfl) (by kernel_rfl) (fun _ _ _ h => h) (by kernel_rfl) (by rfl) ?hy (fun _ => hHeld.out) ?_
        case hy => intro W; first | (go_simp; done) | (go_simp; with_reducible rfl)
        simp only [List.setIfInBounds_toArray, List.set_cons_zero, List.set_cons_succ]
        refine sk0 (v := ?_) 17 39 #[true, true, true, true, true, true, true, true, true, true, true, true, true, true, true, true, true, true, false, false, false, false, false, false, false, false, false, false, false, false, false, false] rfl rfl (by kernel_rfl) (by kernel_rfl) (by kernel_rfl) (by kernel_rfl) (fun _ _ _ h => h) (by kernel_rfl) (by rfl) ?hy (fun _ => hHeld.out) ?_
        case hy => intro W; first | (go_simp; done) | (go_simp; with_reducible rfl)
        simp only [List.setIfInBounds_toArray, List.set_cons_zero, List.set_cons_succ]
        refine sk0 (v := ?_) 18 40 #[true, true, true, true, true, true, true, true, true, true, true, true, true, true, true, true, true, true, true, false, false, false, false, false, false, false, false, false, false, false, false, false] rfl rfl (by kernel_rfl) (by kernel_rfl) (by kernel_rfl) (by kernel_rfl) (fun _ _ _ h => h) (by kernel_rfl) (by rfl) ?hy (fun _ => hHeld.out) ?_
        case hy => intro W; first | (go_simp; done) | (go_simp; with_reducible rfl)
        simp only [List.setIfInBounds_toArray, List.set_cons_zero, List.set_cons_succ]
        refine sk1 (v := ?_) 19 41 #[true, true, true, true, true, true, true, true, true, true, true, true, true, true, true, true, true, true, true, true, false, false, false, false, false, false, false, false, false, false, false, false] rfl rfl (by kernel_rfl) (by kernel_rfl) (by kernel_rfl) (by kernel_rfl) (by kernel_rfl) (by kernel_rfl) (fun _ _ _ h => h) (by kernel_rfl) (by rfl) ?hy hHeld.out ?_
        case hy => rintro W e0; obtain ⟨c0, c1⟩ := kcell e0 hK3; first | (go_simp; done) | (go_simp; with_reducible rfl)
        simp only [List.setIfInBounds_toArray, List.set_cons_zero, List.set_cons_succ]
        refine sk0 (v := ?_) 20 42 #[true, true, true, true, true, true, true, true, true, true, true, true, true, true, true, true, true, true, true, true, true, false, false, false, false, false, false, false, false, false, false, false] rfl rfl (by kernel_rfl) (by kernel_rfl) (by kernel_rfl) (by kernel_rfl) (fun _ _ _ h => h) (by kernel_rfl) (by rfl) ?hy (fun _ => hHeld.out) ?_
        case hy => intro W; first | (go_simp; done) | (go_simp; with_reducible rfl)
        simp only [List.setIfInBounds_toArray, List.set_cons_zero, List.set_cons_succ]
        refine sk0 (v := ?_) 21 43 #[true, true, true, true, true, true, true, true, true, true, true, true, true, true, true, true, true, true, true, true, true, true, false, false, false, false, false, false, false, false, false, false] rfl rfl (by kernel_rfl) (by kernel_rfl) (by kernel_rfl) (by kernel_rfl) (fun _ _ _ h => h) (by kernel_rfl) (by rfl) ?hy (fun _ => hHeld.out) ?_
        case hy => intro W; first | (go_simp; done) | (go_simp; with_reducible rfl)
        simp only [List.setIfInBounds_toArray, List.set_cons_zero, List.set_cons_succ]
        refine sk0 (v := ?_) 22 44 #[true, true, true, true, true, true, true, true, true, true, true, true, true, true, true, true, true, true, true, true, true, true, true, false, false, false, false, false, false, false, false, false] rfl rfl (by kernel_rfl) (by kernel_rfl) (by kernel_rfl) (by kernel_rfl) (fun _ _ _ h => h) (by kernel_rfl) (by rfl) ?hy (fun _ => hHeld.out) ?_
        case hy => intro W; first | (go_simp; done) | (go_simp; with_reducible rfl)
        simp only [List.setIfInBounds_toArray, List.set_cons_zero, List.set_cons_succ]
        refine sk0 (v := ?_) 23 45 #[true, true, true, true, true, true, true, true, true, true, true, true, true, true, true, true, true, true, true, true, true, true, true, true, false, false, false, false, false, false, false, false] rfl rfl (by kernel_rfl) (by kernel_rfl) (by kernel_rfl) (by kernel_rfl) (fun _ _ _ h => h) (by kernel_rfl) (by rfl) ?hy (fun _ => hHeld.out) ?_
        case hy => intro W; first | (go_simp; done) | (go_simp; with_reducible rfl)
        simp only [List.setIfInBounds_toArray, List.set_cons_zero, List.set_cons_succ]
        refine sk0 (v := ?_) 24 46 #[true, true, true, true, true, true, true, true, true, true, true, true, true, true, true, true, true, true, true, true, true, true, true, true, true, false, false, false, false, false, false, false] rfl rfl (by kernel_rfl) (by kernel_rfl) (by kernel_rfl) (by kernel_rfl) (fun _ _ _ h => h) (by kernel_rfl) (by rfl) ?hy (fun _ => hHeld.out) ?_
        case hy => intro W; first | (go_simp; done) | (go_simp; with_reducible rfl)
        simp only [List.setIfInBounds_toArray, List.set_cons_zero, List.set_cons_succ]
        refine sk0 (v := ?_) 25 47 #[true, true, true, true, true, true, true, true, true, true, true, true, true, true, true, true, true, true, true, true, true, true, true, true, true, true, false, false, false, false, false, false] rfl rfl (by kernel_rfl) (by kernel_rfl) (by kernel_rfl) (by kernel_rfl) (fun _ _ _ h => h) (by kernel_rfl) (by rfl) ?hy (fun _ => hHeld.out) ?_
        case hy => intro W; first | (go_simp; done) | (go_simp; with_reducible rfl)
        simp only [List.setIfInBounds_toArray, List.set_cons_zero, List.set_cons_succ]
        refine sk1 (v := ?_) 26 48 #[true, true, true, true, true, true, true, true, true, true, true, true, true, true, true, true, true, true, true, true, true, true, true, true, true, true, true, false, false, false, false, false] rfl rfl (by kernel_rfl) (by kernel_rfl) (by kernel_rfl) (by kernel_rfl) (by kernel_rfl) (by kernel_rfl) (fun _ _ _ h => h) (by kernel_rfl) (by rfl) ?hy hHeld.out ?_
        case hy => rintro W e0; obtain ⟨c0, c1⟩ := kcell e0 hK4; first | (go_simp; done) | (go_simp; with_reducible rfl)
        simp only [List.setIfInBounds_toArray, List.set_cons_zero, List.set_cons_succ]
        refine s_ready 27 #[true, true, true, true, true, true, true, true, true, true, true, true, true, true, true, true, true, true, true, true, true, true, true, true, true, true, true, true, false, false, false, false] (by simp only [List.getElem?_toArray, List.getElem?_cons_succ, List.getElem?_cons_zero]; rfl) (by kernel_rfl) (by kernel_rfl) (by rfl) (fun K hK => ?_)
        refine op_keys4 _ _ _ _ rfl x1 y1 x2 y2 x3 y3 x4 y4 rfl rfl rfl rfl ?_
        simp only [Act.put, List.setIfInBounds_toArray, List.set_cons_zero, List.set_cons_succ]
        refine hK.out _ _ (fun _ => blk_later hHeld.out B1.out) ?_
        clear hK K
        have hHeld := hide (blk_later hHeld.out B1.out)
        refine sk0 (v := ?_) 28 50 #[true, true, true, true, true, true, true, true, true, true, true, true, true, true, true, true, true, true, true, true, true, true, true, true, true, true, true, true, true, false, false, false] rfl rfl (by kernel_rfl) (by kernel_rfl) (by kernel_rfl) (by kernel_rfl) (fun _ _ _ h => h) (by kernel_rfl) (by rfl) ?hy (fun _ => hHeld.out) ?_
        case hy => intro W; first | (go_simp; done) | (go_simp; with_reducible rfl)
        simp only [List.setIfInBounds_toArray, List.set_cons_zero, List.set_cons_succ]
        refine s_ready 29 #[true, true, true, true, true, true, true, true, true, true, true, true, true, true, true, true, true, true, true, true, true, true, true, true, true, true, true, true, true, true, false, false] (by simp only [List.getElem?_toArray, List.getElem?_cons_succ, List.getElem?_cons_zero]; rfl) (by kernel_rfl) (by kernel_rfl) (by rfl) (fun K hK => ?_)
        refine op_ops1 _ rfl 0 0 (k : Int) (.slice (some ⟨wr.heap.size, 0, none⟩) 4 4) rfl ?_
        simp only [Act.put, List.setIfInBounds_toArray, List.set_cons_zero, List.set_cons_succ]
        refine hK.out _ _ (fun _ => blk_later hHeld.out B2.out) ?_
        clear hK K
        have hHeld := hide (blk_later hHeld.out B2.out)
        refine s_ready 30 #[true, true, true, true, true, true, true, true, true, true, true, true, true, true, true, true, true, true, true, true, true, true, true, true, true, true, true, true, true, true, true, false] (by simp only [List.getElem?_toArray, List.getElem?_cons_succ, List.getElem?_cons_zero]; rfl) (by kernel_rfl) (by kernel_rfl) (by rfl) (fun K hK => ?_)
        refine op_append_oq (w0 := w) (gk := gk) _ _ rfl u2 S rfl HM2.out _ _ 1 [⟨0, 0, (k : Int), [(x1, y1), (x2, y2), (x3, y3), (x4, y4)], some ⟨wr.heap.size, 0, none⟩, 4⟩] rfl rfl _ HG2.out rfl HOK.out HN.out ?_
        intro v' w4 hM4
        have HM4 := hide hM4
        clear hM4
        simp only [Act.put, List.setIfInBounds_toArray, List.set_cons_zero, List.set_cons_succ]
        refine hK.out _ _ (fun _ => HM4.out.kb) ?_
        clear hK K
        have hHeld := hide HM4.out.kb
        refine sk0 (v := ?_) 31 2 #[true, true, true, true, true, true, true, true, true, true, true, true, true, true, true, true, true, true, true, true, true, true, true, true, true, true, true, true, true, true, true, true] rfl rfl (by kernel_rfl) (by kernel_rfl) (by kernel_rfl) (by kernel_rfl) (fun _ _ _ h => h) (by kernel_rfl) (by rfl) ?hy (fun _ => hHeld.out) ?_
        case hy => intro W; first | (go_simp; done) | (go_simp; with_reducible rfl)
        simp only [List.setIfInBounds_toArray, List.set_cons_zero, List.set_cons_succ]
        refine s_done (by kernel_rfl) ?_ _
        clear hHeld B0 B1 B2 HKA HG2 HM2 HOK HN wn2 wm3 wn3 wm4 wn4 q1 q2 q3 q4
        go_wp2_with fail
        go_roundw
        case rel => exact ⟨k + 1, _, HLT.out, congrArg (Value.int .i64) (by first | exact wk | omega), hide ⟨HM4.out, by rw [List.length_append]; exact congrArg (· + 1) HL2.out⟩⟩
        case measure => first | exact meas_upK HLT.out | (rw [wk]; exact meas_upK HLT.out)
    · obtain rfl : k = 20 := by omega
      have HM1 : Hid (MS w wr gk u2 S ∧ S.length ≤ 20) := hide ⟨HP.out.1, Nat.le_of_eq HP.out.2⟩
      clear HP hlt hk
      go_wp2_with fail
      rw [show ((20 : Nat) : Int) = 20 from rfl]
      generalize wr = W1 at *
      go_loopw [2, 4] (fun l i wr => ∃ (n : Nat) (S : List Oq), n ≤ 60 ∧ i = .int .i64 (n : Int) ∧ Hid (MS w wr gk l S ∧ S.length ≤ 20 + 12 * n)) (fun _ i _ => 60 - (intOf i).toNat)
      case atStart => exact ⟨0, S, by omega, rfl, hide HM1.out⟩
      case round =>
        clear HM1
        obtain ⟨n, S, hk, rfl, HP⟩ := hrel
        by_cases hlt : n < 60
        · skip
          have hd : decide ((n : Int) < 60) = true := by rw [decide_eq_true_eq]; omega
          obtain ⟨m7, hm7⟩ : ∃ m7 : Nat, m7 = n * 7 := ⟨_, rfl⟩
          have wm7 : wrap64 ((n : Int) * 7) = (m7 : Int) := by rw [hm7]; exact wmul7 hlt
          have HP1 : Hid (MS w wr gk u2 S) := hide HP.out.1
          have HL2 : Hid (S.length ≤ 20 + 12 * n) := hide HP.out.2
          have HN : Hid (S.length + 8 ≤ 2000) := hide (by have := HP.out.2; omega)
          have B0 : Hid (Below wr.heap.size wr wr.drew) := hide (Below.refl _ _).drew
          have hHeld : Hid (wr.drew.heap[gk]? = some (.cells (KY.mc K7).toArray 23 (0, 0))) := hide (blk_later HP.out.1.kb B0.out)
          have HLT := hide hlt
          have wk : wrap64 ((n : Int) + 1) = ((n + 1 : Nat) : Int) := (wr1 n (le_mil hlt (by decide)) 1 (by decide)).2
          obtain ⟨id, hid1, hid2, hid3, hid4⟩ := rem20 m7
          have HI1 : Hid (IOK (id : Int)) := hide (iok_sm (le_mil hid4 (by decide)))
          obtain ⟨i1, x1, y1, q1, ia1, ib1, hK1⟩ := idx7 n
          obtain ⟨n2, hn2⟩ : ∃ n2 : Nat, n2 = n + 3 := ⟨_, rfl⟩
          have wn2 : IntKind.i64.wrap ((n : Int) + 3) = (n2 : Int) := by rw [hn2]; exact (wr1 n (le_mil hlt (by decide)) 3 (by decide)).1
          obtain ⟨i2, x2, y2, q2, ia2, ib2, hK2⟩ := idx7 n2
          obtain ⟨i3, x3, y3, q3, ia3, ib3, hK3⟩ := idx5 n
          obtain ⟨sn, hsn⟩ : ∃ sn : Nat, sn = id + n := ⟨_, rfl⟩
          have wsn : IntKind.i64.wrap ((id : Int) + (n : Int)) = (sn : Int) := by rw [hsn]; exact (wr1 id (le_mil hid4 (by decide)) n (le_mil hlt (by decide))).1
          obtain ⟨j, hj1, hj2, hj3, hj4⟩ := rem20 sn
          have HI2 : Hid (IOK (j : Int)) := hide (iok_sm (le_mil hj4 (by decide)))
          obtain ⟨r3, ha1, ha2, ha3, ha4⟩ := rem3 n
          obtain ⟨r6, hb1, hb2, hb3, hb4⟩ := rem6 n
          obtain ⟨r4, hc1, hc2, hc3, hc4⟩ := rem4 n
          have H64 : Hid (r6 = 0 → r4 = 0 ∨ r4 = 2) := hide (by rw [hb3, hc3]; exact h64 n)
          have HR4 : Hid ((r4 : Int) ≤ 7 ∧ ¬ 7 = r4) := hide (r4_ok hc4)
          have H63 : Hid (r6 = 0 → r3 = 0) := hide (by rw [hb3, ha3]; exact h63 n)
          clear hm7 hid3 hid4 hj3 hj4 ha3 ha4 hb3 hb4 hc3 hc4 hn2 hsn HP hlt hk
          · go_upto_region 11 with fail
            refine s_begins (S := fun W => W.heap[gk]? = some (.cells (KY.mc K7).toArray 23 (0, 0))) [] 35 #[false, false, false, false, false, false, false, false, false, false, false, false, false, false, false, false, false, false, false, false, false, false, false, false, false, false, false, false, false, false, false, false, false, false, false] (by kernel_rfl) (by kernel_rfl) (by kernel_rfl) ?_
            refine sk0 (v := ?_) 0 60 #[true, false, false, false, false, false, false, false, false, false, false, false, false, false, false, false, false, false, false, false, false, false, false, false, false, false, false, false, false, false, false, false, false, false, false] rfl rfl (by kernel_rfl) (by kernel_rfl) (by kernel_rfl) (by kernel_rfl) (fun _ _ _ h => h) (by kernel_rfl) (by rfl) ?hy (fun _ => hHeld.out) ?_
            case hy => intro W; first | (go_simp; done) | (go_simp; with_reducible rfl)
            simp only [List.setIfInBounds_toArray, List.set_cons_zero, List.set_cons_succ]
            refine sk0 (v := ?_) 1 61 #[true, true, false, false, false, false, false, false, false, false, false, false, false, false, false, false, false, false, false, false, false, false, false, false, false, false, false, false, false, false, false, false, false, false, false] rfl rfl (by kernel_rfl) (by kernel_rfl) (by kernel_rfl) (by kernel_rfl) (fun _ _ _ h => h) (by kernel_rfl) (by rfl) ?hy (fun _ => hHeld.out) ?_
            case hy => intro W; first | (go_simp; done) | (go_simp; with_reducible rfl)
            simp only [List.setIfInBounds_toArray, List.set_cons_zero, List.set_cons_succ]
            refine sk0 (v := ?_) 2 62 #[true, true, true, false, false, false, false, false, false, false, false, false, false, false, false, false, false, false, false, false, false, false, false, false, false, false, false, false, false, false, false, false, false, false, false] rfl rfl (by kernel_rfl) (by kernel_rfl) (by kernel_rfl) (by kernel_rfl) (fun _ _ _ h => h) (by kernel_rfl) (by rfl) ?hy (fun _ => hHeld.out) ?_
            case hy => intro W; first | (go_simp; done) | (go_simp; with_reducible rfl)
            simp only [List.setIfInBounds_toArray, List.set_cons_zero, List.set_cons_succ]
            refine sk0 (v := ?_) 3 63 #[true, true, true, true, false, false, false, false, false, false, false, false, false, false, false, false, false, false, false, false, false, false, false, false, false, false, false, false, false, false, false, false, false, false, false] rfl rfl (by kernel_rfl) (by kernel_rfl) (by kernel_rfl) (by kernel_rfl) (fun _ _ _ h => h) (by kernel_rfl) (by rfl) ?hy (fun _ => hHeld.out) ?_
            case hy => intro W; first | (go_simp; done) | (go_simp; with_reducible rfl)
            simp only [List.setIfInBounds_toArray, List.set_cons_zero, List.set_cons_succ]
            refine sk0 (v := ?_) 4 64 #[true, true, true, true, true, false, false, false, false, false, false, false, false, false, false, false, false, false, false, false, false, false, false, false, false, false, false, false, false, false, false, false, false, false, false] rfl rfl (by kernel_rfl) (by kernel_rfl) (by kernel_rfl) (by kernel_rfl) (fun _ _ _ h => h) (by kernel_rfl) (by rfl) ?hy (fun _ => hHeld.out) ?_
            case hy => intro W; first | (go_simp; done) | (go_simp; with_reducible rfl)
            simp only [List.setIfInBounds_toArray, List.set_cons_zero, List.set_cons_succ]
            refine sk1 (v := ?_) 5 65 #[true, true, true, true, true, true, false, false, false, false, false, false, false, false, false, false, false, false, false, false, false, false, false, false, false, false, false, false, false, false, false, false, false, false, false] rfl rfl (by kernel_rfl) (by kernel_rfl) (by kernel_rfl) (by kernel_rfl) (by kernel_rfl) (by kernel_rfl) (fun _ _ _ h => h) (by kernel_rfl) (by rfl) ?hy hHeld.out ?_
            case hy => rintro W e0; obtain ⟨c0, c1⟩ := kcell e0 hK1; first | (go_simp; done) | (go_simp; with_reducible rfl)
            simp only [List.setIfInBounds_toArray, List.set_cons_zero, List.set_cons_succ]
            refine sk0 (v := ?_) 8 68 #[true, true, true, true, true, true, false, false, true, false, false, false, false, false, false, false, false, false, false, false, false, false, false, false, false, false, false, false, false, false, false, false, false, false, false] rfl rfl (by kernel_rfl) (by kernel_rfl) (by kernel_rfl) (by kernel_rfl) (fun _ _ _ h => h) (by kernel_rfl) (by rfl) ?hy (fun _ => hHeld.out) ?_
            case hy => intro W; first | (go_simp; done) | (go_simp; with_reducible rfl)
            simp only [List.setIfInBounds_toArray, List.set_cons_zero, List.set_cons_succ]
            refine sk0 (v := ?_) 9 69 #[true, true, true, true, true, true, false, false, true, true, false, false, false, false, false, false, false, false, false, false, false, false, false, false, false, false, false, false, false, false, false, false, false, false, false] rfl rfl (by kernel_rfl) (by kernel_rfl) (by kernel_rfl) (by kernel_rfl) (fun _ _ _ h => h) (by kernel_rfl) (by rfl) ?hy (fun _ => hHeld.out) ?_
            case hy => intro W; first | (go_simp; done) | (go_simp; with_reducible rfl)
            simp only [List.setIfInBounds_toArray, List.set_cons_zero, List.set_cons_succ]
            refine sk0 (v := ?_) 10 70 #[true, true, true, true, true, true, false, false, true, true, true, false, false, false, false, false, false, false, false, false, false, false, false, false, false, false, false, false, false, false, false, false, false, false, false] rfl rfl (by kernel_rfl) (by kernel_rfl) (by kernel_rfl) (by kernel_rfl) (fun _ _ _ h => h) (by kernel_rfl) (by rfl) ?hy (fun _ => hHeld.out) ?_
            case hy => intro W; first | (go_simp; done) | (go_simp; with_reducible rfl)
            simp only [List.setIfInBounds_toArray, List.set_cons_zero, List.set_cons_succ]
            refine sk0 (v := ?_) 11 71 #[true, true, true, true, true, true, false, false, true, true, true, true, false, false, false, false, false, false, false, false, false, false, false, false, false, false, false, false, false, false, false, false, false, false, false] rfl rfl (by kernel_rfl) (by kernel_rfl) (by kernel_rfl) (by kernel_rfl) (fun _ _ _ h => h) (by kernel_rfl) (by rfl) ?hy (fun _ => hHeld.out) ?_
            case hy => intro W; first | (go_simp; done) | (go_simp; with_reducible rfl)
            simp only [List.setIfInBounds_toArray, List.set_cons_zero, List.set_cons_succ]
            refine sk0 (v := ?_) 12 72 #[true, true, true, true, true, true, false, false, true, true, true, true, true, false, false, false, false, false, false, false, false, false, false, false, false, false, false, false, false, false, false, false, false, false, false] rfl rfl (by kernel_rfl) (by kernel_rfl) (by kernel_rfl) (by kernel_rfl) (fun _ _ _ h => h) (by kernel_rfl) (by rfl) ?hy (fun _ => hHeld.out) ?_
            case hy => intro W; first | (go_simp; done) | (go_simp; with_reducible rfl)
            simp only [List.setIfInBounds_toArray, List.set_cons_zero, List.set_cons_succ]
            refine sk0 (v := ?_) 13 73 #[true, true, true, true, true, true, false, false, true, true, true, true, true, true, false, false, false, false, false, false, false, false, false, false, false, false, false, false, false, false, false, false, false, false, false] rfl rfl (by kernel_rfl) (by kernel_rfl) (by kernel_rfl) (by kernel_rfl) (fun _ _ _ h => h) (by kernel_rfl) (by rfl) ?hy (fun _ => hHeld.out) ?_
            case hy => intro W; first | (go_simp; done) | (go_simp; with_reducible rfl)
            simp only [List.setIfInBounds_toArray, List.set_cons_zero, List.set_cons_succ]
            refine sk0 (v := ?_) 14 74 #[true, true, true, true, true, true, false, false, true, true, true, true, true, true, true, false, false, false, false, false, false, false, false, false, false, false, false, false, false, false, false, false, false, false, false] rfl rfl (by kernel_rfl) (by kernel_rfl) (by kernel_rfl) (by kernel_rfl) (fun _ _ _ h => h) (by kernel_rfl) (by rfl) ?hy (fun _ => hHeld.out) ?_
            case hy => intro W; first | (go_simp; done) | (go_simp; with_reducible rfl)
            simp only [List.setIfInBounds_toArray, List.set_cons_zero, List.set_cons_succ]
            refine sk1 (v := ?_) 15 75 #[true, true, true, true, true, true, false, false, true, true, true, true, true, true, true, true, false, false, false, false, false, false, false, false, false, false, false, false, false, false, false, false, false, false, false] rfl rfl (by kernel_rfl) (by kernel_rfl) (by kernel_rfl) (by kernel_rfl) (by kernel_rfl) (by kernel_rfl) (fun _ _ _ h => h) (by kernel_rfl) (by rfl) ?hy hHeld.out ?_
            case hy => rintro W e0; obtain ⟨c0, c1⟩ := kcell e0 hK2; first | (go_simp; done) | (go_simp; with_reducible rfl)
            simp only [List.setIfInBounds_toArray, List.set_cons_zero, List.set_cons_succ]
            refine sk0 (v := ?_) 16 76 #[true, true, true, true, true, true, false, false, true, true, true, true, true, true, true, true, true, false, false, false, false, false, false, false, false, false, false, false, false, false, false, false, false, false, false] rfl rfl (by kernel_rfl) (by kernel_rfl) (by kernel_rfl) (by kernel_rfl) (fun _ _ _ h => h) (by kernel_rfl) (by rfl) ?hy (fun _ => hHeld.out) ?_
            case hy => intro W; first | (go_simp; done) | (go_simp; with_reducible rfl)
            simp only [List.setIfInBounds_toArray, List.set_cons_zero, List.set_cons_succ]
            refine sk0 (v := ?_) 17 77 #[true, true, true, true, true, true, false, false, true, true, true, true, true, true, true, true, true, true, false, false, false, false, false, false, false, false, false, false, false, false, false, false, false, false, false] rfl rfl (by kernel_rfl) (by kernel_rfl) (by kernel_rfl) (by kernel_rfl) (fun _ _ _ h => h) (by kernel_rfl) (by rfl) ?hy (fun _ => hHeld.out) ?_
            case hy => intro W; first | (go_simp; done) | (go_simp; with_reducible rfl)
            simp only [List.setIfInBounds_toArray, List.set_cons_zero, List.set_cons_succ]
            refine sk0 (v := ?_) 18 78 #[true, true, true, true, true, true, false, false, true, true, true, true, true, true, true, true, true, true, true, false, false, false, false, false, false, false, false, false, false, false, false, false, false, false, false] rfl rfl (by kernel_rfl) (by kernel_rfl) (by kernel_rfl) (by kernel_rfl) (fun _ _ _ h => h) (by kernel_rfl) (by rfl) ?hy (fun _ => hHeld.out) ?_
            case hy => intro W; first | (go_simp; done) | (go_simp; with_reducible rfl)
            simp only [List.setIfInBounds_toArray, List.set_cons_zero, List.set_cons_succ]
            refine sk0 (v := ?_) 19 79 #[true, true, true, true, true, true, false, false, true, true, true, true, true, true, true, true, true, true, true, true, false, false, false, false, false, false, false, false, false, false, false, false, false, false, false] rfl rfl (by kernel_rfl) (by kernel_rfl) (by kernel_rfl) (by kernel_rfl) (fun _ _ _ h => h) (by kernel_rfl) (by rfl) ?hy (fun _ => hHeld.out) ?_
            case hy => intro W; first | (go_simp; done) | (go_simp; with_reducible rfl)
            simp only [List.setIfInBounds_toArray, List.set_cons_zero, List.set_cons_succ]
            refine sk1 (v := ?_) 20 80 #[true, true, true, true, true, true, false, false, true, true, true, true, true, true, true, true, true, true, true, true, true, false, false, false, false, false, false, false, false, false, false, false, false, false, false] rfl rfl (by kernel_rfl) (by kernel_rfl) (by kernel_rfl) (by kernel_rfl) (by kernel_rfl) (by kernel_rfl) (fun _ _ _ h => h) (by kernel_rfl) (by rfl) ?hy hHeld.out ?_
            case hy => rintro W e0; obtain ⟨c0, c1⟩ := kcell e0 hK3; first | (go_simp; done) | (go_simp; with_reducible rfl)
            simp only [List.setIfInBounds_toArray, List.set_cons_zero, List.set_cons_succ]
            refine sk0 (v := ?_) 23 83 #[true, true, true, true, true, true, false, false, true, true, true, true, true, true, true, true, true, true, true, true, true, false, false, true, false, false, false, false, false, false, false, false, false, false, false] rfl rfl (by kernel_rfl) (by kernel_rfl) (by kernel_rfl) (by kernel_rfl) (fun _ _ _ h => h) (by kernel_rfl) (by rfl) ?hy (fun _ => hHeld.out) ?_
            case hy => intro W; first | (go_simp; done) | (go_simp; with_reducible rfl)
            simp only [List.setIfInBounds_toArray, List.set_cons_zero, List.set_cons_succ]
            refine sk0 (v := ?_) 24 84 #[true, true, true, true, true, true, false, false, true, true, true, true, true, true, true, true, true, true, true, true, true, false, false, true, true, false, false, false, false, false, false, false, false, false, false] rfl rfl (by kernel_rfl) (by kernel_rfl) (by kernel_rfl) (by kernel_rfl) (fun _ _ _ h => h) (by kernel_rfl) (by rfl) ?hy (fun _ => hHeld.out) ?_
            case hy => intro W; first | (go_simp; done) | (go_simp; with_reducible rfl)
            simp only [List.setIfInBounds_toArray, List.set_cons_zero, List.set_cons_succ]
            refine sk0 (v := ?_) 25 85 #[true, true, true, true, true, true, false, false, true, true, true, true, true, true, true, true, true, true, true, true, true, false, false, true, true, true, false, false, false, false, false, false, false, false, false] rfl rfl (by kernel_rfl) (by kernel_rfl) (by kernel_rfl) (by kernel_rfl) (fun _ _ _ h => h) (by kernel_rfl) (by rfl) ?hy (fun _ => hHeld.out) ?_
            case hy => intro W; first | (go_simp; done) | (go_simp; with_reducible rfl)
            simp only [List.setIfInBounds_toArray, List.set_cons_zero, List.set_cons_succ]
            refine sk0 (v := ?_) 26 86 #[true, true, true, true, true, true, false, false, true, true, true, true, true, true, true, true, true, true, true, true, true, false, false, true, true, true, true, false, false, false, false, false, false, false, false] rfl rfl (by kernel_rfl) (by kernel_rfl) (by kernel_rfl) (by kernel_rfl) (fun _ _ _ h => h) (by kernel_rfl) (by rfl) ?hy (fun _ => hHeld.out) ?_
            case hy => intro W; first | (go_simp; done) | (go_simp; with_reducible rfl)
            simp only [List.setIfInBounds_toArray, List.set_cons_zero, List.set_cons_succ]
            refine sk0 (v := ?_) 27 87 #[true, true, true, true, true, true, false, false, true, true, true, true, true, true, true, true, true, true, true, true, true, false, false, true, true, true, true, true, false, false, false, false, false, false, false] rfl rfl (by kernel_rfl) (by kernel_rfl) (by kernel_rfl) (by kernel_rfl) (fun _ _ _ h => h) (by kernel_rfl) (by rfl) ?hy (fun _ => hHeld.out) ?_
            case hy => intro W; first | (go_simp; done) | (go_simp; with_reducible rfl)
            simp only [List.setIfInBounds_toArray, List.set_cons_zero, List.set_cons_succ]
            refine sk0 (v := ?_) 28 88 #[true, true, true, true, true, true, false, false, true, true, true, true, true, true, true, true, true, true, true, true, true, false, false, true, true, true, true, true, true, false, false, false, false, false, false] rfl rfl (by kernel_rfl) (by kernel_rfl) (by kernel_rfl) (by kernel_rfl) (fun _ _ _ h => h) (by kernel_rfl) (by rfl) ?hy (fun _ => hHeld.out) ?_
            case hy => intro W; first | (go_simp; done) | (go_simp; with_reducible rfl)
            simp only [List.setIfInBounds_toArray, List.set_cons_zero, List.set_cons_succ]
            refine sk0 (v := ?_) 29 89 #[true, true, true, true, true, true, false, false, true, true, true, true, true, true, true, true, true, true, true, true, true, false, false, true, true, true, true, true, true, true, false, false, false, false, false] rfl rfl (by kernel_rfl) (by kernel_rfl) (by kernel_rfl) (by kernel_rfl) (fun _ _ _ h => h) (by kernel_rfl) (by rfl) ?hy (fun _ => hHeld.out) ?_
            case hy => intro W; first | (go_simp; done) | (go_simp; with_reducible rfl)
            simp only [List.setIfInBounds_toArray, List.set_cons_zero, List.set_cons_succ]
            refine sk0 (v := ?_) 30 90 #[true, true, true, true, true, true, false, false, true, true, true, true, true, true, true, true, true, true, true, true, true, false, false, true, true, true, true, true, true, true, true, false, false, false, false] rfl rfl (by kernel_rfl) (by kernel_rfl) (by kernel_rfl) (by kernel_rfl) (fun _ _ _ h => h) (by kernel_rfl) (by rfl) ?hy (fun _ => hHeld.out) ?_
            case hy => intro W; first | (go_simp; done) | (go_simp; with_reducible rfl)
            simp only [List.setIfInBounds_toArray, List.set_cons_zero, List.set_cons_succ]
            refine sk0 (v := ?_) 31 91 #[true, true, true, true, true, true, false, false, true, true, true, true, true, true, true, true, true, true, true, true, true, false, false, true, true, true, true, true, true, true, true, true, false, false, false] rfl rfl (by kernel_rfl) (by kernel_rfl) (by kernel_rfl) (by kernel_rfl) (fun _ _ _ h => h) (by kernel_rfl) (by rfl) ?hy (fun _ => hHeld.out) ?_
            case hy => intro W; first | (go_simp; done) | (go_simp; with_reducible rfl)
            simp only [List.setIfInBounds_toArray, List.set_cons_zero, List.set_cons_succ]
            refine s_two 6 21 #[true, true, true, true, true, true, true, false, true, true, true, true, true, true, true, true, true, true, true, true, true, false, false, true, true, true, true, true, true, true, true, true, false, false, false] #[true, true, true, true, true, true, false, false, true, true, true, true, true, true, true, true, true, true, true, true, true, true, false, true, true, true, true, true, true, true, true, true, false, false, false] (by simp only [List.getElem?_toArray, List.getElem?_cons_succ, List.getElem?_cons_zero]; rfl) (by simp only [List.getElem?_toArray, List.getElem?_cons_succ, List.getElem?_cons_zero]; rfl) (by kernel_rfl) (by kernel_rfl) (by kernel_rfl) (by rfl) (by rfl) (fun K hK => ?_) (fun K hK => ?_)
            · skip
              have B1 : Hid (Below wr.drew.heap.size wr.drew (wr.drew.alloc (.cells #[.int .i64 x1, .int .i64 y1] 23))) := hide (below_al rfl)
              have B2 : Hid (Below (wr.drew.alloc (.cells #[.int .i64 x1, .int .i64 y1] 23)).heap.size (wr.drew.alloc (.cells #[.int .i64 x1, .int .i64 y1] 23)) ((wr.drew.alloc (.cells #[.int .i64 x1, .int .i64 y1] 23)).alloc (.cells #[.int .i64 x2, .int .i64 y2, .int .i64 x3, .int .i64 y3] 23))) := hide (below_al rfl)
              have B3 : Hid (Below ((wr.drew.alloc (.cells #[.int .i64 x1, .int .i64 y1] 23)).alloc (.cells #[.int .i64 x2, .int .i64 y2, .int .i64 x3, .int .i64 y3] 23)).heap.size ((wr.drew.alloc (.cells #[.int .i64 x1, .int .i64 y1] 23)).alloc (.cells #[.int .i64 x2, .int .i64 y2, .int .i64 x3, .int .i64 y3] 23)) (((wr.drew.alloc (.cells #[.int .i64 x1, .int .i64 y1] 23)).alloc (.cells #[.int .i64 x2, .int .i64 y2, .int .i64 x3, .int .i64 y3] 23)).alloc (.cells #[.int .i64 0, .int .i64 1, .int .i64 0, .slice (some ⟨wr.heap.size, 0, none⟩) 1 1, .int .i64 0, .int .i64 7, .int .i64 0, .slice none 0 0, .int .i64 0, .int .i64 2, .int .i64 0, .slice none 0 0, .int .i64 0, .int .i64 1, .int .i64 0, .slice (some ⟨wr.heap.size + 1, 0, none⟩) 2 2, .int .i64 0, .int .i64 3, .int .i64 (id : Int), .slice none 0 0, .int .i64 0, .int .i64 3, .int .i64 (j : Int), .slice none 0 0, .int .i64 0, .int .i64 5, .int .i64 0, .slice none 0 0, .int .i64 0, .int .i64 6, .int .i64 0, .slice none 0 0] 26))) := hide (below_al rfl)
              have KY0 : Hid (KeysAt (wr.drew.alloc (.cells #[.int .i64 x1, .int .i64 y1] 23)) (some ⟨wr.heap.size, 0, none⟩) [(x1, y1)]) := hide (keysAt_new rfl rfl rfl)
              have KY1 : Hid (KeysAt (((wr.drew.alloc (.cells #[.int .i64 x1, .int .i64 y1] 23)).alloc (.cells #[.int .i64 x2, .int .i64 y2, .int .i64 x3, .int .i64 y3] 23)).alloc (.cells #[.int .i64 0, .int .i64 1, .int .i64 0, .slice (some ⟨wr.heap.size, 0, none⟩) 1 1, .int .i64 0, .int .i64 7, .int .i64 0, .slice none 0 0, .int .i64 0, .int .i64 2, .int .i64 0, .slice none 0 0, .int .i64 0, .int .i64 1, .int .i64 0, .slice (some ⟨wr.heap.size + 1, 0, none⟩) 2 2, .int .i64 0, .int .i64 3, .int .i64 (id : Int), .slice none 0 0, .int .i64 0, .int .i64 3, .int .i64 (j : Int), .slice none 0 0, .int .i64 0, .int .i64 5, .int .i64 0, .slice none 0 0, .int .i64 0, .int .i64 6, .int .i64 0, .slice none 0 0] 26)) (some ⟨wr.heap.size, 0, none⟩) [(x1, y1)]) := hide ((KY0.out.mono (KK.below B2.out)).mono (KK.below B3.out))
              have KYb : Hid (KeysAt ((wr.drew.alloc (.cells #[.int .i64 x1, .int .i64 y1] 23)).alloc (.cells #[.int .i64 x2, .int .i64 y2, .int .i64 x3, .int .i64 y3] 23)) (some ⟨wr.heap.size + 1, 0, none⟩) [(x2, y2), (x3, y3)]) := hide (keysAt_new rfl rfl (al_size _ _))
              have KY2 : Hid (KeysAt (((wr.drew.alloc (.cells #[.int .i64 x1, .int .i64 y1] 23)).alloc (.cells #[.int .i64 x2, .int .i64 y2, .int .i64 x3, .int .i64 y3] 23)).alloc (.cells #[.int .i64 0, .int .i64 1, .int .i64 0, .slice (some ⟨wr.heap.size, 0, none⟩) 1 1, .int .i64 0, .int .i64 7, .int .i64 0, .slice none 0 0, .int .i64 0, .int .i64 2, .int .i64 0, .slice none 0 0, .int .i64 0, .int .i64 1, .int .i64 0, .slice (some ⟨wr.heap.size + 1, 0, none⟩) 2 2, .int .i64 0, .int .i64 3, .int .i64 (id : Int), .slice none 0 0, .int .i64 0, .int .i64 3, .int .i64 (j : Int), .slice none 0 0, .int .i64 0, .int .i64 5, .int .i64 0, .slice none 0 0, .int .i64 0, .int .i64 6, .int .i64 0, .slice none 0 0] 26)) (some ⟨wr.heap.size + 1, 0, none⟩) [(x2, y2), (x3, y3)]) := hide (KYb.out.mono (KK.below B3.out))
              have HG2 : Hid ((((wr.drew.alloc (.cells #[.int .i64 x1, .int .i64 y1] 23)).alloc (.cells #[.int .i64 x2, .int .i64 y2, .int .i64 x3, .int .i64 y3] 23)).alloc (.cells #[.int .i64 0, .int .i64 1, .int .i64 0, .slice (some ⟨wr.heap.size, 0, none⟩) 1 1, .int .i64 0, .int .i64 7, .int .i64 0, .slice none 0 0, .int .i64 0, .int .i64 2, .int .i64 0, .slice none 0 0, .int .i64 0, .int .i64 1, .int .i64 0, .slice (some ⟨wr.heap.size + 1, 0, none⟩) 2 2, .int .i64 0, .int .i64 3, .int .i64 (id : Int), .slice none 0 0, .int .i64 0, .int .i64 3, .int .i64 (j : Int), .slice none 0 0, .int .i64 0, .int .i64 5, .int .i64 0, .slice none 0 0, .int .i64 0, .int .i64 6, .int .i64 0, .slice none 0 0] 26)).heap[((wr.drew.alloc (.cells #[.int .i64 x1, .int .i64 y1] 23)).alloc (.cells #[.int .i64 x2, .int .i64 y2, .int .i64 x3, .int .i64 y3] 23)).heap.size]? = some (.cells #[.int .i64 0, .int .i64 1, .int .i64 0, .slice (some ⟨wr.heap.size, 0, none⟩) 1 1, .int .i64 0, .int .i64 7, .int .i64 0, .slice none 0 0, .int .i64 0, .int .i64 2, .int .i64 0, .slice none 0 0, .int .i64 0, .int .i64 1, .int .i64 0, .slice (some ⟨wr.heap.size + 1, 0, none⟩) 2 2, .int .i64 0, .int .i64 3, .int .i64 (id : Int), .slice none 0 0, .int .i64 0, .int .i64 3, .int .i64 (j : Int), .slice none 0 0, .int .i64 0, .int .i64 5, .int .i64 0, .slice none 0 0, .int .i64 0, .int .i64 6, .int .i64 0, .slice none 0 0] 26 (0, 0))) := hide (alloc_new ((wr.drew.alloc (.cells #[.int .i64 x1, .int .i64 y1] 23)).alloc (.cells #[.int .i64 x2, .int .i64 y2, .int .i64 x3, .int .i64 y3] 23)) _)
              have HM2 : Hid (MS w (((wr.drew.alloc (.cells #[.int .i64 x1, .int .i64 y1] 23)).alloc (.cells #[.int .i64 x2, .int .i64 y2, .int .i64 x3, .int .i64 y3] 23)).alloc (.cells #[.int .i64 0, .int .i64 1, .int .i64 0, .slice (some ⟨wr.heap.size, 0, none⟩) 1 1, .int .i64 0, .int .i64 7, .int .i64 0, .slice none 0 0, .int .i64 0, .int .i64 2, .int .i64 0, .slice none 0 0, .int .i64 0, .int .i64 1, .int .i64 0, .slice (some ⟨wr.heap.size + 1, 0, none⟩) 2 2, .int .i64 0, .int .i64 3, .int .i64 (id : Int), .slice none 0 0, .int .i64 0, .int .i64 3, .int .i64 (j : Int), .slice none 0 0, .int .i64 0, .int .i64 5, .int .i64 0, .slice none 0 0, .int .i64 0, .int .i64 6, .int .i64 0, .slice none 0 0] 26)) gk u2 S) := hide ((((HP1.out.later B0.out).later B1.out).later B2.out).later B3.out)
              have HOK : Hid (∀ p ∈ ([⟨0, 1, 0, [(x1, y1)], some ⟨wr.heap.size, 0, none⟩, 1⟩, ⟨0, 7, 0, [], none, 0⟩, ⟨0, 2, 0, [], none, 0⟩, ⟨0, 1, 0, [(x2, y2), (x3, y3)], some ⟨wr.heap.size + 1, 0, none⟩, 2⟩, ⟨0, 3, (id : Int), [], none, 0⟩, ⟨0, 3, (j : Int), [], none, 0⟩, ⟨0, 5, 0, [], none, 0⟩, ⟨0, 6, 0, [], none, 0⟩] : List Oq), KOp (((wr.drew.alloc (.cells #[.int .i64 x1, .int .i64 y1] 23)).alloc (.cells #[.int .i64 x2, .int .i64 y2, .int .i64 x3, .int .i64 y3] 23)).alloc (.cells #[.int .i64 0, .int .i64 1, .int .i64 0, .slice (some ⟨wr.heap.size, 0, none⟩) 1 1, .int .i64 0, .int .i64 7, .int .i64 0, .slice none 0 0, .int .i64 0, .int .i64 2, .int .i64 0, .slice none 0 0, .int .i64 0, .int .i64 1, .int .i64 0, .slice (some ⟨wr.heap.size + 1, 0, none⟩) 2 2, .int .i64 0, .int .i64 3, .int .i64 (id : Int), .slice none 0 0, .int .i64 0, .int .i64 3, .int .i64 (j : Int), .slice none 0 0, .int .i64 0, .int .i64 5, .int .i64 0, .slice none 0 0, .int .i64 0, .int .i64 6, .int .i64 0, .slice none 0 0] 26)) p) := hide (fun p hp => by
                simp only [List.mem_cons, List.not_mem_nil, or_false] at hp
                rcases hp with rfl | rfl | rfl | rfl | rfl | rfl | rfl | rfl
                · exact KOp.one KY1.out (Nat.le_refl _) (kok_at hK1) iok0
                · exact KOp.plain iok0
                · exact KOp.plain iok0
                · exact KOp.two KY2.out (Nat.le_refl _) (kok_at hK2) (kok_at hK3) iok0
                · exact KOp.plain HI1.out
                · exact KOp.plain HI2.out
                · exact KOp.plain iok0
                · exact KOp.plain iok0)
              refine op_keys1 _ rfl x1 y1 rfl ?_
              simp only [Act.put, List.setIfInBounds_toArray, List.set_cons_zero, List.set_cons_succ]
              refine hK.out _ _ (fun _ => blk_later hHeld.out B1.out) ?_
              clear hK K
              have hHeld := hide (blk_later hHeld.out B1.out)
              refine sk0 (v := ?_) 7 67 #[true, true, true, true, true, true, true, true, true, true, true, true, true, true, true, true, true, true, true, true, true, false, false, true, true, true, true, true, true, true, true, true, false, false, false] rfl rfl (by kernel_rfl) (by kernel_rfl) (by kernel_rfl) (by kernel_rfl) (fun _ _ _ h => h) (by kernel_rfl) (by rfl) ?hy (fun _ => hHeld.out) ?_
              case hy => intro W; first | (go_simp; done) | (go_simp; with_reducible rfl)
              simp only [List.setIfInBounds_toArray, List.set_cons_zero, List.set_cons_succ]
              refine s_ready 21 #[true, true, true, true, true, true, true, true, true, true, true, true, true, true, true, true, true, true, true, true, true, true, false, true, true, true, true, true, true, true, true, true, false, false, false] (by simp only [List.getElem?_toArray, List.getElem?_cons_succ, List.getElem?_cons_zero]; rfl) (by kernel_rfl) (by kernel_rfl) (by rfl) (fun K hK => ?_)
              refine op_keys2 _ _ rfl x2 y2 x3 y3 rfl rfl ?_
              simp only [Act.put, List.setIfInBounds_toArray, List.set_cons_zero, List.set_cons_succ]
              refine hK.out _ _ (fun _ => blk_later hHeld.out B2.out) ?_
              clear hK K
              have hHeld := hide (blk_later hHeld.out B2.out)
              refine sk0 (v := ?_) 22 82 #[true, true, true, true, true, true, true, true, true, true, true, true, true, true, true, true, true, true, true, true, true, true, true, true, true, true, true, true, true, true, true, true, false, false, false] rfl rfl (by kernel_rfl) (by kernel_rfl) (by kernel_rfl) (by kernel_rfl) (fun _ _ _ h => h) (by kernel_rfl) (by rfl) ?hy (fun _ => hHeld.out) ?_
              case hy => intro W; first | (go_simp; done) | (go_simp; with_reducible rfl)
              simp only [List.setIfInBounds_toArray, List.set_cons_zero, List.set_cons_succ]
              refine s_ready 32 #[true, true, true, true, true, true, true, true, true, true, true, true, true, true, true, true, true, true, true, true, true, true, true, true, true, true, true, true, true, true, true, true, true, false, false] (by simp only [List.getElem?_toArray, List.getElem?_cons_succ, List.getElem?_cons_zero]; rfl) (by kernel_rfl) (by kernel_rfl) (by rfl) (fun K hK => ?_)
              refine op_ops8 _ _ _ _ _ _ _ _ rfl 0 1 0 0 7 0 0 2 0 0 1 0 0 3 (id : Int) 0 3 (j : Int) 0 5 0 0 6 0 (.slice (some ⟨wr.heap.size, 0, none⟩) 1 1) (.slice none 0 0) (.slice none 0 0) (.slice (some ⟨wr.heap.size + 1, 0, none⟩) 2 2) (.slice none 0 0) (.slice none 0 0) (.slice none 0 0) (.slice none 0 0) rfl rfl rfl rfl rfl rfl rfl rfl ?_
              simp only [Act.put, List.setIfInBounds_toArray, List.set_cons_zero, List.set_cons_succ]
              refine hK.out _ _ (fun _ => blk_later hHeld.out B3.out) ?_
              clear hK K
              have hHeld := hide (blk_later hHeld.out B3.out)
              refine s_ready 33 #[true, true, true, true, true, true, true, true, true, true, true, true, true, true, true, true, true, true, true, true, true, true, true, true, true, true, true, true, true, true, true, true, true, true, false] (by simp only [List.getElem?_toArray, List.getElem?_cons_succ, List.getElem?_cons_zero]; rfl) (by kernel_rfl) (by kernel_rfl) (by rfl) (fun K hK => ?_)
              refine op_append_oq (w0 := w) (gk := gk) _ _ rfl u2 S rfl HM2.out _ _ 8 [⟨0, 1, 0, [(x1, y1)], some ⟨wr.heap.size, 0, none⟩, 1⟩, ⟨0, 7, 0, [], none, 0⟩, ⟨0, 2, 0, [], none, 0⟩, ⟨0, 1, 0, [(x2, y2), (x3, y3)], some ⟨wr.heap.size + 1, 0, none⟩, 2⟩, ⟨0, 3, (id : Int), [], none, 0⟩, ⟨0, 3, (j : Int), [], none, 0⟩, ⟨0, 5, 0, [], none, 0⟩, ⟨0, 6, 0, [], none, 0⟩] rfl rfl _ HG2.out rfl HOK.out HN.out ?_
              intro v' w4 hM4
              have HM4 := hide hM4
              clear hM4
              simp only [Act.put, List.setIfInBounds_toArray, List.set_cons_zero, List.set_cons_succ]
              refine hK.out _ _ (fun _ => HM4.out.kb) ?_
              clear hK K
              have hHeld := hide HM4.out.kb
              refine sk0 (v := ?_) 34 2 #[true, true, true, true, true, true, true, true, true, true, true, true, true, true, true, true, true, true, true, true, true, true, true, true, true, true, true, true, true, true, true, true, true, true, true] rfl rfl (by kernel_rfl) (by kernel_rfl) (by kernel_rfl) (by kernel_rfl) (fun _ _ _ h => h) (by kernel_rfl) (by rfl) ?hy (fun _ => hHeld.out) ?_
              case hy => intro W; first | (go_simp; done) | (go_simp; with_reducible rfl)
              simp only [List.setIfInBounds_toArray, List.set_cons_zero, List.set_cons_succ]
              refine s_done (by kernel_rfl) ?_ _
              have HS4 : Hid (MS w w4 gk v' (S ++ [⟨0, 1, 0, [(x1, y1)], some ⟨wr.heap.size, 0, none⟩, 1⟩, ⟨0, 7, 0, [], none, 0⟩, ⟨0, 2, 0, [], none, 0⟩, ⟨0, 1, 0, [(x2, y2), (x3, y3)], some ⟨wr.heap.size + 1, 0, none⟩, 2⟩, ⟨0, 3, (id : Int), [], none, 0⟩, ⟨0, 3, (j : Int), [], none, 0⟩, ⟨0, 5, 0, [], none, 0⟩, ⟨0, 6, 0, [], none, 0⟩]) ∧ (S ++ ([⟨0, 1, 0, [(x1, y1)], some ⟨wr.heap.size, 0, none⟩, 1⟩, ⟨0, 7, 0, [], none, 0⟩, ⟨0, 2, 0, [], none, 0⟩, ⟨0, 1, 0, [(x2, y2), (x3, y3)], some ⟨wr.heap.size + 1, 0, none⟩, 2⟩, ⟨0, 3, (id : Int), [], none, 0⟩, ⟨0, 3, (j : Int), [], none, 0⟩, ⟨0, 5, 0, [], none, 0⟩, ⟨0, 6, 0, [], none, 0⟩] : List Oq)).length ≤ 28 + 12 * n) := hide ⟨HM4.out, by rw [List.length_append]; exact len_up HL2.out rfl⟩
              generalize S ++ ([⟨0, 1, 0, [(x1, y1)], some ⟨wr.heap.size, 0, none⟩, 1⟩, ⟨0, 7, 0, [], none, 0⟩, ⟨0, 2, 0, [], none, 0⟩, ⟨0, 1, 0, [(x2, y2), (x3, y3)], some ⟨wr.heap.size + 1, 0, none⟩, 2⟩, ⟨0, 3, (id : Int), [], none, 0⟩, ⟨0, 3, (j : Int), [], none, 0⟩, ⟨0, 5, 0, [], none, 0⟩, ⟨0, 6, 0, [], none, 0⟩] : List Oq) = S4 at HS4
              clear hHeld HM4 HN HOK HM2 HG2 KY0 KYb KY1 KY2 B1 B2 B3
              clear hid1 hid2 hj1 hj2 ha1 hb1 hc1 q1 q2 q3 wn2 wsn wm7 hK1 hK2 hK3 ia1 ib1 ia2 ib2 ia3 ib3 hd
              by_cases h3 : r3 = 0
              · have z3 : (n : Int) % 3 = 0 := by rw [ha2, h3]; rfl
                clear ha2 h3
                have B5 : Hid (Below w4.heap.size w4 (w4.alloc (.cells #[.int .i64 0, .int .i64 4, .int .i64 (id : Int), .slice none 0 0, .int .i64 0, .int .i64 1, .int .i64 0, .slice (some ⟨gk, 0, none⟩) 7 7, .int .i64 0, .int .i64 7, .int .i64 0, .slice none 0 0] 26))) := hide (below_al rfl)
                have HM5 : Hid (MS w (w4.alloc (.cells #[.int .i64 0, .int .i64 4, .int .i64 (id : Int), .slice none 0 0, .int .i64 0, .int .i64 1, .int .i64 0, .slice (some ⟨gk, 0, none⟩) 7 7, .int .i64 0, .int .i64 7, .int .i64 0, .slice none 0 0] 26)) gk v' S4) := hide (HS4.out.1.later B5.out)
                have HG5 : Hid ((w4.alloc (.cells #[.int .i64 0, .int .i64 4, .int .i64 (id : Int), .slice none 0 0, .int .i64 0, .int .i64 1, .int .i64 0, .slice (some ⟨gk, 0, none⟩) 7 7, .int .i64 0, .int .i64 7, .int .i64 0, .slice none 0 0] 26)).heap[w4.heap.size]? = some (.cells #[.int .i64 0, .int .i64 4, .int .i64 (id : Int), .slice none 0 0, .int .i64 0, .int .i64 1, .int .i64 0, .slice (some ⟨gk, 0, none⟩) 7 7, .int .i64 0, .int .i64 7, .int .i64 0, .slice none 0 0] 26 (0, 0))) := hide (alloc_new w4 _)
                have HOK5 : Hid (∀ p ∈ ([⟨0, 4, (id : Int), [], none, 0⟩, ⟨0, 1, 0, (K7.drop 0).take 7, some ⟨gk, 0 * 2, none⟩, 7⟩, ⟨0, 7, 0, [], none, 0⟩] : List Oq), KOp (w4.alloc (.cells #[.int .i64 0, .int .i64 4, .int .i64 (id : Int), .slice none 0 0, .int .i64 0, .int .i64 1, .int .i64 0, .slice (some ⟨gk, 0, none⟩) 7 7, .int .i64 0, .int .i64 7, .int .i64 0, .slice none 0 0] 26)) p) := hide (fun p hp => by
                  simp only [List.mem_cons, List.not_mem_nil, or_false] at hp
                  rcases hp with rfl | rfl | rfl
                  · exact KOp.plain HI1.out
                  · exact KOp.sub (HM5.out.kb) (by decide) iok0
                  · exact KOp.plain iok0)
                have HN5 : Hid (S4.length + 3 ≤ 2000) := hide (len_ok HS4.out.2 (Nat.le_of_lt HLT.out) (by decide))
                go_wp2_with (first
                  | (at_builtin; refine wpList_append_oq rfl _ _ rfl _ S4 rfl HM5.out _ _ 3 [⟨0, 4, (id : Int), [], none, 0⟩, ⟨0, 1, 0, (K7.drop 0).take 7, some ⟨gk, 0 * 2, none⟩, 7⟩, ⟨0, 7, 0, [], none, 0⟩] rfl rfl _ HG5.out rfl HOK5.out HN5.out ?_))
                intro v7 w7 hM6
                have HS7 : Hid (MS w w7 gk v7 (S4 ++ [⟨0, 4, (id : Int), [], none, 0⟩, ⟨0, 1, 0, (K7.drop 0).take 7, some ⟨gk, 0 * 2, none⟩, 7⟩, ⟨0, 7, 0, [], none, 0⟩]) ∧ (S4 ++ ([⟨0, 4, (id : Int), [], none, 0⟩, ⟨0, 1, 0, (K7.drop 0).take 7, some ⟨gk, 0 * 2, none⟩, 7⟩, ⟨0, 7, 0, [], none, 0⟩] : List Oq)).length ≤ 31 + 12 * n) := hide ⟨hM6, by rw [List.length_append]; exact len_up HS4.out.2 rfl⟩
                generalize S4 ++ ([⟨0, 4, (id : Int), [], none, 0⟩, ⟨0, 1, 0, (K7.drop 0).take 7, some ⟨gk, 0 * 2, none⟩, 7⟩, ⟨0, 7, 0, [], none, 0⟩] : List Oq) = S7 at HS7
                clear hM6 B5 HM5 HG5 HOK5 HN5
                clear z3
                by_cases h6 : r6 = 0
                · have z6 : (n : Int) % 6 = 0 := by rw [hb2, h6]; rfl
                  have HL7 : Hid (((K7.drop r4).take 7).length = 7 - r4) := hide (by rw [List.length_take, List.length_drop]; have : K7.length = 7 := rfl; omega)
                  have t1 : (0 : Int) ≤ (r4 : Int) := Int.natCast_nonneg _
                  have t2 : (r4 : Int) ≤ 7 := HR4.out.1
                  have t3 : ¬ 7 = r4 := HR4.out.2
                  clear hb2 h6 H64
                  have B5 : Hid (Below w7.heap.size w7 (w7.alloc (.cells #[.int .i64 0, .int .i64 0, .int .i64 (id : Int), .slice (some ⟨gk, r4 * 2, none⟩) (7 - r4) (7 - r4)] 26))) := hide (below_al rfl)
                  have HM5 : Hid (MS w (w7.alloc (.cells #[.int .i64 0, .int .i64 0, .int .i64 (id : Int), .slice (some ⟨gk, r4 * 2, none⟩) (7 - r4) (7 - r4)] 26)) gk v7 S7) := hide (HS7.out.1.later B5.out)
                  have HG5 : Hid ((w7.alloc (.cells #[.int .i64 0, .int .i64 0, .int .i64 (id : Int), .slice (some ⟨gk, r4 * 2, none⟩) (7 - r4) (7 - r4)] 26)).heap[w7.heap.size]? = some (.cells #[.int .i64 0, .int .i64 0, .int .i64 (id : Int), .slice (some ⟨gk, r4 * 2, none⟩) (7 - r4) (7 - r4)] 26 (0, 0))) := hide (alloc_new w7 _)
                  have HOK5 : Hid (∀ p ∈ ([⟨0, 0, (id : Int), (K7.drop r4).take 7, some ⟨gk, r4 * 2, none⟩, 7 - r4⟩] : List Oq), KOp (w7.alloc (.cells #[.int .i64 0, .int .i64 0, .int .i64 (id : Int), .slice (some ⟨gk, r4 * 2, none⟩) (7 - r4) (7 - r4)] 26)) p) := hide (fun p hp => by
                    simp only [List.mem_cons, List.not_mem_nil, or_false] at hp
                    rcases hp with rfl
                    exact KOp.sub (HM5.out.kb) (Nat.le_of_eq HL7.out) HI1.out)
                  have HN5 : Hid (S7.length + 1 ≤ 2000) := hide (len_ok HS7.out.2 (Nat.le_of_lt HLT.out) (by decide))
                  have HA5 : Hid (#[.int .i64 0, .int .i64 0, .int .i64 (id : Int), .slice (some ⟨gk, r4 * 2, none⟩) (7 - r4) (7 - r4)] = (opc ([⟨0, 0, (id : Int), (K7.drop r4).take 7, some ⟨gk, r4 * 2, none⟩, 7 - r4⟩] : List Oq)).toArray) := hide (by simp only [opc, Oq.kv, HL7.out])
                  go_wp2_with (first
                    | (at_builtin; refine wpList_append_oq rfl _ _ rfl _ S7 rfl HM5.out _ _ 1 [⟨0, 0, (id : Int), (K7.drop r4).take 7, some ⟨gk, r4 * 2, none⟩, 7 - r4⟩] rfl rfl _ HG5.out HA5.out HOK5.out HN5.out ?_))
                  intro v8 w8 hM6
                  have HS8 : Hid (MS w w8 gk v8 (S7 ++ [⟨0, 0, (id : Int), (K7.drop r4).take 7, some ⟨gk, r4 * 2, none⟩, 7 - r4⟩]) ∧ (S7 ++ ([⟨0, 0, (id : Int), (K7.drop r4).take 7, some ⟨gk, r4 * 2, none⟩, 7 - r4⟩] : List Oq)).length ≤ 32 + 12 * n) := hide ⟨hM6, by rw [List.length_append]; exact len_up HS7.out.2 rfl⟩
                  generalize S7 ++ ([⟨0, 0, (id : Int), (K7.drop r4).take 7, some ⟨gk, r4 * 2, none⟩, 7 - r4⟩] : List Oq) = S8 at HS8
                  clear hM6 B5 HM5 HG5 HOK5 HN5 HA5

                  go_wp2_with fail
                  go_roundw
                  case rel => exact ⟨n + 1, _, HLT.out, congrArg (Value.int .i64) (by first | exact wk | omega), hide ⟨HS8.out.1, Nat.le_trans HS8.out.2 (by omega)⟩⟩
                  case measure => first | exact meas_upK HLT.out | (rw [wk]; exact meas_upK HLT.out)
                · have d6 : ((r6 : Int) = 0) = False := eq_false (by omega)
                  have d6' : decide ((r6 : Int) = 0) = false := by rw [decide_eq_false_iff_not]; omega
                  go_wp2_with fail
                  go_roundw
                  case rel => exact ⟨n + 1, _, HLT.out, congrArg (Value.int .i64) (by first | exact wk | omega), hide ⟨HS7.out.1, Nat.le_trans HS7.out.2 (by omega)⟩⟩
                  case measure => first | exact meas_upK HLT.out | (rw [wk]; exact meas_upK HLT.out)
              · have d3 : ((r3 : Int) = 0) = False := eq_false (by omega)
                have d3' : decide ((r3 : Int) = 0) = false := by rw [decide_eq_false_iff_not]; omega
                by_cases h6 : r6 = 0
                · exact absurd (H63.out h6) h3
                · have d6 : ((r6 : Int) = 0) = False := eq_false (by omega)
                  have d6' : decide ((r6 : Int) = 0) = false := by rw [decide_eq_false_iff_not]; omega
                  go_wp2_with fail
                  go_roundw
                  case rel => exact ⟨n + 1, _, HLT.out, congrArg (Value.int .i64) (by first | exact wk | omega), hide ⟨HS4.out.1, Nat.le_trans HS4.out.2 (by omega)⟩⟩
                  case measure => first | exact meas_upK HLT.out | (rw [wk]; exact meas_upK HLT.out)
            · skip
              have B1 : Hid (Below wr.drew.heap.size wr.drew (wr.drew.alloc (.cells #[.int .i64 x2, .int .i64 y2, .int .i64 x3, .int .i64 y3] 23))) := hide (below_al rfl)
              have B2 : Hid (Below (wr.drew.alloc (.cells #[.int .i64 x2, .int .i64 y2, .int .i64 x3, .int .i64 y3] 23)).heap.size (wr.drew.alloc (.cells #[.int .i64 x2, .int .i64 y2, .int .i64 x3, .int .i64 y3] 23)) ((wr.drew.alloc (.cells #[.int .i64 x2, .int .i64 y2, .int .i64 x3, .int .i64 y3] 23)).alloc (.cells #[.int .i64 x1, .int .i64 y1] 23))) := hide (below_al rfl)
              have B3 : Hid (Below ((wr.drew.alloc (.cells #[.int .i64 x2, .int .i64 y2, .int .i64 x3, .int .i64 y3] 23)).alloc (.cells #[.int .i64 x1, .int .i64 y1] 23)).heap.size ((wr.drew.alloc (.cells #[.int .i64 x2, .int .i64 y2, .int .i64 x3, .int .i64 y3] 23)).alloc (.cells #[.int .i64 x1, .int .i64 y1] 23)) (((wr.drew.alloc (.cells #[.int .i64 x2, .int .i64 y2, .int .i64 x3, .int .i64 y3] 23)).alloc (.cells #[.int .i64 x1, .int .i64 y1] 23)).alloc (.cells #[.int .i64 0, .int .i64 1, .int .i64 0, .slice (some ⟨wr.heap.size + 1, 0, none⟩) 1 1, .int .i64 0, .int .i64 7, .int .i64 0, .slice none 0 0, .int .i64 0, .int .i64 2, .int .i64 0, .slice none 0 0, .int .i64 0, .int .i64 1, .int .i64 0, .slice (some ⟨wr.heap.size, 0, none⟩) 2 2, .int .i64 0, .int .i64 3, .int .i64 (id : Int), .slice none 0 0, .int .i64 0, .int .i64 3, .int .i64 (j : Int), .slice none 0 0, .int .i64 0, .int .i64 5, .int .i64 0, .slice none 0 0, .int .i64 0, .int .i64 6, .int .i64 0, .slice none 0 0] 26))) := hide (below_al rfl)
              have KY0 : Hid (KeysAt (wr.drew.alloc (.cells #[.int .i64 x2, .int .i64 y2, .int .i64 x3, .int .i64 y3] 23)) (some ⟨wr.heap.size, 0, none⟩) [(x2, y2), (x3, y3)]) := hide (keysAt_new rfl rfl rfl)
              have KY1 : Hid (KeysAt (((wr.drew.alloc (.cells #[.int .i64 x2, .int .i64 y2, .int .i64 x3, .int .i64 y3] 23)).alloc (.cells #[.int .i64 x1, .int .i64 y1] 23)).alloc (.cells #[.int .i64 0, .int .i64 1, .int .i64 0, .slice (some ⟨wr.heap.size + 1, 0, none⟩) 1 1, .int .i64 0, .int .i64 7, .int .i64 0, .slice none 0 0, .int .i64 0, .int .i64 2, .int .i64 0, .slice none 0 0, .int .i64 0, .int .i64 1, .int .i64 0, .slice (some ⟨wr.heap.size, 0, none⟩) 2 2, .int .i64 0, .int .i64 3, .int .i64 (id : Int), .slice none 0 0, .int .i64 0, .int .i64 3, .int .i64 (j : Int), .slice none 0 0, .int .i64 0, .int .i64 5, .int .i64 0, .slice none 0 0, .int .i64 0, .int .i64 6, .int .i64 0, .slice none 0 0] 26)) (some ⟨wr.heap.size, 0, none⟩) [(x2, y2), (x3, y3)]) := hide ((KY0.out.mono (KK.below B2.out)).mono (KK.below B3.out))
              have KYb : Hid (KeysAt ((wr.drew.alloc (.cells #[.int .i64 x2, .int .i64 y2, .int .i64 x3, .int .i64 y3] 23)).alloc (.cells #[.int .i64 x1, .int .i64 y1] 23)) (some ⟨wr.heap.size + 1, 0, none⟩) [(x1, y1)]) := hide (keysAt_new rfl rfl (al_size _ _))
              have KY2 : Hid (KeysAt (((wr.drew.alloc (.cells #[.int .i64 x2, .int .i64 y2, .int .i64 x3, .int .i64 y3] 23)).alloc (.cells #[.int .i64 x1, .int .i64 y1] 23)).alloc (.cells #[.int .i64 0, .int .i64 1, .int .i64 0, .slice (some ⟨wr.heap.size + 1, 0, none⟩) 1 1, .int .i64 0, .int .i64 7, .int .i64 0, .slice none 0 0, .int .i64 0, .int .i64 2, .int .i64 0, .slice none 0 0, .int .i64 0, .int .i64 1, .int .i64 0, .slice (some ⟨wr.heap.size, 0, none⟩) 2 2, .int .i64 0, .int .i64 3, .int .i64 (id : Int), .slice none 0 0, .int .i64 0, .int .i64 3, .int .i64 (j : Int), .slice none 0 0, .int .i64 0, .int .i64 5, .int .i64 0, .slice none 0 0, .int .i64 0, .int .i64 6, .int .i64 0, .slice none 0 0] 26)) (some ⟨wr.heap.size + 1, 0, none⟩) [(x1, y1)]) := hide (KYb.out.mono (KK.below B3.out))
              have HG2 : Hid ((((wr.drew.alloc (.cells #[.int .i64 x2, .int .i64 y2, .int .i64 x3, .int .i64 y3] 23)).alloc (.cells #[.int .i64 x1, .int .i64 y1] 23)).alloc (.cells #[.int .i64 0, .int .i64 1, .int .i64 0, .slice (some ⟨wr.heap.size + 1, 0, none⟩) 1 1, .int .i64 0, .int .i64 7, .int .i64 0, .slice none 0 0, .int .i64 0, .int .i64 2, .int .i64 0, .slice none 0 0, .int .i64 0, .int .i64 1, .int .i64 0, .slice (some ⟨wr.heap.size, 0, none⟩) 2 2, .int .i64 0, .int .i64 3, .int .i64 (id : Int), .slice none 0 0, .int .i64 0, .int .i64 3, .int .i64 (j : Int), .slice none 0 0, .int .i64 0, .int .i64 5, .int .i64 0, .slice none 0 0, .int .i64 0, .int .i64 6, .int .i64 0, .slice none 0 0] 26)).heap[((wr.drew.alloc (.cells #[.int .i64 x2, .int .i64 y2, .int .i64 x3, .int .i64 y3] 23)).alloc (.cells #[.int .i64 x1, .int .i64 y1] 23)).heap.size]? = some (.cells #[.int .i64 0, .int .i64 1, .int .i64 0, .slice (some ⟨wr.heap.size + 1, 0, none⟩) 1 1, .int .i64 0, .int .i64 7, .int .i64 0, .slice none 0 0, .int .i64 0, .int .i64 2, .int .i64 0, .slice none 0 0, .int .i64 0, .int .i64 1, .int .i64 0, .slice (some ⟨wr.heap.size, 0, none⟩) 2 2, .int .i64 0, .int .i64 3, .int .i64 (id : Int), .slice none 0 0, .int .i64 0, .int .i64 3, .int .i64 (j : Int), .slice none 0 0, .int .i64 0, .int .i64 5, .int .i64 0, .slice none 0 0, .int .i64 0, .int .i64 6, .int .i64 0, .slice none 0 0] 26 (0, 0))) := hide (alloc_new ((wr.drew.alloc (.cells #[.int .i64 x2, .int .i64 y2, .int .i64 x3, .int .i64 y3] 23)).alloc (.cells #[.int .i64 x1, .int .i64 y1] 23)) _)
              have HM2 : Hid (MS w (((wr.drew.alloc (.cells #[.int .i64 x2, .int .i64 y2, .int .i64 x3, .int .i64 y3] 23)).alloc (.cells #[.int .i64 x1, .int .i64 y1] 23)).alloc (.cells #[.int .i64 0, .int .i64 1, .int .i64 0, .slice (some ⟨wr.heap.size + 1, 0, none⟩) 1 1, .int .i64 0, .int .i64 7, .int .i64 0, .slice none 0 0, .int .i64 0, .int .i64 2, .int .i64 0, .slice none 0 0, .int .i64 0, .int .i64 1, .int .i64 0, .slice (some ⟨wr.heap.size, 0, none⟩) 2 2, .int .i64 0, .int .i64 3, .int .i64 (id : Int), .slice none 0 0, .int .i64 0, .int .i64 3, .int .i64 (j : Int), .slice none 0 0, .int .i64 0, .int .i64 5, .int .i64 0, .slice none 0 0, .int .i64 0, .int .i64 6, .int .i64 0, .slice none 0 0] 26)) gk u2 S) := hide ((((HP1.out.later B0.out).later B1.out).later B2.out).later B3.out)
              have HOK : Hid (∀ p ∈ ([⟨0, 1, 0, [(x1, y1)], some ⟨wr.heap.size + 1, 0, none⟩, 1⟩, ⟨0, 7, 0, [], none, 0⟩, ⟨0, 2, 0, [], none, 0⟩, ⟨0, 1, 0, [(x2, y2), (x3, y3)], some ⟨wr.heap.size, 0, none⟩, 2⟩, ⟨0, 3, (id : Int), [], none, 0⟩, ⟨0, 3, (j : Int), [], none, 0⟩, ⟨0, 5, 0, [], none, 0⟩, ⟨0, 6, 0, [], none, 0⟩] : List Oq), KOp (((wr.drew.alloc (.cells #[.int .i64 x2, .int .i64 y2, .int .i64 x3, .int .i64 y3] 23)).alloc (.cells #[.int .i64 x1, .int .i64 y1] 23)).alloc (.cells #[.int .i64 0, .int .i64 1, .int .i64 0, .slice (some ⟨wr.heap.size + 1, 0, none⟩) 1 1, .int .i64 0, .int .i64 7, .int .i64 0, .slice none 0 0, .int .i64 0, .int .i64 2, .int .i64 0, .slice none 0 0, .int .i64 0, .int .i64 1, .int .i64 0, .slice (some ⟨wr.heap.size, 0, none⟩) 2 2, .int .i64 0, .int .i64 3, .int .i64 (id : Int), .slice none 0 0, .int .i64 0, .int .i64 3, .int .i64 (j : Int), .slice none 0 0, .int .i64 0, .int .i64 5, .int .i64 0, .slice none 0 0, .int .i64 0, .int .i64 6, .int .i64 0, .slice none 0 0] 26)) p) := hide (fun p hp => by
                simp only [List.mem_cons, List.not_mem_nil, or_false] at hp
                rcases hp with rfl | rfl | rfl | rfl | rfl | rfl | rfl | rfl
                · exact KOp.one KY2.out (Nat.le_refl _) (kok_at hK1) iok0
                · exact KOp.plain iok0
                · exact KOp.plain iok0
                · exact KOp.two KY1.out (Nat.le_refl _) (kok_at hK2) (kok_at hK3) iok0
                · exact KOp.plain HI1.out
                · exact KOp.plain HI2.out
                · exact KOp.plain iok0
                · exact KOp.plain iok0)
              refine op_keys2 _ _ rfl x2 y2 x3 y3 rfl rfl ?_
              simp only [Act.put, List.setIfInBounds_toArray, List.set_cons_zero, List.set_cons_succ]
              refine hK.out _ _ (fun _ => blk_later hHeld.out B1.out) ?_
              clear hK K
              have hHeld := hide (blk_later hHeld.out B1.out)
              refine sk0 (v := ?_) 22 82 #[true, true, true, true, true, true, false, false, true, true, true, true, true, true, true, true, true, true, true, true, true, true, true, true, true, true, true, true, true, true, true, true, false, false, false] rfl rfl (by kernel_rfl) (by kernel_rfl) (by kernel_rfl) (by kernel_rfl) (fun _ _ _ h => h) (by kernel_rfl) (by rfl) ?hy (fun _ => hHeld.out) ?_
              case hy => intro W; first | (go_simp; done) | (go_simp; with_reducible rfl)
              simp only [List.setIfInBounds_toArray, List.set_cons_zero, List.set_cons_succ]
              refine s_ready 6 #[true, true, true, true, true, true, true, false, true, true, true, true, true, true, true, true, true, true, true, true, true, true, true, true, true, true, true, true, true, true, true, true, false, false, false] (by simp only [List.getElem?_toArray, List.getElem?_cons_succ, List.getElem?_cons_zero]; rfl) (by kernel_rfl) (by kernel_rfl) (by rfl) (fun K hK => ?_)
              refine op_keys1 _ rfl x1 y1 rfl ?_
              simp only [Act.put, List.setIfInBounds_toArray, List.set_cons_zero, List.set_cons_succ]
              refine hK.out _ _ (fun _ => blk_later hHeld.out B2.out) ?_
              clear hK K
              have hHeld := hide (blk_later hHeld.out B2.out)
              refine sk0 (v := ?_) 7 67 #[true, true, true, true, true, true, true, true, true, true, true, true, true, true, true, true, true, true, true, true, true, true, true, true, true, true, true, true, true, true, true, true, false, false, false] rfl rfl (by kernel_rfl) (by kernel_rfl) (by kernel_rfl) (by kernel_rfl) (fun _ _ _ h => h) (by kernel_rfl) (by rfl) ?hy (fun _ => hHeld.out) ?_
              case hy => intro W; first | (go_simp; done) | (go_simp; with_reducible rfl)
              simp only [List.setIfInBounds_toArray, List.set_cons_zero, List.set_cons_succ]
              refine s_ready 32 #[true, true, true, true, true, true, true, true, true, true, true, true, true, true, true, true, true, true, true, true, true, true, true, true, true, true, true, true, true, true, true, true, true, false, false] (by simp only [List.getElem?_toArray, List.getElem?_cons_succ, List.getElem?_cons_zero]; rfl) (by kernel_rfl) (by kernel_rfl) (by rfl) (fun K hK => ?_)
              refine op_ops8 _ _ _ _ _ _ _ _ rfl 0 1 0 0 7 0 0 2 0 0 1 0 0 3 (id : Int) 0 3 (j : Int) 0 5 0 0 6 0 (.slice (some ⟨wr.heap.size + 1, 0, none⟩) 1 1) (.slice none 0 0) (.slice none 0 0) (.slice (some ⟨wr.heap.size, 0, none⟩) 2 2) (.slice none 0 0) (.slice none 0 0) (.slice none 0 0) (.slice none 0 0) rfl rfl rfl rfl rfl rfl rfl rfl ?_
              simp only [Act.put, List.setIfInBounds_toArray, List.set_cons_zero, List.set_cons_succ]
              refine hK.out _ _ (fun _ => blk_later hHeld.out B3.out) ?_
              clear hK K
              have hHeld := hide (blk_later hHeld.out B3.out)
              refine s_ready 33 #[true, true, true, true, true, true, true, true, true, true, true, true, true, true, true, true, true, true, true, true, true, true, true, true, true, true, true, true, true, true, true, true, true, true, false] (by simp only [List.getElem?_toArray, List.getElem?_cons_succ, List.getElem?_cons_zero]; rfl) (by kernel_rfl) (by kernel_rfl) (by rfl) (fun K hK => ?_)
              refine op_append_oq (w0 := w) (gk := gk) _ _ rfl u2 S rfl HM2.out _ _ 8 [⟨0, 1, 0, [(x1, y1)], some ⟨wr.heap.size + 1, 0, none⟩, 1⟩, ⟨0, 7, 0, [], none, 0⟩, ⟨0, 2, 0, [], none, 0⟩, ⟨0, 1, 0, [(x2, y2), (x3, y3)], some ⟨wr.heap.size, 0, none⟩, 2⟩, ⟨0, 3, (id : Int), [], none, 0⟩, ⟨0, 3, (j : Int), [], none, 0⟩, ⟨0, 5, 0, [], none, 0⟩, ⟨0, 6, 0, [], none, 0⟩] rfl rfl _ HG2.out rfl HOK.out HN.out ?_
              intro v' w4 hM4
              have HM4 := hide hM4
              clear hM4
              simp only [Act.put, List.setIfInBounds_toArray, List.set_cons_zero, List.set_cons_succ]
              refine hK.out _ _ (fun _ => HM4.out.kb) ?_
              clear hK K
              have hHeld := hide HM4.out.kb
              refine sk0 (v := ?_) 34 2 #[true, true, true, true, true, true, true, true, true, true, true, true, true, true, true, true, true, true, true, true, true, true, true, true, true, true, true, true, true, true, true, true, true, true, true] rfl rfl (by kernel_rfl) (by kernel_rfl) (by kernel_rfl) (by kernel_rfl) (fun _ _ _ h => h) (by kernel_rfl) (by rfl) ?hy (fun _ => hHeld.out) ?_
              case hy => intro W; first | (go_simp; done) | (go_simp; with_reducible rfl)
              simp only [List.setIfInBounds_toArray, List.set_cons_zero, List.set_cons_succ]
              refine s_done (by kernel_rfl) ?_ _
              have HS4 : Hid (MS w w4 gk v' (S ++ [⟨0, 1, 0, [(x1, y1)], some ⟨wr.heap.size + 1, 0, none⟩, 1⟩, ⟨0, 7, 0, [], none, 0⟩, ⟨0, 2, 0, [], none, 0⟩, ⟨0, 1, 0, [(x2, y2), (x3, y3)], some ⟨wr.heap.size, 0, none⟩, 2⟩, ⟨0, 3, (id : Int), [], none, 0⟩, ⟨0, 3, (j : Int), [], none, 0⟩, ⟨0, 5, 0, [], none, 0⟩, ⟨0, 6, 0, [], none, 0⟩]) ∧ (S ++ ([⟨0, 1, 0, [(x1, y1)], some ⟨wr.heap.size + 1, 0, none⟩, 1⟩, ⟨0, 7, 0, [], none, 0⟩, ⟨0, 2, 0, [], none, 0⟩, ⟨0, 1, 0, [(x2, y2), (x3, y3)], some ⟨wr.heap.size, 0, none⟩, 2⟩, ⟨0, 3, (id : Int), [], none, 0⟩, ⟨0, 3, (j : Int), [], none, 0⟩, ⟨0, 5, 0, [], none, 0⟩, ⟨0, 6, 0, [], none, 0⟩] : List Oq)).length ≤ 28 + 12 * n) := hide ⟨HM4.out, by rw [List.length_append]; exact len_up HL2.out rfl⟩
              generalize S ++ ([⟨0, 1, 0, [(x1, y1)], some ⟨wr.heap.size + 1, 0, none⟩, 1⟩, ⟨0, 7, 0, [], none, 0⟩, ⟨0, 2, 0, [], none, 0⟩, ⟨0, 1, 0, [(x2, y2), (x3, y3)], some ⟨wr.heap.size, 0, none⟩, 2⟩, ⟨0, 3, (id : Int), [], none, 0⟩, ⟨0, 3, (j : Int), [], none, 0⟩, ⟨0, 5, 0, [], none, 0⟩, ⟨0, 6, 0, [], none, 0⟩] : List Oq) = S4 at HS4
              clear hHeld HM4 HN HOK HM2 HG2 KY0 KYb KY1 KY2 B1 B2 B3
              clear hid1 hid2 hj1 hj2 ha1 hb1 hc1 q1 q2 q3 wn2 wsn wm7 hK1 hK2 hK3 ia1 ib1 ia2 ib2 ia3 ib3 hd
              by_cases h3 : r3 = 0
              · have z3 : (n : Int) % 3 = 0 := by rw [ha2, h3]; rfl
                clear ha2 h3
                have B5 : Hid (Below w4.heap.size w4 (w4.alloc (.cells #[.int .i64 0, .int .i64 4, .int .i64 (id : Int), .slice none 0 0, .int .i64 0, .int .i64 1, .int .i64 0, .slice (some ⟨gk, 0, none⟩) 7 7, .int .i64 0, .int .i64 7, .int .i64 0, .slice none 0 0] 26))) := hide (below_al rfl)
                have HM5 : Hid (MS w (w4.alloc (.cells #[.int .i64 0, .int .i64 4, .int .i64 (id : Int), .slice none 0 0, .int .i64 0, .int .i64 1, .int .i64 0, .slice (some ⟨gk, 0, none⟩) 7 7, .int .i64 0, .int .i64 7, .int .i64 0, .slice none 0 0] 26)) gk v' S4) := hide (HS4.out.1.later B5.out)
                have HG5 : Hid ((w4.alloc (.cells #[.int .i64 0, .int .i64 4, .int .i64 (id : Int), .slice none 0 0, .int .i64 0, .int .i64 1, .int .i64 0, .slice (some ⟨gk, 0, none⟩) 7 7, .int .i64 0, .int .i64 7, .int .i64 0, .slice none 0 0] 26)).heap[w4.heap.size]? = some (.cells #[.int .i64 0, .int .i64 4, .int .i64 (id : Int), .slice none 0 0, .int .i64 0, .int .i64 1, .int .i64 0, .slice (some ⟨gk, 0, none⟩) 7 7, .int .i64 0, .int .i64 7, .int .i64 0, .slice none 0 0] 26 (0, 0))) := hide (alloc_new w4 _)
                have HOK5 : Hid (∀ p ∈ ([⟨0, 4, (id : Int), [], none, 0⟩, ⟨0, 1, 0, (K7.drop 0).take 7, some ⟨gk, 0 * 2, none⟩, 7⟩, ⟨0, 7, 0, [], none, 0⟩] : List Oq), KOp (w4.alloc (.cells #[.int .i64 0, .int .i64 4, .int .i64 (id : Int), .slice none 0 0, .int .i64 0, .int .i64 1, .int .i64 0, .slice (some ⟨gk, 0, none⟩) 7 7, .int .i64 0, .int .i64 7, .int .i64 0, .slice none 0 0] 26)) p) := hide (fun p hp => by
                  simp only [List.mem_cons, List.not_mem_nil, or_false] at hp
                  rcases hp with rfl | rfl | rfl
                  · exact KOp.plain HI1.out
                  · exact KOp.sub (HM5.out.kb) (by decide) iok0
                  · exact KOp.plain iok0)
                have HN5 : Hid (S4.length + 3 ≤ 2000) := hide (len_ok HS4.out.2 (Nat.le_of_lt HLT.out) (by decide))
                go_wp2_with (first
                  | (at_builtin; refine wpList_append_oq rfl _ _ rfl _ S4 rfl HM5.out _ _ 3 [⟨0, 4, (id : Int), [], none, 0⟩, ⟨0, 1, 0, (K7.drop 0).take 7, some ⟨gk, 0 * 2, none⟩, 7⟩, ⟨0, 7, 0, [], none, 0⟩] rfl rfl _ HG5.out rfl HOK5.out HN5.out ?_))
                intro v7 w7 hM6
                have HS7 : Hid (MS w w7 gk v7 (S4 ++ [⟨0, 4, (id : Int), [], none, 0⟩, ⟨0, 1, 0, (K7.drop 0).take 7, some ⟨gk, 0 * 2, none⟩, 7⟩, ⟨0, 7, 0, [], none, 0⟩]) ∧ (S4 ++ ([⟨0, 4, (id : Int), [], none, 0⟩, ⟨0, 1, 0, (K7.drop 0).take 7, some ⟨gk, 0 * 2, none⟩, 7⟩, ⟨0, 7, 0, [], none, 0⟩] : List Oq)).length ≤ 31 + 12 * n) := hide ⟨hM6, by rw [List.length_append]; exact len_up HS4.out.2 rfl⟩
                generalize S4 ++ ([⟨0, 4, (id : Int), [], none, 0⟩, ⟨0, 1, 0, (K7.drop 0).take 7, some ⟨gk, 0 * 2, none⟩, 7⟩, ⟨0, 7, 0, [], none, 0⟩] : List Oq) = S7 at HS7
                clear hM6 B5 HM5 HG5 HOK5 HN5
                clear z3
                by_cases h6 : r6 = 0
                · have z6 : (n : Int) % 6 = 0 := by rw [hb2, h6]; rfl
                  have HL7 : Hid (((K7.drop r4).take 7).length = 7 - r4) := hide (by rw [List.length_take, List.length_drop]; have : K7.length = 7 := rfl; omega)
                  have t1 : (0 : Int) ≤ (r4 : Int) := Int.natCast_nonneg _
                  have t2 : (r4 : Int) ≤ 7 := HR4.out.1
                  have t3 : ¬ 7 = r4 := HR4.out.2
                  clear hb2 h6 H64
                  have B5 : Hid (Below w7.heap.size w7 (w7.alloc (.cells #[.int .i64 0, .int .i64 0, .int .i64 (id : Int), .slice (some ⟨gk, r4 * 2, none⟩) (7 - r4) (7 - r4)] 26))) := hide (below_al rfl)
                  have HM5 : Hid (MS w (w7.alloc (.cells #[.int .i64 0, .int .i64 0, .int .i64 (id : Int), .slice (some ⟨gk, r4 * 2, none⟩) (7 - r4) (7 - r4)] 26)) gk v7 S7) := hide (HS7.out.1.later B5.out)
                  have HG5 : Hid ((w7.alloc (.cells #[.int .i64 0, .int .i64 0, .int .i64 (id : Int), .slice (some ⟨gk, r4 * 2, none⟩) (7 - r4) (7 - r4)] 26)).heap[w7.heap.size]? = some (.cells #[.int .i64 0, .int .i64 0, .int .i64 (id : Int), .slice (some ⟨gk, r4 * 2, none⟩) (7 - r4) (7 - r4)] 26 (0, 0))) := hide (alloc_new w7 _)
                  have HOK5 : Hid (∀ p ∈ ([⟨0, 0, (id : Int), (K7.drop r4).take 7, some ⟨gk, r4 * 2, none⟩, 7 - r4⟩] : List Oq), KOp (w7.alloc (.cells #[.int .i64 0, .int .i64 0, .int .i64 (id : Int), .slice (some ⟨gk, r4 * 2, none⟩) (7 - r4) (7 - r4)] 26)) p) := hide (fun p hp => by
                    simp only [List.mem_cons, List.not_mem_nil, or_false] at hp
                    rcases hp with rfl
                    exact KOp.sub (HM5.out.kb) (Nat.le_of_eq HL7.out) HI1.out)
                  have HN5 : Hid (S7.length + 1 ≤ 2000) := hide (len_ok HS7.out.2 (Nat.le_of_lt HLT.out) (by decide))
                  have HA5 : Hid (#[.int .i64 0, .int .i64 0, .int .i64 (id : Int), .slice (some ⟨gk, r4 * 2, none⟩) (7 - r4) (7 - r4)] = (opc ([⟨0, 0, (id : Int), (K7.drop r4).take 7, some ⟨gk, r4 * 2, none⟩, 7 - r4⟩] : List Oq)).toArray) := hide (by simp only [opc, Oq.kv, HL7.out])
                  go_wp2_with (first
                    | (at_builtin; refine wpList_append_oq rfl _ _ rfl _ S7 rfl HM5.out _ _ 1 [⟨0, 0, (id : Int), (K7.drop r4).take 7, some ⟨gk, r4 * 2, none⟩, 7 - r4⟩] rfl rfl _ HG5.out HA5.out HOK5.out HN5.out ?_))
                  intro v8 w8 hM6
                  have HS8 : Hid (MS w w8 gk v8 (S7 ++ [⟨0, 0, (id : Int), (K7.drop r4).take 7, some ⟨gk, r4 * 2, none⟩, 7 - r4⟩]) ∧ (S7 ++ ([⟨0, 0, (id : Int), (K7.drop r4).take 7, some ⟨gk, r4 * 2, none⟩, 7 - r4⟩] : List Oq)).length ≤ 32 + 12 * n) := hide ⟨hM6, by rw [List.length_append]; exact len_up HS7.out.2 rfl⟩
                  generalize S7 ++ ([⟨0, 0, (id : Int), (K7.drop r4).take 7, some ⟨gk, r4 * 2, none⟩, 7 - r4⟩] : List Oq) = S8 at HS8
                  clear hM6 B5 HM5 HG5 HOK5 HN5 HA5

                  go_wp2_with fail
                  go_roundw
                  case rel => exact ⟨n + 1, _, HLT.out, congrArg (Value.int .i64) (by first | exact wk | omega), hide ⟨HS8.out.1, Nat.le_trans HS8.out.2 (by omega)⟩⟩
                  case measure => first | exact meas_upK HLT.out | (rw [wk]; exact meas_upK HLT.out)
                · have d6 : ((r6 : Int) = 0) = False := eq_false (by omega)
                  have d6' : decide ((r6 : Int) = 0) = false := by rw [decide_eq_false_iff_not]; omega
                  go_wp2_with fail
                  go_roundw
                  case rel => exact ⟨n + 1, _, HLT.out, congrArg (Value.int .i64) (by first | exact wk | omega), hide ⟨HS7.out.1, Nat.le_trans HS7.out.2 (by omega)⟩⟩
                  case measure => first | exact meas_upK HLT.out | (rw [wk]; exact meas_upK HLT.out)
              · have d3 : ((r3 : Int) = 0) = False := eq_false (by omega)
                have d3' : decide ((r3 : Int) = 0) = false := by rw [decide_eq_false_iff_not]; omega
                by_cases h6 : r6 = 0
                · exact absurd (H63.out h6) h3
                · have d6 : ((r6 : Int) = 0) = False := eq_false (by omega)
                  have d6' : decide ((r6 : Int) = 0) = false := by rw [decide_eq_false_iff_not]; omega
                  go_wp2_with fail
                  go_roundw
                  case rel => exact ⟨n + 1, _, HLT.out, congrArg (Value.int .i64) (by first | exact wk | omega), hide ⟨HS4.out.1, Nat.le_trans HS4.out.2 (by omega)⟩⟩
                  case measure => first | exact meas_upK HLT.out | (rw [wk]; exact meas_upK HLT.out)
        · obtain rfl : n = 60 := by omega
          have HM1 : Hid (MS w wr gk u2 S ∧ S.length ≤ 740) := hide ⟨HP.out.1, Nat.le_trans HP.out.2 (by decide)⟩
          clear HP hlt hk
          go_wp2_with fail
          rw [show ((60 : Nat) : Int) = 60 from rfl]
          generalize wr = W5 at *
          have HMG : Hid (MS W5 W5 gk (.slice none 0 0) []) := hide ⟨GO.nil _ _, Below.refl _ _, HM1.out.1.kb⟩
          go_loopw [6, 7] (fun l i wr => ∃ (n : Nat) (S : List Oq), n ≤ 8 ∧ i = .int .i64 (n : Int) ∧ Hid (MS W5 wr gk l S ∧ S.length ≤ 0 + 16 * n)) (fun _ i _ => 8 - (intOf i).toNat)
          case atStart => exact ⟨0, [], by omega, rfl, hide ⟨HMG.out, Nat.zero_le _⟩⟩
          case round =>
            clear HMG
            obtain ⟨n, SG, hk, rfl, HP⟩ := hrel
            by_cases hlt : n < 8
            · skip
              have hd : decide ((n : Int) < 8) = true := by rw [decide_eq_true_eq]; omega
              obtain ⟨i1, x1, y1, q1, ia1, ib1, hK1⟩ := idx7 n
              obtain ⟨n2, hn2⟩ : ∃ n2 : Nat, n2 = n + 2 := ⟨_, rfl⟩
              have wn2 : IntKind.i64.wrap ((n : Int) + 2) = (n2 : Int) := by rw [hn2]; exact (wr1 n (le_mil hlt (by decide)) 2 (by decide)).1
              obtain ⟨i2, x2, y2, q2, ia2, ib2, hK2⟩ := idx7 n2
              obtain ⟨n3, hn3⟩ : ∃ n3 : Nat, n3 = n + 3 := ⟨_, rfl⟩
              have wn3 : IntKind.i64.wrap ((n : Int) + 3) = (n3 : Int) := by rw [hn3]; exact (wr1 n (le_mil hlt (by decide)) 3 (by decide)).1
              obtain ⟨i3, x3, y3, q3, ia3, ib3, hK3⟩ := idx7 n3
              obtain ⟨n4, hn4⟩ : ∃ n4 : Nat, n4 = n + 5 := ⟨_, rfl⟩
              have wn4 : IntKind.i64.wrap ((n : Int) + 5) = (n4 : Int) := by rw [hn4]; exact (wr1 n (le_mil hlt (by decide)) 5 (by decide)).1
              obtain ⟨i4, x4, y4, q4, ia4, ib4, hK4⟩ := idx7 n4
              obtain ⟨n5, hn5⟩ : ∃ n5 : Nat, n5 = n + 6 := ⟨_, rfl⟩
              have wn5 : IntKind.i64.wrap ((n : Int) + 6) = (n5 : Int) := by rw [hn5]; exact (wr1 n (le_mil hlt (by decide)) 6 (by decide)).1
              obtain ⟨i5, x5, y5, q5, ia5, ib5, hK5⟩ := idx7 n5

              have HI1 : Hid (IOK (n : Int)) := hide (iok_sm (le_mil hlt (by decide)))
              have HP1 : Hid (MS W5 wr gk u6 SG) := hide HP.out.1
              have HL2 : Hid (SG.length ≤ 0 + 16 * n) := hide HP.out.2
              have B0 : Hid (Below wr.heap.size wr wr.drew) := hide (Below.refl _ _).drew
              have B1 : Hid (Below wr.drew.heap.size wr.drew (wr.drew.alloc (.cells #[.int .i64 x1, .int .i64 y1, .int .i64 x2, .int .i64 y2, .int .i64 x3, .int .i64 y3, .int .i64 x4, .int .i64 y4, .int .i64 x5, .int .i64 y5] 23))) := hide (below_al rfl)
              have hHeld : Hid (wr.drew.heap[gk]? = some (.cells (KY.mc K7).toArray 23 (0, 0))) := hide (blk_later HP.out.1.kb B0.out)
              have HKA : Hid (KeysAt (wr.drew.alloc (.cells #[.int .i64 x1, .int .i64 y1, .int .i64 x2, .int .i64 y2, .int .i64 x3, .int .i64 y3, .int .i64 x4, .int .i64 y4, .int .i64 x5, .int .i64 y5] 23)) (some ⟨wr.heap.size, 0, none⟩) [(x1, y1), (x2, y2), (x3, y3), (x4, y4), (x5, y5)]) := hide (keysAt_new rfl rfl rfl)
              have HM1 : Hid (MS W5 (wr.drew.alloc (.cells #[.int .i64 x1, .int .i64 y1, .int .i64 x2, .int .i64 y2, .int .i64 x3, .int .i64 y3, .int .i64 x4, .int .i64 y4, .int .i64 x5, .int .i64 y5] 23)) gk u6 SG) := hide ((HP.out.1.later B0.out).later B1.out)
              have HLT := hide hlt
              have HK5 : Hid (∀ q ∈ [(x1, y1), (x2, y2), (x3, y3), (x4, y4), (x5, y5)], KOK q) := hide (fun q hq => by
                simp only [List.mem_cons, List.not_mem_nil, or_false] at hq
                rcases hq with rfl | rfl | rfl | rfl | rfl
                · exact kok_at hK1
                · exact kok_at hK2
                · exact kok_at hK3
                · exact kok_at hK4
                · exact kok_at hK5)
              have wk : wrap64 ((n : Int) + 1) = ((n + 1 : Nat) : Int) := (wr1 n (le_mil hlt (by decide)) 1 (by decide)).2
              clear hn2 hn3 hn4 hn5 HP hlt hk
              · go_upto_region 20 with fail
                refine s_begins (S := fun W => W.heap[gk]? = some (.cells (KY.mc K7).toArray 23 (0, 0))) [] 31 #[false, false, false, false, false, false, false, false, false, false, false, false, false, false, false, false, false, false, false, false, false, false, false, false, false, false, false, false, false, false, false] (by kernel_rfl) (by kernel_rfl) (by kernel_rfl) ?_
                refine sk0 (v := ?_) 0 121 #[true, false, false, false, false, false, false, false, false, false, false, false, false, false, false, false, false, false, false, false, false, false, false, false, false, false, false, false, false, false, false] rfl rfl (by kernel_rfl) (by kernel_rfl) (by kernel_rfl) (by kernel_rfl) (fun _ _ _ h => h) (by kernel_rfl) (by rfl) ?hy (fun _ => hHeld.out) ?_
                case hy => intro W; first | (go_simp; done) | (go_simp; with_reducible rfl)
                simp only [List.setIfInBounds_toArray, List.set_cons_zero, List.set_cons_succ]
                refine sk0 (v := ?_) 1 122 #[true, true, false, false, false, false, false, false, false, false, false, false, false, false, false, false, false, false, false, false, false, false, false, false, false, false, false, false, false, false, false] rfl rfl (by kernel_rfl) (by kernel_rfl) (by kernel_rfl) (by kernel_rfl) (fun _ _ _ h => h) (by kernel_rfl) (by rfl) ?hy (fun _ => hHeld.out) ?_
                case hy => intro W; first | (go_simp; done) | (go_simp; with_reducible rfl)
                simp only [List.setIfInBounds_toArray, List.set_cons_zero, List.set_cons_succ]
                refine sk0 (v := ?_) 2 123 #[true, true, true, false, false, false, false, false, false, false, false, false, false, false, false, false, false, false, false, false, false, false, false, false, false, false, false, false, false, false, false] rfl rfl (by kernel_rfl) (by kernel_rfl) (by kernel_rfl) (by kernel_rfl) (fun _ _ _ h => h) (by kernel_rfl) (by rfl) ?hy (fun _ => hHeld.out) ?_
                case hy => intro W; first | (go_simp; done) | (go_simp; with_reducible rfl)
                simp only [List.setIfInBounds_toArray, List.set_cons_zero, List.set_cons_succ]
                refine sk0 (v := ?_) 3 124 #[true, true, true, true, false, false, false, false, false, false, false, false, false, false, false, false, false, false, false, false, false, false, false, false, false, false, false, false, false, false, false] rfl rfl (by kernel_rfl) (by kernel_rfl) (by kernel_rfl) (by kernel_rfl) (fun _ _ _ h => h) (by kernel_rfl) (by rfl) ?hy (fun _ => hHeld.out) ?_
                case hy => intro W; first | (go_simp; done) | (go_simp; with_reducible rfl)
                simp only [List.setIfInBounds_toArray, List.set_cons_zero, List.set_cons_succ]
                refine sk1 (v := ?_) 4 125 #[true, true, true, true, true, false, false, false, false, false, false, false, false, false, false, false, false, false, false, false, false, false, false, false, false, false, false, false, false, false, false] rfl rfl (by kernel_rfl) (by kernel_rfl) (by kernel_rfl) (by kernel_rfl) (by kernel_rfl) (by kernel_rfl) (fun _ _ _ h => h) (by kernel_rfl) (by rfl) ?hy hHeld.out ?_
                case hy => rintro W e0; obtain ⟨c0, c1⟩ := kcell e0 hK1; first | (go_simp; done) | (go_simp; with_reducible rfl)
                simp only [List.setIfInBounds_toArray, List.set_cons_zero, List.set_cons_succ]
                refine sk0 (v := ?_) 5 126 #[true, true, true, true, true, true, false, false, false, false, false, false, false, false, false, false, false, false, false, false, false, false, false, false, false, false, false, false, false, false, false] rfl rfl (by kernel_rfl) (by kernel_rfl) (by kernel_rfl) (by kernel_rfl) (fun _ _ _ h => h) (by kernel_rfl) (by rfl) ?hy (fun _ => hHeld.out) ?_
                case hy => intro W; first | (go_simp; done) | (go_simp; with_reducible rfl)
                simp only [List.setIfInBounds_toArray, List.set_cons_zero, List.set_cons_succ]
                refine sk0 (v := ?_) 6 127 #[true, true, true, true, true, true, true, false, false, false, false, false, false, false, false, false, false, false, false, false, false, false, false, false, false, false, false, false, false, false, false] rfl rfl (by kernel_rfl) (by kernel_rfl) (by kernel_rfl) (by kernel_rfl) (fun _ _ _ h => h) (by kernel_rfl) (by rfl) ?hy (fun _ => hHeld.out) ?_
                case hy => intro W; first | (go_simp; done) | (go_simp; with_reducible rfl)
                simp only [List.setIfInBounds_toArray, List.set_cons_zero, List.set_cons_succ]
                refine sk0 (v := ?_) 7 128 #[true, true, true, true, true, true, true, true, false, false, false, false, false, false, false, false, false, false, false, false, false, false, false, false, false, false, false, false, false, false, false] rfl rfl (by kernel_rfl) (by kernel_rfl) (by kernel_rfl) (by kernel_rfl) (fun _ _ _ h => h) (by kernel_rfl) (by rfl) ?hy (fun _ => hHeld.out) ?_
                case hy => intro W; first | (go_simp; done) | (go_simp; with_reducible rfl)
                simp only [List.setIfInBounds_toArray, List.set_cons_zero, List.set_cons_succ]
                refine sk0 (v := ?_) 8 129 #[true, true, true, true, true, true, true, true, true, false, false, false, false, false, false, false, false, false, false, false, false, false, false, false, false, false, false, false, false, false, false] rfl rfl (by kernel_rfl) (by kernel_rfl) (by kernel_rfl) (by kernel_rfl) (fun _ _ _ h => h) (by kernel_rfl) (by rfl) ?hy (fun _ => hHeld.out) ?_
                case hy => intro W; first | (go_simp; done) | (go_simp; with_reducible rfl)
                simp only [List.setIfInBounds_toArray, List.set_cons_zero, List.set_cons_succ]
                refine sk0 (v := ?_) 9 130 #[true, true, true, true, true, true, true, true, true, true, false, false, false, false, false, false, false, false, false, false, false, false, false, false, false, false, false, false, false, false, false] rfl rfl (by kernel_rfl) (by kernel_rfl) (by kernel_rfl) (by kernel_rfl) (fun _ _ _ h => h) (by kernel_rfl) (by rfl) ?hy (fun _ => hHeld.out) ?_
                case hy => intro W; first | (go_simp; done) | (go_simp; with_reducible rfl)
                simp only [List.setIfInBounds_toArray, List.set_cons_zero, List.set_cons_succ]
                refine sk1 (v := ?_) 10 131 #[true, true, true, true, true, true, true, true, true, true, true, false, false, false, false, false, false, false, false, false, false, false, false, false, false, false, false, false, false, false, false] rfl rfl (by kernel_rfl) (by kernel_rfl) (by kernel_rfl) (by kernel_rfl) (by kernel_rfl) (by kernel_rfl) (fun _ _ _ h => h) (by kernel_rfl) (by rfl) ?hy hHeld.out ?_
                case hy => rintro W e0; obtain ⟨c0, c1⟩ := kcell e0 hK2; first | (go_simp; done) | (go_simp; with_reducible rfl)
                simp only [List.setIfInBounds_toArray, List.set_cons_zero, List.set_cons_succ]
                refine sk0 (v := ?_) 11 132 #[true, true, true, true, true, true, true, true, true, true, true, true, false, false, false, false, false, false, false, false, false, false, false, false, false, false, false, false, false, false, false] rfl rfl (by kernel_rfl) (by kernel_rfl) (by kernel_rfl) (by kernel_rfl) (fun _ _ _ h => h) (by kernel_rfl) (by rfl) ?hy (fun _ => hHeld.out) ?_
                case hy => intro W; first | (go_simp; done) | (go_simp; with_reducible rfl)
                simp only [List.setIfInBounds_toArray, List.set_cons_zero, List.set_cons_succ]
                refine sk0 (v := ?_) 12 133 #[true, true, true, true, true, true, true, true, true, true, true, true, true, false, false, false, false, false, false, false, false, false, false, false, false, false, false, false, false, false, false] rfl rfl (by kernel_rfl) (by kernel_rfl) (by kernel_rfl) (by kernel_rfl) (fun _ _ _ h => h) (by kernel_rfl) (by rfl) ?hy (fun _ => hHeld.out) ?_
                case hy => intro W; first | (go_simp; done) | (go_simp; with_reducible rfl)
                simp only [List.setIfInBounds_toArray, List.set_cons_zero, List.set_cons_succ]
                refine sk0 (v := ?_) 13 134 #[true, true, true, true, true, true, true, true, true, true, true, true, true, true, false, false, false, false, false, false, false, false, false, false, false, false, false, false, false, false, false] rfl rfl (by kernel_rfl) (by kernel_rfl) (by kernel_rfl) (by kernel_rfl) (fun _ _ _ h => h) (by kernel_rfl) (by rfl) ?hy (fun _ => hHeld.out) ?_
                case hy => intro W; first | (go_simp; done) | (go_simp; with_reducible rfl)
                simp only [List.setIfInBounds_toArray, List.set_cons_zero, List.set_cons_succ]
                refine sk0 (v := ?_) 14 135 #[true, true, true, true, true, true, true, true, true, true, true, true, true, true, true, false, false, false, false, false, false, false, false, false, false, false, false, false, false, false, false] rfl rfl (by kernel_rfl) (by kernel_rfl) (by kernel_rfl) (by kernel_rfl) (fun _ _ _ h => h) (by kernel_rfl) (by rfl) ?hy (fun _ => hHeld.out) ?_
                case hy => intro W; first | (go_simp; done) | (go_simp; with_reducible rfl)
                simp only [List.setIfInBounds_toArray, List.set_cons_zero, List.set_cons_succ]
                refine sk0 (v := ?_) 15 136 #[true, true, true, true, true, true, true, true, true, true, true, true, true, true, true, true, false, false, false, false, false, false, false, false, false, false, false, false, false, false, false] rfl rfl (by kernel_rfl) (by kernel_rfl) (by kernel_rfl) (by kernel_rfl) (fun _ _ _ h => h) (by kernel_rfl) (by rfl) ?hy (fun _ => hHeld.out) ?_
                case hy => intro W; first | (go_simp; done) | (go_simp; with_reducible rfl)
                simp only [List.setIfInBounds_toArray, List.set_cons_zero, List.set_cons_succ]
                refine sk1 (v := ?_) 16 137 #[true, true, true, true, true, true, true, true, true, true, true, true, true, true, true, true, true, false, false, false, false, false, false, false, false, false, false, false, false, false, false] rfl rfl (by kernel_rfl) (by kernel_rfl) (by kernel_rfl) (by kernel_rfl) (by kernel_rfl) (by kernel_rfl) (fun _ _ _ h => h) (by kernel_rfl) (by rfl) ?hy hHeld.out ?_
                case hy => rintro W e0; obtain ⟨c0, c1⟩ := kcell e0 hK3; first | (go_simp; done) | (go_simp; with_reducible rfl)
                simp only [List.setIfInBounds_toArray, List.set_cons_zero, List.set_cons_succ]
                refine sk0 (v := ?_) 17 138 #[true, true, true, true, true, true, true, true, true, true, true, true, true, true, true, true, true, true, false, false, false, false, false, false, false, false, false, false, false, false, false] rfl rfl (by kernel_rfl) (by kernel_rfl) (by kernel_rfl) (by kernel_rfl) (fun _ _ _ h => h) (by kernel_rfl) (by rfl) ?hy (fun _ => hHeld.out) ?_
                case hy => intro W; first | (go_simp; done) | (go_simp; with_reducible rfl)
                simp only [List.setIfInBounds_toArray, List.set_cons_zero, List.set_cons_succ]
                refine sk0 (v := ?_) 18 139 #[true, true, true, true, true, true, true, true, true, true, true, true, true, true, true, true, true, true, true, false, false, false, false, false, false, false, false, false, false, false, false] rfl rfl (by kernel_rfl) (by kernel_rfl) (by kernel_rfl) (by kernel_rfl) (fun _ _ _ h => h) (by kernel_rfl) (by rfl) ?hy (fun _ => hHeld.out) ?_
                case hy => intro W; first | (go_simp; done) | (go_simp; with_reducible rfl)
                simp only [List.setIfInBounds_toArray, List.set_cons_zero, List.set_cons_succ]
                refine sk0 (v := ?_) 19 140 #[true, true, true, true, true, true, true, true, true, true, true, true, true, true, true, true, true, true, true, true, false, false, false, false, false, false, false, false, false, false, false] rfl rfl (by kernel_rfl) (by kernel_rfl) (by kernel_rfl) (by kernel_rfl) (fun _ _ _ h => h) (by kernel_rfl) (by rfl) ?hy (fun _ => hHeld.out) ?_
                case hy => intro W; first | (go_simp; done) | (go_simp; with_reducible rfl)
                simp only [List.setIfInBounds_toArray, List.set_cons_zero, List.set_cons_succ]
                refine sk0 (v := ?_) 20 141 #[true, true, true, true, true, true, true, true, true, true, true, true, true, true, true, true, true, true, true, true, true, false, false, false, false, false, false, false, false, false, false] rfl rfl (by kernel_rfl) (by kernel_rfl) (by kernel_rfl) (by kernel_rfl) (fun _ _ _ h => h) (by kernel_rfl) (by rfl) ?hy (fun _ => hHeld.out) ?_
                case hy => intro W; first | (go_simp; done) | (go_simp; with_reducible rfl)
                simp only [List.setIfInBounds_toArray, List.set_cons_zero, List.set_cons_succ]
                refine sk0 (v := ?_) 21 142 #[true, true, true, true, true, true, true, true, true, true, true, true, true, true, true, true, true, true, true, true, true, true, false, false, false, false, false, false, false, false, false] rfl rfl (by kernel_rfl) (by kernel_rfl) (by kernel_rfl) (by kernel_rfl) (fun _ _ _ h => h) (by kernel_rfl) (by rfl) ?hy (fun _ => hHeld.out) ?_
                case hy => intro W; first | (go_simp; done) | (go_simp; with_reducible rfl)
                simp only [List.setIfInBounds_toArray, List.set_cons_zero, List.set_cons_succ]
                refine sk1 (v := ?_) 22 143 #[true, true, true, true, true, true, true, true, true, true, true, true, true, true, true, true, true, true, true, true, true, true, true, false, false, false, false, false, false, false, false] rfl rfl (by kernel_rfl) (by kernel_rfl) (by kernel_rfl) (by kernel_rfl) (by kernel_rfl) (by kernel_rfl) (fun _ _ _ h => h) (by kernel_rfl) (by rfl) ?hy hHeld.out ?_
                case hy => rintro W e0; obtain ⟨c0, c1⟩ := kcell e0 hK4; first | (go_simp; done) | (go_simp; with_reducible rfl)
                simp only [List.setIfInBounds_toArray, List.set_cons_zero, List.set_cons_succ]
                refine sk0 (v := ?_) 23 144 #[true, true, true, true, true, true, true, true, true, true, true, true, true, true, true, true, true, true, true, true, true, true, true, true, false, false, false, false, false, false, false] rfl rfl (by kernel_rfl) (by kernel_rfl) (by kernel_rfl) (by kernel_rfl) (fun _ _ _ h => h) (by kernel_rfl) (by rfl) ?hy (fun _ => hHeld.out) ?_
                case hy => intro W; first | (go_simp; done) | (go_simp; with_reducible rfl)
                simp only [List.setIfInBounds_toArray, List.set_cons_zero, List.set_cons_succ]
                refine sk0 (v := ?_) 24 145 #[true, true, true, true, true, true, true, true, true, true, true, true, true, true, true, true, true, true, true, true, true, true, true, true, true, false, false, false, false, false, false] rfl rfl (by kernel_rfl) (by kernel_rfl) (by kernel_rfl) (by kernel_rfl) (fun _ _ _ h => h) (by kernel_rfl) (by rfl) ?hy (fun _ => hHeld.out) ?_
                case hy => intro W; first | (go_simp; done) | (go_simp; with_reducible rfl)
                simp only [List.setIfInBounds_toArray, List.set_cons_zero, List.set_cons_succ]
                refine sk0 (v := ?_) 25 146 #[true, true, true, true, true, true, true, true, true, true, true, true, true, true, true, true, true, true, true, true, true, true, true, true, true, true, false, false, false, false, false] rfl rfl (by kernel_rfl) (by kernel_rfl) (by kernel_rfl) (by kernel_rfl) (fun _ _ _ h => h) (by kernel_rfl) (by rfl) ?hy (fun _ => hHeld.out) ?_
                case hy => intro W; first | (go_simp; done) | (go_simp; with_reducible rfl)
                simp only [List.setIfInBounds_toArray, List.set_cons_zero, List.set_cons_succ]
                refine sk0 (v := ?_) 26 147 #[true, true, true, true, true, true, true, true, true, true, true, true, true, true, true, true, true, true, true, true, true, true, true, true, true, true, true, false, false, false, false] rfl rfl (by kernel_rfl) (by kernel_rfl) (by kernel_rfl) (by kernel_rfl) (fun _ _ _ h => h) (by kernel_rfl) (by rfl) ?hy (fun _ => hHeld.out) ?_
                case hy => intro W; first | (go_simp; done) | (go_simp; with_reducible rfl)
                simp only [List.setIfInBounds_toArray, List.set_cons_zero, List.set_cons_succ]
                refine sk0 (v := ?_) 27 148 #[true, true, true, true, true, true, true, true, true, true, true, true, true, true, true, true, true, true, true, true, true, true, true, true, true, true, true, true, false, false, false] rfl rfl (by kernel_rfl) (by kernel_rfl) (by kernel_rfl) (by kernel_rfl) (fun _ _ _ h => h) (by kernel_rfl) (by rfl) ?hy (fun _ => hHeld.out) ?_
                case hy => intro W; first | (go_simp; done) | (go_simp; with_reducible rfl)
                simp only [List.setIfInBounds_toArray, List.set_cons_zero, List.set_cons_succ]
                refine sk1 (v := ?_) 28 149 #[true, true, true, true, true, true, true, true, true, true, true, true, true, true, true, true, true, true, true, true, true, true, true, true, true, true, true, true, true, false, false] rfl rfl (by kernel_rfl) (by kernel_rfl) (by kernel_rfl) (by kernel_rfl) (by kernel_rfl) (by kernel_rfl) (fun _ _ _ h => h) (by kernel_rfl) (by rfl) ?hy hHeld.out ?_
                case hy => rintro W e0; obtain ⟨c0, c1⟩ := kcell e0 hK5; first | (go_simp; done) | (go_simp; with_reducible rfl)
                simp only [List.setIfInBounds_toArray, List.set_cons_zero, List.set_cons_succ]
                refine s_ready 29 #[true, true, true, true, true, true, true, true, true, true, true, true, true, true, true, true, true, true, true, true, true, true, true, true, true, true, true, true, true, true, false] (by simp only [List.getElem?_toArray, List.getElem?_cons_succ, List.getElem?_cons_zero]; rfl) (by kernel_rfl) (by kernel_rfl) (by rfl) (fun K hK => ?_)
                refine op_keys5 _ _ _ _ _ rfl x1 y1 x2 y2 x3 y3 x4 y4 x5 y5 rfl rfl rfl rfl rfl ?_
                simp only [Act.put, List.setIfInBounds_toArray, List.set_cons_zero, List.set_cons_succ]
                refine hK.out _ _ (fun _ => blk_later hHeld.out B1.out) ?_
                clear hK K
                have hHeld := hide (blk_later hHeld.out B1.out)
                refine sk0 (v := ?_) 30 8 #[true, true, true, true, true, true, true, true, true, true, true, true, true, true, true, true, true, true, true, true, true, true, true, true, true, true, true, true, true, true, true] rfl rfl (by kernel_rfl) (by kernel_rfl) (by kernel_rfl) (by kernel_rfl) (fun _ _ _ h => h) (by kernel_rfl) (by rfl) ?hy (fun _ => hHeld.out) ?_
                case hy => intro W; first | (go_simp; done) | (go_simp; with_reducible rfl)
                simp only [List.setIfInBounds_toArray, List.set_cons_zero, List.set_cons_succ]
                refine s_done (by kernel_rfl) ?_ _
                have HW : Hid (KeysAt (wr.drew.alloc (.cells #[.int .i64 x1, .int .i64 y1, .int .i64 x2, .int .i64 y2, .int .i64 x3, .int .i64 y3, .int .i64 x4, .int .i64 y4, .int .i64 x5, .int .i64 y5] 23)) (some ⟨wr.heap.size, 0, none⟩) [(x1, y1), (x2, y2), (x3, y3), (x4, y4), (x5, y5)] ∧ MS W5 (wr.drew.alloc (.cells #[.int .i64 x1, .int .i64 y1, .int .i64 x2, .int .i64 y2, .int .i64 x3, .int .i64 y3, .int .i64 x4, .int .i64 y4, .int .i64 x5, .int .i64 y5] 23)) gk u6 SG) := hide ⟨HKA.out, HM1.out⟩
                generalize (wr.drew.alloc (.cells #[.int .i64 x1, .int .i64 y1, .int .i64 x2, .int .i64 y2, .int .i64 x3, .int .i64 y3, .int .i64 x4, .int .i64 y4, .int .i64 x5, .int .i64 y5] 23)) = W2 at HW ⊢
                generalize wr.heap.size = gw at HW ⊢
                clear HKA HM1 hHeld B1 B0 HP1

                have B5 : Hid (Below W2.heap.size W2 (W2.alloc (.cells #[.int .i64 0, .int .i64 0, .int .i64 (n : Int), .slice (some ⟨gw, 0, none⟩) 5 5, .int .i64 0, .int .i64 4, .int .i64 (n : Int), .slice none 0 0] 26))) := hide (below_al rfl)
                have HM5 : Hid (MS W5 (W2.alloc (.cells #[.int .i64 0, .int .i64 0, .int .i64 (n : Int), .slice (some ⟨gw, 0, none⟩) 5 5, .int .i64 0, .int .i64 4, .int .i64 (n : Int), .slice none 0 0] 26)) gk u6 SG) := hide (HW.out.2.later B5.out)
                have HG5 : Hid ((W2.alloc (.cells #[.int .i64 0, .int .i64 0, .int .i64 (n : Int), .slice (some ⟨gw, 0, none⟩) 5 5, .int .i64 0, .int .i64 4, .int .i64 (n : Int), .slice none 0 0] 26)).heap[W2.heap.size]? = some (.cells #[.int .i64 0, .int .i64 0, .int .i64 (n : Int), .slice (some ⟨gw, 0, none⟩) 5 5, .int .i64 0, .int .i64 4, .int .i64 (n : Int), .slice none 0 0] 26 (0, 0))) := hide (alloc_new W2 _)
                have HOK5 : Hid (∀ p ∈ ([⟨0, 0, (n : Int), [(x1, y1), (x2, y2), (x3, y3), (x4, y4), (x5, y5)], some ⟨gw, 0, none⟩, 5⟩, ⟨0, 4, (n : Int), [], none, 0⟩] : List Oq), KOp (W2.alloc (.cells #[.int .i64 0, .int .i64 0, .int .i64 (n : Int), .slice (some ⟨gw, 0, none⟩) 5 5, .int .i64 0, .int .i64 4, .int .i64 (n : Int), .slice none 0 0] 26)) p) := hide (fun p hp => by
                  simp only [List.mem_cons, List.not_mem_nil, or_false] at hp
                  rcases hp with rfl | rfl
                  · exact ⟨HW.out.1.mono (KK.below B5.out), Nat.le_refl 5, show 5 ≤ 10 by decide, HK5.out, HI1.out⟩
                  · exact KOp.plain HI1.out)
                have HN5 : Hid (SG.length + 2 ≤ 2000) := hide (len_ok HL2.out (Nat.le_of_lt HLT.out) (by decide))
                go_wp2_with (first
                  | (at_builtin; refine wpList_append_oq rfl _ _ rfl _ SG rfl HM5.out _ _ 2 [⟨0, 0, (n : Int), [(x1, y1), (x2, y2), (x3, y3), (x4, y4), (x5, y5)], some ⟨gw, 0, none⟩, 5⟩, ⟨0, 4, (n : Int), [], none, 0⟩] rfl rfl _ HG5.out rfl HOK5.out HN5.out ?_))
                intro v7 w7 hM6
                have HS7 : Hid (MS W5 w7 gk v7 (SG ++ [⟨0, 0, (n : Int), [(x1, y1), (x2, y2), (x3, y3), (x4, y4), (x5, y5)], some ⟨gw, 0, none⟩, 5⟩, ⟨0, 4, (n : Int), [], none, 0⟩]) ∧ (SG ++ ([⟨0, 0, (n : Int), [(x1, y1), (x2, y2), (x3, y3), (x4, y4), (x5, y5)], some ⟨gw, 0, none⟩, 5⟩, ⟨0, 4, (n : Int), [], none, 0⟩] : List Oq)).length ≤ 2 + 16 * n) := hide ⟨hM6, by rw [List.length_append]; exact len_up HL2.out rfl⟩
                generalize SG ++ ([⟨0, 0, (n : Int), [(x1, y1), (x2, y2), (x3, y3), (x4, y4), (x5, y5)], some ⟨gw, 0, none⟩, 5⟩, ⟨0, 4, (n : Int), [], none, 0⟩] : List Oq) = S7 at HS7
                clear hM6 B5 HM5 HG5 HOK5 HN5
                clear q1 q2 q3 q4 q5 wn2 wn3 wn4 wn5 hK1 hK2 hK3 hK4 hK5 ia1 ib1 ia2 ib2 ia3 ib3 ia4 ib4 ia5 ib5 hd HK5 HW HL2
                go_wp2_with fail
                go_loopw [6, 9] (fun l i wr => ∃ (k : Nat) (S : List Oq), k ≤ 7 ∧ i = .int .i64 (k : Int) ∧ Hid (MS W5 wr gk l S ∧ S.length ≤ 2 + 16 * n + 2 * k)) (fun _ i _ => 7 - (intOf i).toNat)
                case atStart => exact ⟨0, S7, by omega, rfl, hide HS7.out⟩
                case round =>
                  clear HS7
                  obtain ⟨k, S, hk, rfl, HP⟩ := hrel
                  by_cases hlt : k < 7
                  · have hd1 : decide ((k : Int) < 7) = true := by rw [decide_eq_true_eq]; omega
                    have HLT2 := hide hlt
                    have wk2 : wrap64 ((k : Int) + 1) = ((k + 1 : Nat) : Int) := (wr1 k (by omega) 1 (by decide)).2
                    have B5 : Hid (Below wr.heap.size wr (wr.alloc (.cells #[.int .i64 0, .int .i64 1, .int .i64 0, .slice (some ⟨gk, k * 2, none⟩) 1 (7 - k), .int .i64 0, .int .i64 2, .int .i64 0, .slice none 0 0] 26))) := hide (below_al rfl)
                    have HM5 : Hid (MS W5 (wr.alloc (.cells #[.int .i64 0, .int .i64 1, .int .i64 0, .slice (some ⟨gk, k * 2, none⟩) 1 (7 - k), .int .i64 0, .int .i64 2, .int .i64 0, .slice none 0 0] 26)) gk u6 S) := hide (HP.out.1.later B5.out)
                    have HG5 : Hid ((wr.alloc (.cells #[.int .i64 0, .int .i64 1, .int .i64 0, .slice (some ⟨gk, k * 2, none⟩) 1 (7 - k), .int .i64 0, .int .i64 2, .int .i64 0, .slice none 0 0] 26)).heap[wr.heap.size]? = some (.cells #[.int .i64 0, .int .i64 1, .int .i64 0, .slice (some ⟨gk, k * 2, none⟩) 1 (7 - k), .int .i64 0, .int .i64 2, .int .i64 0, .slice none 0 0] 26 (0, 0))) := hide (alloc_new wr _)
                    have HL25 : Hid (((K7.drop k).take 1).length = 1) := hide (by rw [List.length_take, List.length_drop]; have : K7.length = 7 := rfl; omega)
                    have HOK5 : Hid (∀ p ∈ ([⟨0, 1, 0, (K7.drop k).take 1, some ⟨gk, k * 2, none⟩, 7 - k⟩, ⟨0, 2, 0, [], none, 0⟩] : List Oq), KOp (wr.alloc (.cells #[.int .i64 0, .int .i64 1, .int .i64 0, .slice (some ⟨gk, k * 2, none⟩) 1 (7 - k), .int .i64 0, .int .i64 2, .int .i64 0, .slice none 0 0] 26)) p) := hide (fun p hp => by
                      simp only [List.mem_cons, List.not_mem_nil, or_false] at hp
                      rcases hp with rfl | rfl
                      · exact KOp.sub HM5.out.kb (by rw [HL25.out]; omega) iok0
                      · exact KOp.plain iok0)
                    have HA5 : Hid (#[.int .i64 0, .int .i64 1, .int .i64 0, .slice (some ⟨gk, k * 2, none⟩) 1 (7 - k), .int .i64 0, .int .i64 2, .int .i64 0, .slice none 0 0] = (opc ([⟨0, 1, 0, (K7.drop k).take 1, some ⟨gk, k * 2, none⟩, 7 - k⟩, ⟨0, 2, 0, [], none, 0⟩] : List Oq)).toArray) := hide (by simp only [opc, Oq.kv, HL25.out, List.length_nil])
                    have HN5 : Hid (S.length + 2 ≤ 2000) := hide (by have := HP.out.2; have := HLT.out; omega)
                    have HP2 : Hid (S.length ≤ 2 + 16 * n + 2 * k) := hide HP.out.2
                    have s1 : (0 : Int) ≤ (k : Int) + 1 := by omega
                    have s2 : (k : Int) + 1 ≤ 7 := by omega
                    have s3 : (0 : Int) ≤ (k : Int) := by omega
                    have s4 : ((k : Int) + 1).toNat = k + 1 := by omega
                    have s5 : ¬ 7 = k := by omega
                    have s6 : k + 1 - k = 1 := by omega
                    clear HP hlt hk
                    go_wp2_with (first
                      | (at_builtin; refine wpList_append_oq rfl _ _ rfl _ S rfl HM5.out _ _ 2 [⟨0, 1, 0, (K7.drop k).take 1, some ⟨gk, k * 2, none⟩, 7 - k⟩, ⟨0, 2, 0, [], none, 0⟩] rfl rfl _ HG5.out HA5.out HOK5.out HN5.out ?_))
                    intro v8 w8 hM6
                    have HS8 : Hid (MS W5 w8 gk v8 (S ++ [⟨0, 1, 0, (K7.drop k).take 1, some ⟨gk, k * 2, none⟩, 7 - k⟩, ⟨0, 2, 0, [], none, 0⟩]) ∧ (S ++ ([⟨0, 1, 0, (K7.drop k).take 1, some ⟨gk, k * 2, none⟩, 7 - k⟩, ⟨0, 2, 0, [], none, 0⟩] : List Oq)).length ≤ 2 + 16 * n + 2 * (k + 1)) := hide ⟨hM6, by rw [List.length_append]; exact len_up2 HP2.out⟩
                    generalize S ++ ([⟨0, 1, 0, (K7.drop k).take 1, some ⟨gk, k * 2, none⟩, 7 - k⟩, ⟨0, 2, 0, [], none, 0⟩] : List Oq) = S8 at HS8
                    clear hM6 B5 HM5 HG5 HOK5 HN5 HA5 HL25
                    go_wp2_with fail
                    go_roundw
                    case rel => exact ⟨k + 1, _, HLT2.out, congrArg (Value.int .i64) (by first | exact wk2 | omega), HS8⟩
                    case measure => first | exact meas_upK HLT2.out | (rw [wk2]; exact meas_upK HLT2.out)
                  · obtain rfl : k = 7 := by omega
                    have HS8 : Hid (MS W5 wr gk u6 S ∧ S.length ≤ 0 + 16 * (n + 1)) := hide ⟨HP.out.1, Nat.le_trans HP.out.2 (by omega)⟩
                    clear HP hlt hk
                    go_wp2_with fail
                    go_roundw
                    case rel => exact ⟨n + 1, _, HLT.out, congrArg (Value.int .i64) (by first | exact wk | omega), HS8⟩
                    case measure => first | exact meas_upK HLT.out | (rw [wk]; exact meas_upK HLT.out)
            · obtain rfl : n = 8 := by omega
              have HMG : Hid (MS W5 wr gk u6 SG ∧ SG.length ≤ 2000) := hide ⟨HP.out.1, Nat.le_trans HP.out.2 (by decide)⟩
              have HB5 : Hid (Below W5.heap.size W5 wr) := hide HP.out.1.bl
              have HBw : Hid (Below w.heap.size w wr) := hide (HM1.out.1.bl.trans (HB5.out.mono HM1.out.1.bl.size))
              have HG1 : Hid (GO w.heap.size wr u2 S) := hide (HM1.out.1.go.later HB5.out)
              have HC1 := hide (hS.out wr 20 0 u2 S HBw.out HG1.out.ro (Nat.le_trans HM1.out.2 (by decide)))
              clear HP hlt hk
              go_wp2_with fail
              refine HC1.out.mono ?_
              rintro e w1 ⟨rfl, b1⟩
              have HB1 := hide b1
              have HC2 := hide (hS.out w1 9 0 u2 S (HBw.out.trans (b1.mono HBw.out.size)) (HG1.out.later b1).ro (Nat.le_trans HM1.out.2 (by decide)))
              clear HC1 b1
              go_wp2_with fail
              refine HC2.out.mono ?_
              rintro e w2 ⟨rfl, b2⟩
              have HB2 : Hid (Below wr.heap.size wr w2) := hide (HB1.out.trans (b2.mono HB1.out.size))
              have HC3 := hide (hS.out w2 3 0 u6 SG (HBw.out.trans (HB2.out.mono HBw.out.size)) (HMG.out.1.go.later HB2.out).ro HMG.out.2)
              clear HC2 b2 HB1
              go_wp2_with fail
              refine HC3.out.mono ?_
              rintro e w3 ⟨rfl, b3⟩
              have HB3 : Hid (Below w.heap.size w w3) := hide ((HBw.out.trans (HB2.out.mono HBw.out.size)).trans (b3.mono (HBw.out.trans (HB2.out.mono HBw.out.size)).size))
              clear HC3 b3
              go_wp2_with fail
              go_ret
              exact ⟨rfl, HB3.out⟩
end Go.Proofs.YtknnojjfdfkdmaaGreatDoor
