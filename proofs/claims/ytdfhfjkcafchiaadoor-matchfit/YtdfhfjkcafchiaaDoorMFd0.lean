/-
  My own text: layer 22: what Fit by the program needs (printed by mkmfd.py).
-/
import Derived.Test.YtdfhfjkcafchiaaDoorMFc
namespace Go.Proofs.YtdfhfjkcafchiaaDoor
open Go.RowKit LC

theorem run_storeAt_row {P : Program} (w : World) (g : Nat) (ty t : TypeId) (old cells : Array Value) (hg : w.heap[g]? = some (.cells old t (0, 0))) (hi : (P.info? ty).map (·.size) = some cells.size) (hold : old.size = cells.size) (h1 : cells.all (·.oneCell') = true) :
    (Instr.storeAt ty (.pointer (some ⟨g, 0, none⟩)) (.agg cells)).run P w = .ok () (w.setRow g cells) := by
  simp only [Instr.storeAt, Instr.sureAddr, Sem.run_bind, Sem.run_pure, Result.andThen_ok, run_storeVar_row w g t ty old cells hg hi hold h1]
def SB (W : World) (b : Nat) (p : Int) (n : Ntc) (v : Value) : Prop := W.heap[b]? = some (.cells (sC p n v) 28 (0, 0))
theorem SB.load {W : World} {b : Nat} {p : Int} {n : Ntc} {v : Value} (h : SB W b p n v) (hc : n.code.length = 12) : (Instr.loadAt 26 (.pointer (some ⟨b, 1, none⟩))).run Tryd.prog W = .ok (.agg (nC n v)) W := by
  have := run_loadAt_mid (P := Tryd.prog) W b 1 26 (nC n v).toList _ (sC_range h) Tryd.underlying26 rfl (by rw [Array.length_toList, nC_size n v hc]; exact Tryd.sizeNtc6)
  rw [Array.toArray_toList] at this
  exact this
theorem SB.party {W : World} {b : Nat} {p : Int} {n : Ntc} {v : Value} (h : SB W b p n v) : W.cell? ⟨b, 0, none⟩ = some (.int .i64 p) := sC_cell h
theorem Bx.load {W : World} {b : Nat} {n : Ntc} {v : Value} (h : Bx W b n v) (hc : n.code.length = 12) : (Instr.loadAt 26 (.pointer (some ⟨b, 0, none⟩))).run Tryd.prog W = .ok (.agg (nC n v)) W := by
  have := run_loadAt_mid (P := Tryd.prog) W b 0 26 (nC n v).toList _ (fun j u hj => by rw [Nat.zero_add, cell_of_row _ _ j _ _ _ h]; simpa using hj) Tryd.underlying26 rfl (by rw [Array.length_toList, nC_size n v hc]; exact Tryd.sizeNtc6)
  rw [Array.toArray_toList] at this
  exact this
theorem FB.load {W : World} {b : Nat} {f : Fc} (h : FB W b f) (hc : f.code.length = 12) : (Instr.loadAt 44 (.pointer (some ⟨b, 0, none⟩))).run Tryd.prog W = .ok (.agg (fC f)) W := by
  have := run_loadAt_mid (P := Tryd.prog) W b 0 44 (fC f).toList _ h.range Tryd.underlying44 rfl (by rw [Array.length_toList, fC_size f hc]; exact Tryd.sizeFace)
  rw [Array.toArray_toList] at this
  exact this
/-- A whole row loaded, as an operation answers it. -/
theorem exec_row {P : Program} {W : World} {op : Oper} {a : Act} (ty : TypeId) (x : Operand) (ho : op.op = .load ty x) (b o : Nat) (hx : a.eval x = .pointer (some ⟨b, o, none⟩)) (cs : Array Value) (d : TypeDesc) (hS : W.rangeAt b o cs.toList)
    (hu : P.underlying ty = some d) (hd : d.isRow = true) (hi : (P.info? ty).map (·.size) = some cs.size) : (execOp (Act.eval a) op).run P W = .ok (.value (.agg cs)) W := by
  have h := run_loadVar_mid (P := P) W b o ty cs.toList d hS hu hd (by rw [Array.length_toList]; exact hi)
  rw [Array.toArray_toList] at h
  unfold execOp
  simp only [ho, hx, Instr.loadAt, Instr.sureAddr, Sem.run_bind, Sem.run_pure, Result.andThen_ok, h]
structure MS (w : World) (gx gy b1 : Nat) (p q : Int) (n m : Ntc) (v u : Value) (W : World) : Prop where
  bx : Bx W gx n v
  ny : Bx W gy m u
  sd : SB W w.heap.size p n v
  sr : SB W b1 q m u
  lo : Below w.heap.size w W
theorem MS.later {w W W' : World} {gx gy b1 : Nat} {p q : Int} {n m : Ntc} {v u : Value} (h : MS w gx gy b1 p q n m v u W) (hb : Below W.heap.size W W') : MS w gx gy b1 p q n m v u W' :=
  ⟨h.bx.later hb, h.ny.later hb, (hb.block _ (Array.getElem?_eq_some_iff.1 h.sd).1).trans h.sd, (hb.block _ (Array.getElem?_eq_some_iff.1 h.sr).1).trans h.sr, h.lo.trans (hb.mono h.lo.size)⟩
theorem MS.row {w W : World} {gx gy b1 g : Nat} {p q : Int} {n m : Ntc} {v u : Value} (h : MS w gx gy b1 p q n m v u W) (cs : Array Value) (hx : gx < g) (hy : gy < g) (h1 : b1 < g) (hw : w.heap.size < g) : MS w gx gy b1 p q n m v u (W.setRow g cs) :=
  ⟨(setRow_other _ _ _ _ (by omega)).trans h.bx, (setRow_other _ _ _ _ (by omega)).trans h.ny, (setRow_other _ _ _ _ (by omega)).trans h.sd, (setRow_other _ _ _ _ (by omega)).trans h.sr, below_setRow h.lo (by omega) _⟩
theorem Bx.rangeM {w : World} {g : Nat} {n : Ntc} {v : Value} (h : Bx w g n v) : w.rangeAt g 0 (nC n v).toList := fun j u hj => by
  rw [Nat.zero_add, cell_of_row _ _ j _ _ _ h]; simpa using hj
theorem oA_ok (bs : List (List UInt8)) (z : Int) (hs : ∀ s ∈ bs, s.length ≤ 140737488355328) : QOk (oA bs z) := by
  unfold oA
  split
  · exact qZ_ok
  · cases h : bs[z.toNat]? with
    | none => exact qZ_ok
    | some s => exact bq_ok s (hs s (List.mem_of_getElem? h))
theorem faceF_ok (k : Ntc) (q : Q4) (hk : NOk k) (h1 : I64 k.tr) (h2 : I64 k.st) (h3 : I64 k.qty) (hq : QOk q) : FOk (faceF k q) := by
  have hb := bq_ok k.agt hk.agt
  refine ⟨hk.code, h1, h2, h3, ?_, ?_, ?_, ?_, ?_⟩
  · unfold faceF; dsimp only; split
    · exact hk.cur
    · simp
  · unfold faceF; dsimp only; split
    · exact hk.oth
    · exact hk.acc
  · unfold faceF; dsimp only; split
    · exact hk.acc
    · exact hk.oth
  · unfold faceF; dsimp only; split
    · exact hb
    · exact hq
  · unfold faceF; dsimp only; split
    · exact hq
    · exact hb
theorem alloc2_newM (w : World) (a b : Obj) : ((w.alloc a).alloc b).heap[w.heap.size + 1]? = some b := by
  have := LC.alloc_new (w.alloc a) b
  simpa using this
theorem two_ready {P : Program} {ops : Array Oper} {Q : Exit → Act → World → Prop} {md : Region.Mode} {S : World → Prop} {fuel : Nat} {listed : Array Bool} {a : Act} {w : World} {oi oj : Oper} (i j : Nat) (li lj : Array Bool) (hi : ops[i]? = some oi) (hj : ops[j]? = some oj) (hr : Region.ready md ops listed = [i, j]) (hli : listed.setIfInBounds i true = li) (hlj : listed.setIfInBounds j true = lj)
    (hwi : Region.wanted oi (yielded ops a.tmps) = true) (hwj : Region.wanted oj (yielded ops a.tmps) = true)
    (h1 : ∀ K' : Act → World → Prop, Shut (∀ a w, S w → (S w → wpAnyH P md ops Q S fuel li a w) → K' a w) → Oper.wp P oi a w K' Q)
    (h2 : ∀ K' : Act → World → Prop, Shut (∀ a w, S w → (S w → wpAnyH P md ops Q S fuel lj a w) → K' a w) → Oper.wp P oj a w K' Q) : wpAnyH P md ops Q S (fuel + 1) listed a w := by
  refine wpAnyH_ready hr (by simp) (AllReadyH.cons hi (fun K' hK => ?_) (AllReadyH.cons hj (fun K' hK => ?_) AllReadyH.nil))
  · rw [if_pos hwi]
    exact h1 K' (by rw [hli] at hK; exact hK)
  · rw [if_pos hwj]
    exact h2 K' (by rw [hlj] at hK; exact hK)
end Go.Proofs.YtdfhfjkcafchiaaDoor
