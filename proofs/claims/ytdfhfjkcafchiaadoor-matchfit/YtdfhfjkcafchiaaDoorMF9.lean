/-
  My own text: layer 22: faces: their cells, compared; when one is whole.
-/
import Derived.Test.YtdfhfjkcafchiaaDoorMF6
namespace Go.Proofs.YtdfhfjkcafchiaaDoor
open Go.RowKit LC

abbrev Q4 := List UInt8 × List UInt8 × List UInt8 × List UInt8
/-- A face. -/
structure Fc where
  tr : Int
  st : Int
  code : List UInt8
  qty : Int
  py : Bool
  cur : List UInt8
  a0 : List UInt8
  a1 : List UInt8
  q0 : Q4
  q1 : Q4
def fC (f : Fc) : Array Value := (([.int .i64 f.tr, .int .i64 f.st] : List Value) ++ (cel f.code).toList ++ ([.int .i64 f.qty, .bool f.py, .string ⟨f.cur.toArray⟩, .string ⟨f.a0.toArray⟩, .string ⟨f.a1.toArray⟩] : List Value) ++ (q4 f.q0).toList ++ (q4 f.q1).toList).toArray
structure FOk (f : Fc) : Prop where
  code : f.code.length = 12
  tr : I64 f.tr
  st : I64 f.st
  qty : I64 f.qty
  cur : f.cur.length ≤ 140737488355328
  a0 : f.a0.length ≤ 140737488355328
  a1 : f.a1.length ≤ 140737488355328
  q0 : QOk f.q0
  q1 : QOk f.q1
theorem Tryd.keyOff : Tryd.prog.keyTypeAt 5 41 = true := by kernel_rfl
theorem Tryd.keyFace : Tryd.prog.keyTypeAt 5 44 = true := by kernel_rfl
theorem Tryd.cellsOff : Tryd.prog.cellsOf 41 = 4 := by kernel_rfl
theorem Tryd.cells2S : Tryd.prog.cellsOf 39 = 2 := by kernel_rfl
theorem Tryd.cells2O : Tryd.prog.cellsOf 42 = 8 := by kernel_rfl
theorem Tryd.cellsFace : Tryd.prog.cellsOf 44 = 27 := by kernel_rfl
theorem Tryd.cellsI22 : Tryd.prog.cellsOf 3 = 1 := by kernel_rfl
theorem Tryd.cellsJ22 : Tryd.prog.cellsOf 2 = 1 := by kernel_rfl
theorem Tryd.cellsB22 : Tryd.prog.cellsOf 4 = 1 := by kernel_rfl
theorem kl_off (d : Nat) (q : Q4) (h : QOk q) : Tryd.prog.keyLits (d + 2) 41 (q4 q).toList = some [.string q.1, .string q.2.1, .string q.2.2.1, .string q.2.2.2] := by
  unfold Program.keyLits
  rw [Tryd.underlying41]
  simp only [Tryd.cellsOff, Tryd.cellsStr, q4]
  simp [List.range, List.range.loop, kl_str d _ h.a, kl_str d _ h.b, kl_str d _ h.c, kl_str d _ h.d]
theorem kl_int (d : Nat) {x : Int} (h : I64 x) : Tryd.prog.keyLits (d + 1) 3 [.int .i64 x] = some [.int .i64 x] := by
  unfold Program.keyLits
  rw [Tryd.underlying3]
  have : (Lit.int .i64 x).wf = true := by unfold I64 at h; simp [Lit.wf, IntKind.min, IntKind.max, IntKind.signed, IntKind.bits]; omega
  simp [this]
theorem kl_i64 (d : Nat) {x : Int} (h : I64 x) : Tryd.prog.keyLits (d + 1) 2 [.int .i64 x] = some [.int .i64 x] := by
  unfold Program.keyLits
  rw [Tryd.underlying2]
  have : (Lit.int .i64 x).wf = true := by unfold I64 at h; simp [Lit.wf, IntKind.min, IntKind.max, IntKind.signed, IntKind.bits]; omega
  simp [this]
theorem kl_bool (d : Nat) (x : Bool) : Tryd.prog.keyLits (d + 1) 4 [.bool x] = some [.bool x] := by
  unfold Program.keyLits
  rw [Tryd.underlying4]
theorem kl_2s (d : Nat) (a b : List UInt8) (ha : a.length ≤ 140737488355328) (hb : b.length ≤ 140737488355328) : Tryd.prog.keyLits (d + 2) 39 [.string ⟨a.toArray⟩, .string ⟨b.toArray⟩] = some [.string a, .string b] := by
  unfold Program.keyLits
  rw [Tryd.underlying39]
  simp only [Tryd.cells2S, Tryd.cellsStr]
  simp [List.range, List.range.loop, kl_str d _ ha, kl_str d _ hb]
theorem kl_2o (d : Nat) (q r : Q4) (hq : QOk q) (hr : QOk r) : Tryd.prog.keyLits (d + 3) 42 ((q4 q).toList ++ (q4 r).toList) = some ([.string q.1, .string q.2.1, .string q.2.2.1, .string q.2.2.2] ++ [.string r.1, .string r.2.1, .string r.2.2.1, .string r.2.2.2]) := by
  have h1 := kl_off d q hq
  have h2 := kl_off d r hr
  unfold Program.keyLits
  rw [Tryd.underlying42]
  simp only [Tryd.cells2O, Tryd.cellsOff]
  simp only [q4] at h1 h2 ⊢
  simp [List.range, List.range.loop, h1, h2]
theorem ne_off (q r : Q4) (hq : QOk q) (hr : QOk r) (W : World) : (binOp .neq 41 (.agg (q4 q)) (.agg (q4 r))).run Tryd.prog W = .ok (.bool (decide (q ≠ r))) W := by
  obtain ⟨b, hb, hiff⟩ := run_equalIn_deep (P := Tryd.prog) 9995 5 41 Tryd.keyOff W 2 2 (.agg (q4 q)) (.agg (q4 r)) _ _ (by rfl) (by rfl) (kl_off 0 q hq) (kl_off 0 r hr)
  have e : b = decide (q = r) := by
    obtain ⟨q1, q2, q3, q5⟩ := q
    obtain ⟨r1, r2, r3, r5⟩ := r
    by_cases hh : (q1, q2, q3, q5) = (r1, r2, r3, r5)
    · rw [decide_eq_true hh]
      refine hiff.2 ?_
      simp only [Prod.mk.injEq] at hh
      obtain ⟨h1, h2, h3, h4⟩ := hh
      rw [h1, h2, h3, h4]
    · rw [decide_eq_false hh]
      cases b with
      | false => rfl
      | true =>
        have := hiff.1 rfl
        simp at this
        exact absurd (by obtain ⟨h1, h2, h3, h4⟩ := this; rw [h1, h2, h3, h4]) hh
  subst e
  simp only [binOp]
  simp [Op.equal, Op.maxDepth, hb]
def fL (f : Fc) : List Lit := [.int .i64 f.tr, .int .i64 f.st] ++ (f.code.map fun c => .int .u8 (c.toNat : Int)) ++ [.int .i64 f.qty, .bool f.py, .string f.cur, .string f.a0, .string f.a1] ++ [.string f.q0.1, .string f.q0.2.1, .string f.q0.2.2.1, .string f.q0.2.2.2] ++ [.string f.q1.1, .string f.q1.2.1, .string f.q1.2.2.1, .string f.q1.2.2.2]
theorem kl_face (f : Fc) (h : FOk f) : Tryd.prog.keyLits 4 44 (fC f).toList = some (fL f) := by
  obtain ⟨tr, st, code, qty, py, cur, a0, a1, q0, q1⟩ := f
  obtain ⟨hc, h1, h2, h3, h4, h5, h6, h7, h8⟩ := h
  dsimp only at hc h1 h2 h3 h4 h5 h6 h7 h8
  have k1 := kl_int 2 h1
  have k2 := kl_int 2 h2
  have k3 := kl_isin 1 code hc
  have k4 := kl_i64 2 h3
  have k5 := kl_bool 2 py
  have k6 := kl_str 2 cur h4
  have k7 := kl_2s 1 a0 a1 h5 h6
  have k8 := kl_2o 0 q0 q1 h7 h8
  obtain ⟨c0, c1, c2, c3, c4, c5, c6, c7, c8, c9, c10, c11, rfl⟩ := LC.len12 hc
  unfold Program.keyLits fC fL
  rw [Tryd.underlying44]
  simp only [cel, q4, List.map_cons, List.map_nil, List.cons_append, List.nil_append] at k3 k8 ⊢
  simp [Tryd.cellsFace, Tryd.cellsI22, Tryd.cellsJ22, Tryd.cellsB22, Tryd.cellsStr, Tryd.cellsIsin, Tryd.cells2S, Tryd.cells2O, k1, k2, k3, k4, k5, k6, k7, k8]
theorem fL_inj {f g : Fc} (hf : f.code.length = 12) (hg : g.code.length = 12) (h : fL f = fL g) : f = g := by
  obtain ⟨tr, st, code, qty, py, cur, a0, a1, ⟨q1, q2, q3, q4⟩, ⟨r1, r2, r3, r4⟩⟩ := f
  obtain ⟨tr', st', code', qty', py', cur', a0', a1', ⟨q1', q2', q3', q4'⟩, ⟨r1', r2', r3', r4'⟩⟩ := g
  dsimp only at hf hg
  unfold fL at h
  dsimp only at h
  simp only [List.append_assoc] at h
  obtain ⟨h1, h2⟩ := List.append_inj h (by simp)
  obtain ⟨h3, h4⟩ := List.append_inj h2 (by simp [hf, hg])
  have hc : code = code' := by
    refine (List.map_inj_right ?_).1 h3
    intro x y hxy
    have : (x.toNat : Int) = (y.toNat : Int) := by simpa using hxy
    exact UInt8.toNat_inj.1 (by omega)
  simp at h1 h4
  simp [h1, h4, hc]
theorem fC_formed (f : Fc) (h : FOk f) : Value.formed Tryd.prog 44 (.agg (fC f)) = true := by
  obtain ⟨c0, c1, c2, c3, c4, c5, c6, c7, c8, c9, c10, c11, e⟩ := LC.len12 h.code
  unfold fC
  rw [e]
  rfl
theorem ne_face (f g : Fc) (hf : FOk f) (hg : FOk g) (W : World) : (binOp .neq 44 (.agg (fC f)) (.agg (fC g))).run Tryd.prog W = .ok (.bool (!decide (f.tr = g.tr ∧ f.st = g.st ∧ f.code = g.code ∧ f.qty = g.qty ∧ f.py = g.py ∧ f.cur = g.cur ∧ f.a0 = g.a0 ∧ f.a1 = g.a1 ∧ f.q0 = g.q0 ∧ f.q1 = g.q1))) W := by
  obtain ⟨b, hb, hiff⟩ := run_equalIn_deep (P := Tryd.prog) 9995 5 44 Tryd.keyFace W 4 4 (.agg (fC f)) (.agg (fC g)) _ _ (fC_formed f hf) (fC_formed g hg) (kl_face f hf) (kl_face g hg)
  have e : b = decide (f.tr = g.tr ∧ f.st = g.st ∧ f.code = g.code ∧ f.qty = g.qty ∧ f.py = g.py ∧ f.cur = g.cur ∧ f.a0 = g.a0 ∧ f.a1 = g.a1 ∧ f.q0 = g.q0 ∧ f.q1 = g.q1) := by
    by_cases hh : f = g
    · subst hh
      rw [decide_eq_true (by simp)]
      exact hiff.2 rfl
    · rw [decide_eq_false (fun q => hh (by
        obtain ⟨⟩ := f
        obtain ⟨⟩ := g
        simpa using q))]
      cases b with
      | false => rfl
      | true => exact absurd (fL_inj hf.code hg.code (hiff.1 rfl)) hh
  subst e
  simp only [binOp]
  simp [Op.equal, Op.maxDepth, hb]
end Go.Proofs.YtdfhfjkcafchiaaDoor
