/-
  My own text: structs of whole numbers, by value: opened and shut.
-/
import Derived.Test.YtdfeehimnfogmaaGreatDoorRows
import Derived.ProofKit
import Derived.OpenShut
import Derived.ChangeSame
namespace Go.Proofs.YtdfeehimnfogmaaGreatDoor
open Go.ChangeShapes Go.WideShapes Go.RowKit

variable {H : Type} {enc : TypeId × Value → H} {P : Program} {w : World} {base : Nat} {spare : Nat → Bool} {held : Bool}
theorem recField {t : TypeId} {cs : List Value} {v : Value} {n : Nat} {x : DataW H × List MemPlace} (ht : P.underlying t = some (.int .i64)) (h : DataW.trod enc P w base spare held n t cs = some x) (hc : cs = [v]) :
    ∃ a, v = .int .i64 a ∧ x = (.lit (.int .i64 a), []) ∧ (Lit.int .i64 a).wf = true := by
  obtain ⟨a, e, hx, hw⟩ := DataW.trod_int ht h
  rw [hc] at e
  exact ⟨a, by simpa using e, hx, hw⟩

theorem open_rec3 {r : Reach} {b0 : Nat} {t : TypeId} {f0 f1 f2 : Field} {v : Value} {d : DataW H} {p : List MemPlace} (hs : P.underlying t = some (.struct #[f0, f1, f2])) (t0 : P.underlying f0.type = some (.int .i64)) (o0 : f0.offset = 0) (k0 : P.cellsOf f0.type = 1) (t1 : P.underlying f1.type = some (.int .i64)) (o1 : f1.offset = 1) (k1 : P.cellsOf f1.type = 1) (t2 : P.underlying f2.type = some (.int .i64)) (o2 : f2.offset = 2) (k2 : P.cellsOf f2.type = 1) (hC : P.cellsOf t = 3)
    (hv : Value.okWide P w r b0 t v) (h : DataW.Trod enc P w base spare held t v d p) :
    ∃ a0 a1 a2, v = .agg #[.int .i64 a0, .int .i64 a1, .int .i64 a2] ∧ d = .agg [.lit (.int .i64 a0), .lit (.int .i64 a1), .lit (.int .i64 a2)] ∧ p = [] ∧ (Lit.int .i64 a0).wf = true ∧ (Lit.int .i64 a1).wf = true ∧ (Lit.int .i64 a2).wf = true := by
  obtain ⟨cs, rfl, hsz⟩ := okWide_struct hs hv
  rw [hC] at hsz
  obtain ⟨l⟩ := cs
  match l, hsz with
  | [c0, c1, c2], _ =>
    obtain ⟨fuel, hf⟩ := h
    obtain ⟨xs, n, _, hx, _, hlen, hall⟩ := DataW.trod_struct hs hf
    match xs, hlen with
    | [x0, x1, x2], _ =>
      obtain ⟨a0, e0, y0, w0⟩ := recField (v := c0) (x := x0) t0 (by simpa using hall 0 f0 rfl) (by rw [o0, k0]; rfl)
      obtain ⟨a1, e1, y1, w1⟩ := recField (v := c1) (x := x1) t1 (by simpa using hall 1 f1 rfl) (by rw [o1, k1]; rfl)
      obtain ⟨a2, e2, y2, w2⟩ := recField (v := c2) (x := x2) t2 (by simpa using hall 2 f2 rfl) (by rw [o2, k2]; rfl)
      subst e0 y0 e1 y1 e2 y2
      simp only [Prod.mk.injEq] at hx
      exact ⟨a0, a1, a2, rfl, hx.1, hx.2, w0, w1, w2⟩
theorem shut_rec3 {t : TypeId} {f0 f1 f2 : Field} {a0 a1 a2 : Int} (hs : P.underlying t = some (.struct #[f0, f1, f2])) (t0 : P.underlying f0.type = some (.int .i64)) (o0 : f0.offset = 0) (k0 : P.cellsOf f0.type = 1) (t1 : P.underlying f1.type = some (.int .i64)) (o1 : f1.offset = 1) (k1 : P.cellsOf f1.type = 1) (t2 : P.underlying f2.type = some (.int .i64)) (o2 : f2.offset = 2) (k2 : P.cellsOf f2.type = 1) (hC : P.cellsOf t = 3)
    (w0 : (Lit.int .i64 a0).wf = true) (w1 : (Lit.int .i64 a1).wf = true) (w2 : (Lit.int .i64 a2).wf = true) : DataW.Trod enc P w base spare held t (.agg #[.int .i64 a0, .int .i64 a1, .int .i64 a2]) (.agg [.lit (.int .i64 a0), .lit (.int .i64 a1), .lit (.int .i64 a2)]) [] := by
  refine ⟨2, ?_⟩
  have ts := trod_struct_mk (enc := enc) (w := w) (base := base) (spare := spare) (held := held) (n := 1) (cs := [.int .i64 a0, .int .i64 a1, .int .i64 a2]) (xs := [(.lit (.int .i64 a0), []), (.lit (.int .i64 a1), []), (.lit (.int .i64 a2), [])]) hs (by rw [hC]; rfl)
    (by simp [o0, k0, o1, k1, o2, k2, trod_int_mk 0 t0 w0, trod_int_mk 0 t1 w1, trod_int_mk 0 t2 w2])
  exact ts

theorem open_rec4 {r : Reach} {b0 : Nat} {t : TypeId} {f0 f1 f2 f3 : Field} {v : Value} {d : DataW H} {p : List MemPlace} (hs : P.underlying t = some (.struct #[f0, f1, f2, f3])) (t0 : P.underlying f0.type = some (.int .i64)) (o0 : f0.offset = 0) (k0 : P.cellsOf f0.type = 1) (t1 : P.underlying f1.type = some (.int .i64)) (o1 : f1.offset = 1) (k1 : P.cellsOf f1.type = 1) (t2 : P.underlying f2.type = some (.int .i64)) (o2 : f2.offset = 2) (k2 : P.cellsOf f2.type = 1) (t3 : P.underlying f3.type = some (.int .i64)) (o3 : f3.offset = 3) (k3 : P.cellsOf f3.type = 1) (hC : P.cellsOf t = 4)
    (hv : Value.okWide P w r b0 t v) (h : DataW.Trod enc P w base spare held t v d p) :
    ∃ a0 a1 a2 a3, v = .agg #[.int .i64 a0, .int .i64 a1, .int .i64 a2, .int .i64 a3] ∧ d = .agg [.lit (.int .i64 a0), .lit (.int .i64 a1), .lit (.int .i64 a2), .lit (.int .i64 a3)] ∧ p = [] ∧ (Lit.int .i64 a0).wf = true ∧ (Lit.int .i64 a1).wf = true ∧ (Lit.int .i64 a2).wf = true ∧ (Lit.int .i64 a3).wf = true := by
  obtain ⟨cs, rfl, hsz⟩ := okWide_struct hs hv
  rw [hC] at hsz
  obtain ⟨l⟩ := cs
  match l, hsz with
  | [c0, c1, c2, c3], _ =>
    obtain ⟨fuel, hf⟩ := h
    obtain ⟨xs, n, _, hx, _, hlen, hall⟩ := DataW.trod_struct hs hf
    match xs, hlen with
    | [x0, x1, x2, x3], _ =>
      obtain ⟨a0, e0, y0, w0⟩ := recField (v := c0) (x := x0) t0 (by simpa using hall 0 f0 rfl) (by rw [o0, k0]; rfl)
      obtain ⟨a1, e1, y1, w1⟩ := recField (v := c1) (x := x1) t1 (by simpa using hall 1 f1 rfl) (by rw [o1, k1]; rfl)
      obtain ⟨a2, e2, y2, w2⟩ := recField (v := c2) (x := x2) t2 (by simpa using hall 2 f2 rfl) (by rw [o2, k2]; rfl)
      obtain ⟨a3, e3, y3, w3⟩ := recField (v := c3) (x := x3) t3 (by simpa using hall 3 f3 rfl) (by rw [o3, k3]; rfl)
      subst e0 y0 e1 y1 e2 y2 e3 y3
      simp only [Prod.mk.injEq] at hx
      exact ⟨a0, a1, a2, a3, rfl, hx.1, hx.2, w0, w1, w2, w3⟩
theorem shut_rec4 {t : TypeId} {f0 f1 f2 f3 : Field} {a0 a1 a2 a3 : Int} (hs : P.underlying t = some (.struct #[f0, f1, f2, f3])) (t0 : P.underlying f0.type = some (.int .i64)) (o0 : f0.offset = 0) (k0 : P.cellsOf f0.type = 1) (t1 : P.underlying f1.type = some (.int .i64)) (o1 : f1.offset = 1) (k1 : P.cellsOf f1.type = 1) (t2 : P.underlying f2.type = some (.int .i64)) (o2 : f2.offset = 2) (k2 : P.cellsOf f2.type = 1) (t3 : P.underlying f3.type = some (.int .i64)) (o3 : f3.offset = 3) (k3 : P.cellsOf f3.type = 1) (hC : P.cellsOf t = 4)
    (w0 : (Lit.int .i64 a0).wf = true) (w1 : (Lit.int .i64 a1).wf = true) (w2 : (Lit.int .i64 a2).wf = true) (w3 : (Lit.int .i64 a3).wf = true) : DataW.Trod enc P w base spare held t (.agg #[.int .i64 a0, .int .i64 a1, .int .i64 a2, .int .i64 a3]) (.agg [.lit (.int .i64 a0), .lit (.int .i64 a1), .lit (.int .i64 a2), .lit (.int .i64 a3)]) [] := by
  refine ⟨2, ?_⟩
  have ts := trod_struct_mk (enc := enc) (w := w) (base := base) (spare := spare) (held := held) (n := 1) (cs := [.int .i64 a0, .int .i64 a1, .int .i64 a2, .int .i64 a3]) (xs := [(.lit (.int .i64 a0), []), (.lit (.int .i64 a1), []), (.lit (.int .i64 a2), []), (.lit (.int .i64 a3), [])]) hs (by rw [hC]; rfl)
    (by simp [o0, k0, o1, k1, o2, k2, o3, k3, trod_int_mk 0 t0 w0, trod_int_mk 0 t1 w1, trod_int_mk 0 t2 w2, trod_int_mk 0 t3 w3])
  exact ts

theorem open_rec5 {r : Reach} {b0 : Nat} {t : TypeId} {f0 f1 f2 f3 f4 : Field} {v : Value} {d : DataW H} {p : List MemPlace} (hs : P.underlying t = some (.struct #[f0, f1, f2, f3, f4])) (t0 : P.underlying f0.type = some (.int .i64)) (o0 : f0.offset = 0) (k0 : P.cellsOf f0.type = 1) (t1 : P.underlying f1.type = some (.int .i64)) (o1 : f1.offset = 1) (k1 : P.cellsOf f1.type = 1) (t2 : P.underlying f2.type = some (.int .i64)) (o2 : f2.offset = 2) (k2 : P.cellsOf f2.type = 1) (t3 : P.underlying f3.type = some (.int .i64)) (o3 : f3.offset = 3) (k3 : P.cellsOf f3.type = 1) (t4 : P.underlying f4.type = some (.int .i64)) (o4 : f4.offset = 4) (k4 : P.cellsOf f4.type = 1) (hC : P.cellsOf t = 5)
    (hv : Value.okWide P w r b0 t v) (h : DataW.Trod enc P w base spare held t v d p) :
    ∃ a0 a1 a2 a3 a4, v = .agg #[.int .i64 a0, .int .i64 a1, .int .i64 a2, .int .i64 a3, .int .i64 a4] ∧ d = .agg [.lit (.int .i64 a0), .lit (.int .i64 a1), .lit (.int .i64 a2), .lit (.int .i64 a3), .lit (.int .i64 a4)] ∧ p = [] ∧ (Lit.int .i64 a0).wf = true ∧ (Lit.int .i64 a1).wf = true ∧ (Lit.int .i64 a2).wf = true ∧ (Lit.int .i64 a3).wf = true ∧ (Lit.int .i64 a4).wf = true := by
  obtain ⟨cs, rfl, hsz⟩ := okWide_struct hs hv
  rw [hC] at hsz
  obtain ⟨l⟩ := cs
  match l, hsz with
  | [c0, c1, c2, c3, c4], _ =>
    obtain ⟨fuel, hf⟩ := h
    obtain ⟨xs, n, _, hx, _, hlen, hall⟩ := DataW.trod_struct hs hf
    match xs, hlen with
    | [x0, x1, x2, x3, x4], _ =>
      obtain ⟨a0, e0, y0, w0⟩ := recField (v := c0) (x := x0) t0 (by simpa using hall 0 f0 rfl) (by rw [o0, k0]; rfl)
      obtain ⟨a1, e1, y1, w1⟩ := recField (v := c1) (x := x1) t1 (by simpa using hall 1 f1 rfl) (by rw [o1, k1]; rfl)
      obtain ⟨a2, e2, y2, w2⟩ := recField (v := c2) (x := x2) t2 (by simpa using hall 2 f2 rfl) (by rw [o2, k2]; rfl)
      obtain ⟨a3, e3, y3, w3⟩ := recField (v := c3) (x := x3) t3 (by simpa using hall 3 f3 rfl) (by rw [o3, k3]; rfl)
      obtain ⟨a4, e4, y4, w4⟩ := recField (v := c4) (x := x4) t4 (by simpa using hall 4 f4 rfl) (by rw [o4, k4]; rfl)
      subst e0 y0 e1 y1 e2 y2 e3 y3 e4 y4
      simp only [Prod.mk.injEq] at hx
      exact ⟨a0, a1, a2, a3, a4, rfl, hx.1, hx.2, w0, w1, w2, w3, w4⟩
theorem shut_rec5 {t : TypeId} {f0 f1 f2 f3 f4 : Field} {a0 a1 a2 a3 a4 : Int} (hs : P.underlying t = some (.struct #[f0, f1, f2, f3, f4])) (t0 : P.underlying f0.type = some (.int .i64)) (o0 : f0.offset = 0) (k0 : P.cellsOf f0.type = 1) (t1 : P.underlying f1.type = some (.int .i64)) (o1 : f1.offset = 1) (k1 : P.cellsOf f1.type = 1) (t2 : P.underlying f2.type = some (.int .i64)) (o2 : f2.offset = 2) (k2 : P.cellsOf f2.type = 1) (t3 : P.underlying f3.type = some (.int .i64)) (o3 : f3.offset = 3) (k3 : P.cellsOf f3.type = 1) (t4 : P.underlying f4.type = some (.int .i64)) (o4 : f4.offset = 4) (k4 : P.cellsOf f4.type = 1) (hC : P.cellsOf t = 5)
    (w0 : (Lit.int .i64 a0).wf = true) (w1 : (Lit.int .i64 a1).wf = true) (w2 : (Lit.int .i64 a2).wf = true) (w3 : (Lit.int .i64 a3).wf = true) (w4 : (Lit.int .i64 a4).wf = true) : DataW.Trod enc P w base spare held t (.agg #[.int .i64 a0, .int .i64 a1, .int .i64 a2, .int .i64 a3, .int .i64 a4]) (.agg [.lit (.int .i64 a0), .lit (.int .i64 a1), .lit (.int .i64 a2), .lit (.int .i64 a3), .lit (.int .i64 a4)]) [] := by
  refine ⟨2, ?_⟩
  have ts := trod_struct_mk (enc := enc) (w := w) (base := base) (spare := spare) (held := held) (n := 1) (cs := [.int .i64 a0, .int .i64 a1, .int .i64 a2, .int .i64 a3, .int .i64 a4]) (xs := [(.lit (.int .i64 a0), []), (.lit (.int .i64 a1), []), (.lit (.int .i64 a2), []), (.lit (.int .i64 a3), []), (.lit (.int .i64 a4), [])]) hs (by rw [hC]; rfl)
    (by simp [o0, k0, o1, k1, o2, k2, o3, k3, o4, k4, trod_int_mk 0 t0 w0, trod_int_mk 0 t1 w1, trod_int_mk 0 t2 w2, trod_int_mk 0 t3 w3, trod_int_mk 0 t4 w4])
  exact ts

end Go.Proofs.YtdfeehimnfogmaaGreatDoor
