/-
  My own text: calls of readers among the arguments.
-/
import Derived.Test.YtaeinfoankmiaaaDoorWQ6
import Derived.Test.YtaeinfoankmiaaaDoorWArg
import Derived.Deep.Slices
namespace Go.Proofs.YtaeinfoankmiaaaDoor
open Go.ChangeShapes Go.WideShapes Go.ChangeAt Go.RowKit

theorem Tryd.cellsGet : Tryd.prog.cellsOf 36 = 4 := by kernel_rfl
theorem Tryd.bytesGet : Tryd.prog.bytesOf 36 = 32 := by kernel_rfl
theorem Tryd.cellsI : Tryd.prog.cellsOf 3 = 1 := by kernel_rfl
theorem Tryd.cellsU : Tryd.prog.cellsOf 34 = 1 := by kernel_rfl
theorem intField {H : Type} {enc : TypeId × Value → H} {P : Program} {w : World} {base : Nat} {spare : Nat → Bool} {held : Bool} {t : TypeId} {k : IntKind} {cs : List Value} {v : Value} {n : Nat} {x : DataW H × List MemPlace} (ht : P.underlying t = some (.int k)) (h : DataW.trod enc P w base spare held n t cs = some x) (hc : cs = [v]) :
    ∃ a, v = .int k a ∧ x = (.lit (.int k a), []) ∧ (Lit.int k a).wf = true := by
  obtain ⟨a, e, hx, hw⟩ := DataW.trod_int ht h
  rw [hc] at e
  exact ⟨a, by simpa using e, hx, hw⟩
theorem list_of {α : Type} {Q : Nat → α → Prop} : ∀ n : Nat, (∀ j, j < n → ∃ p, Q j p) → ∃ l : List α, l.length = n ∧ ∀ j p, l[j]? = some p → Q j p
  | 0, _ => ⟨[], rfl, fun j p h => by simp at h⟩
  | n + 1, h => by
    obtain ⟨l, hl, hq⟩ := list_of n (fun j hj => h j (by omega))
    obtain ⟨p, hp⟩ := h n (by omega)
    refine ⟨l ++ [p], by simp [hl], fun j p' hj => ?_⟩
    by_cases hjn : j < n
    · rw [List.getElem?_append_left (by omega)] at hj; exact hq j p' hj
    · rw [List.getElem?_append_right (by omega)] at hj
      have : j - l.length = 0 := by
        have := (List.getElem?_eq_some_iff.1 hj).1
        simp at this; omega
      rw [this] at hj
      have hj' : j = n := by omega
      simp at hj; subst hj; rw [hj']; exact hp

set_option maxRecDepth 100000 in
theorem open_gets {H : Type} {enc : TypeId × Value → H} {W : World} {v : Value} {d : DataW H} {p : List MemPlace}
    (hok : ∃ a len cap, v = .slice a len cap) (h : DataW.Trod enc Tryd.prog W 0 (fun _ => true) true 23 v d p) (hlt : ∀ x ∈ p, x.block < W.heap.size)
    (hs : ∀ n ∈ d.weights Tryd.prog 23, n ≤ reachBytes) :
    ∃ a cap ps, v = .slice a (ps : List Gt).length cap ∧ RQ W (.slice a ps.length cap) ps ∧ (∀ p ∈ ps, p.n ≤ 9223372036854775807) ∧ ps.length ≤ 4398046510976 := by
  obtain ⟨a0, len, cap, rfl⟩ := hok
  obtain ⟨fuel, hf⟩ := h
  rcases Go.Deep.open_slice Tryd.underlying23 hf with ⟨hcs, hx⟩ | ⟨a, len', cap', m, n, D, Pl, hcs, hb, hl, hm, hmm, hx, hel⟩
  · simp [Value.cells] at hcs
    obtain ⟨rfl, rfl, rfl⟩ := hcs
    exact ⟨none, 0, [], rfl, ⟨_, _, rfl, .inl rfl⟩, by simp, by simp⟩
  · simp [Value.cells] at hcs
    obtain ⟨rfl, rfl, rfl⟩ := hcs
    have hp : p = _ := (Prod.mk.inj hx).2
    have hdd : d = _ := (Prod.mk.inj hx).1
    rw [hp, Tryd.cellsGet] at hlt
    rw [Tryd.cellsGet] at hel
    clear hx hp hf
    simp only [if_true] at hmm
    subst hmm
    have hlen : len * 32 ≤ reachBytes := by
      have := hs ((((List.range len).map D).length + ((List.range (m - len)).map fun j => D (len + j)).length) * Tryd.prog.bytesOf 36) (by rw [hdd]; simp only [DataW.weights, Tryd.underlying23]; exact List.mem_cons_self)
      rw [Tryd.bytesGet] at this
      simp only [List.length_map, List.length_range] at this
      omega
    have each : ∀ i, i < m → ∃ p : Gt, (W.cell? (a.add (i * 4)) = some (.int .i64 p.on) ∧ W.cell? (a.add (i * 4 + 1)) = some (.int .i64 p.kd) ∧ W.cell? (a.add (i * 4 + 2)) = some (.int .u64 p.x) ∧ W.cell? (a.add (i * 4 + 3)) = some (.int .i64 p.n)) ∧ p.n ≤ 9223372036854775807 := by
      intro i hi
      obtain ⟨cs', h1, h2⟩ := hel i hi
      clear hel hlt hs hdd
      obtain ⟨_, hlen, hcell⟩ := World.cells?_some h1
      obtain ⟨xs, k, _, hxy, _, hxl, hall⟩ := DataW.trod_struct Tryd.underlying36 h2
      match xs, hxl, cs', hlen with
      | [x0, x1, x2, x3], _, [c0, c1, c2, c3], _ =>
        obtain ⟨a0, e0, y0, w0⟩ := intField (v := c0) (x := x0) Tryd.underlying3 (by simpa using hall 0 _ rfl) (by show List.take (Tryd.prog.cellsOf 3) _ = _; rw [Tryd.cellsI]; rfl)
        obtain ⟨a1, e1, y1, w1⟩ := intField (v := c1) (x := x1) Tryd.underlying3 (by simpa using hall 1 _ rfl) (by show List.take (Tryd.prog.cellsOf 3) _ = _; rw [Tryd.cellsI]; rfl)
        obtain ⟨a2, e2, y2, w2⟩ := intField (v := c2) (x := x2) Tryd.underlying34 (by simpa using hall 2 _ rfl) (by show List.take (Tryd.prog.cellsOf 34) _ = _; rw [Tryd.cellsU]; rfl)
        obtain ⟨a3, e3, y3, w3⟩ := intField (v := c3) (x := x3) Tryd.underlying3 (by simpa using hall 3 _ rfl) (by show List.take (Tryd.prog.cellsOf 3) _ = _; rw [Tryd.cellsI]; rfl)
        subst e0 e1 e2 e3
        have g0 := hcell 0 (by omega)
        have g1 := hcell 1 (by omega)
        have g2 := hcell 2 (by omega)
        have g3 := hcell 3 (by omega)
        rw [Go.Deep.add_add] at g0 g1 g2 g3
        have w3' := bounds_i64 w3
        exact ⟨⟨a0, a1, a2, a3⟩, ⟨by simpa using g0, by simpa using g1, by simpa using g2, by simpa using g3⟩, w3'.2⟩
    obtain ⟨ps, hpl, hps⟩ := list_of len (fun j hj => each j (by omega))
    refine ⟨some a, m, ps, by rw [hpl], ?_, fun p hp => ?_, by rw [hpl]; unfold reachBytes at hlen; omega⟩
    · refine ⟨some a, m, by rw [hpl], ?_⟩
      by_cases h0 : len = 0
      · left; exact List.length_eq_zero_iff.1 (by omega)
      · right
        obtain ⟨b, off, spot⟩ := a
        obtain ⟨p0, ⟨hc0, _⟩, _⟩ := each 0 (by omega)
        have hspot : spot = none := by simpa [Addr.add] using World.cell?_spot hc0
        subst hspot
        have hbW : b < W.heap.size := hlt (.cell b off) (List.mem_append_left _ (MemPlace.mem_row.2 ⟨0, by omega, by simp⟩))
        refine ⟨b, off, rfl, hbW, fun j p hj => ?_⟩
        obtain ⟨⟨g0, g1, g2, g3⟩, _⟩ := hps j p hj
        rw [add_plain] at g0 g1 g2 g3
        exact ⟨g0, g1, g2, g3⟩
    · obtain ⟨j, hj⟩ := List.getElem?_of_mem hp
      exact (hps j p hj).2
end Go.Proofs.YtaeinfoankmiaaaDoor
