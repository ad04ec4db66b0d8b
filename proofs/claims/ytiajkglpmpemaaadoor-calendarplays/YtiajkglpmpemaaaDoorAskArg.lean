/-
  My own text: questions among the arguments.
-/
import Derived.Test.YtiajkglpmpemaaaDoorRowD
import Derived.Test.YtiajkglpmpemaaaDoorT1
import Derived.Deep.Slices
import Derived.SizedLaws
namespace Go.Proofs.YtiajkglpmpemaaaDoor
open Go.ChangeShapes Go.WideShapes Go.ChangeAt Go.RowKit

theorem Tryd.laidOut : laidOutB Tryd.prog = true := by kernel_rfl
theorem Tryd.cellsAsk : Tryd.prog.cellsOf 60 = 4 := by kernel_rfl
set_option maxRecDepth 100000 in
theorem open_asks {H : Type} {enc : TypeId × Value → H} {W : World} {v : Value} {d : DataW H} {p : List MemPlace}
    (hok : ∃ a len cap, v = .slice a len cap) (h : DataW.Trod enc Tryd.prog W 0 (fun _ => true) true 53 v d p) (hlt : ∀ x ∈ p, x.block < W.heap.size) :
    ∃ a n cap, v = .slice a n cap ∧ n ≤ 9223372036854775807 ∧ RA W a n := by
  obtain ⟨a0, len, cap, rfl⟩ := hok
  obtain ⟨fuel, hf⟩ := h
  rcases Go.Deep.open_slice Tryd.underlying53 hf with ⟨hcs, hx⟩ | ⟨a, len', cap', m, n, D, Pl, hcs, hb, hl, hm, hmm, hx, hel⟩
  · simp [Value.cells] at hcs
    obtain ⟨rfl, rfl, rfl⟩ := hcs
    exact ⟨none, 0, 0, rfl, by omega, .inl rfl⟩
  · simp [Value.cells] at hcs
    obtain ⟨rfl, rfl, rfl⟩ := hcs
    have hp : p = _ := (Prod.mk.inj hx).2
    rw [hp, Tryd.cellsAsk] at hlt
    rw [Tryd.cellsAsk] at hel
    clear hx hp hf
    simp only [if_true] at hmm
    subst hmm
    refine ⟨some a, len, m, rfl, by unfold maxLen at hm; omega, ?_⟩
    by_cases h0 : len = 0
    · exact .inl h0
    have each : ∀ i, i < m → ∃ o kd x y : Int, W.cell? (a.add (i * 4)) = some (.int .i64 o) ∧ W.cell? (a.add (i * 4 + 1)) = some (.int .i64 kd) ∧ W.cell? (a.add (i * 4 + 2)) = some (.int .i64 x) ∧ W.cell? (a.add (i * 4 + 3)) = some (.int .i64 y) ∧ -9223372036854775808 ≤ y ∧ y ≤ 9223372036854775807 := by
      intro i hi
      obtain ⟨cs', h1, h2⟩ := hel i hi
      clear hel hlt
      obtain ⟨_, hlen, hcell⟩ := World.cells?_some h1
      obtain ⟨xs, k, _, hxy, _, hxl, hall⟩ := DataW.trod_struct Tryd.underlying60 h2
      match xs, hxl, cs', hlen with
      | [x0, x1, x2, x3], _, [c0, c1, c2, c3], _ =>
        obtain ⟨a0, e0, y0, w0⟩ := recField (v := c0) (x := x0) Tryd.underlying3 (by simpa using hall 0 _ rfl) (by show List.take (Tryd.prog.cellsOf 3) _ = _; rw [Tryd.cellsI]; rfl)
        obtain ⟨a1, e1, y1, w1⟩ := recField (v := c1) (x := x1) Tryd.underlying3 (by simpa using hall 1 _ rfl) (by show List.take (Tryd.prog.cellsOf 3) _ = _; rw [Tryd.cellsI]; rfl)
        obtain ⟨a2, e2, y2, w2⟩ := recField (v := c2) (x := x2) Tryd.underlying3 (by simpa using hall 2 _ rfl) (by show List.take (Tryd.prog.cellsOf 3) _ = _; rw [Tryd.cellsI]; rfl)
        obtain ⟨a3, e3, y3, w3⟩ := recField (v := c3) (x := x3) Tryd.underlying3 (by simpa using hall 3 _ rfl) (by show List.take (Tryd.prog.cellsOf 3) _ = _; rw [Tryd.cellsI]; rfl)
        subst e0 e1 e2 e3
        have g0 := hcell 0 (by omega)
        have g1 := hcell 1 (by omega)
        have g2 := hcell 2 (by omega)
        have g3 := hcell 3 (by omega)
        rw [Go.Deep.add_add] at g0 g1 g2 g3
        exact ⟨a0, a1, a2, a3, by simpa using g0, by simpa using g1, by simpa using g2, by simpa using g3, bounds_i64 w3⟩
    obtain ⟨b, off, spot⟩ := a
    obtain ⟨o, _, _, _, hc0, _⟩ := each 0 (by omega)
    have hspot : spot = none := by simpa [Addr.add] using World.cell?_spot hc0
    subst hspot
    have hbW : b < W.heap.size := hlt (.cell b off) (List.mem_append_left _ (MemPlace.mem_row.2 ⟨0, by omega, by simp⟩))
    refine .inr ⟨b, off, rfl, hbW, fun j hj => ?_⟩
    obtain ⟨o, kd, x, y, g0, g1, g2, g3, gy⟩ := each j (by omega)
    rw [add_plain] at g0 g1 g2 g3
    exact ⟨o, kd, x, y, by rw [Nat.mul_comm]; exact g0, by rw [Nat.mul_comm, Nat.add_assoc]; exact g1, by rw [Nat.mul_comm, Nat.add_assoc]; exact g2, by rw [Nat.mul_comm, Nat.add_assoc]; exact g3, gy⟩
end Go.Proofs.YtiajkglpmpemaaaDoor
