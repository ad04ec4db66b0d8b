/-
  My own text: acts among the arguments.
-/
import Derived.Test.YtegemfkadclnkaaPArg
import Derived.Test.YtegemfkadclnkaaPN3
namespace Go.Proofs.Ytegemfkadclnkaa
open Go.ChangeShapes Go.WideShapes Go.ChangeAt Go.RowKit

theorem Try.cellsA4 : Try.prog.cellsOf 35 = 4 := by kernel_rfl
theorem Try.bytesA4 : Try.prog.bytesOf 35 = 32 := by kernel_rfl
set_option maxRecDepth 100000 in
theorem open_acts15 {H : Type} {enc : TypeId × Value → H} {W : World} {v : Value} {d : DataW H} {p : List MemPlace}
    (hok : ∃ a len cap, v = .slice a len cap) (h : DataW.Trod enc Try.prog W 0 (fun _ => true) true 22 v d p) (hlt : ∀ x ∈ p, x.block < W.heap.size)
    (hs : ∀ elems spare, d = .slice elems spare → (elems.length + spare.length) * 32 ≤ reachBytes) :
    ∃ L : List A4, RA W v L ∧ L.length ≤ 4398046510976 := by
  obtain ⟨a0, len, cap, rfl⟩ := hok
  obtain ⟨fuel, hf⟩ := h
  rcases Go.Deep.open_slice Try.underlying22 hf with ⟨hcs, hx⟩ | ⟨a, len', cap', m, n, D, Pl, hcs, hb, hl, hm, hmm, hx, hel⟩
  · simp [Value.cells] at hcs
    obtain ⟨rfl, rfl, rfl⟩ := hcs
    exact ⟨[], ⟨none, 0, rfl, .inl rfl⟩, by simp⟩
  · simp [Value.cells] at hcs
    obtain ⟨rfl, rfl, rfl⟩ := hcs
    have hp : p = _ := (Prod.mk.inj hx).2
    have hd : d = _ := (Prod.mk.inj hx).1
    rw [hp, Try.cellsA4] at hlt
    rw [Try.cellsA4] at hel
    simp only [if_true] at hmm
    subst hmm
    have hlen : len * 32 ≤ reachBytes := by
      have := hs _ _ hd
      simp only [List.length_map, List.length_range] at this
      omega
    clear hx hp hf hd
    have each : ∀ i, i < len → ∃ s : A4, W.cell? (a.add (i * 4)) = some (.int .i64 s.1) ∧ W.cell? (a.add (i * 4 + 1)) = some (.int .i64 s.2.1) ∧ W.cell? (a.add (i * 4 + 2)) = some (.int .i64 s.2.2.1) ∧ W.cell? (a.add (i * 4 + 3)) = some (.int .i64 s.2.2.2) := by
      intro i hi
      obtain ⟨cs', h1, h2⟩ := hel i (by omega)
      clear hel hlt
      obtain ⟨_, hlen', hcell⟩ := World.cells?_some h1
      obtain ⟨xs, k, _, hxy, _, hxl, hall⟩ := DataW.trod_struct Try.underlying35 h2
      match xs, hxl, cs', hlen' with
      | [x0, x1, x2, x3], _, [c0, c1, c2, c3], _ =>
        obtain ⟨a0, e0, _⟩ := intFA (v := c0) (x := x0) Try.underlying3 (by simpa using hall 0 _ rfl) (by show List.take (Try.prog.cellsOf 3) _ = _; rw [Try.cellsI]; rfl)
        obtain ⟨a1, e1, _⟩ := intFA (v := c1) (x := x1) Try.underlying3 (by simpa using hall 1 _ rfl) (by show List.take (Try.prog.cellsOf 3) _ = _; rw [Try.cellsI]; rfl)
        obtain ⟨a2, e2, _⟩ := intFA (v := c2) (x := x2) Try.underlying3 (by simpa using hall 2 _ rfl) (by show List.take (Try.prog.cellsOf 3) _ = _; rw [Try.cellsI]; rfl)
        obtain ⟨a3, e3, _⟩ := intFA (v := c3) (x := x3) Try.underlying3 (by simpa using hall 3 _ rfl) (by show List.take (Try.prog.cellsOf 3) _ = _; rw [Try.cellsI]; rfl)
        subst e0 e1 e2 e3
        have g0 := hcell 0 (by omega)
        have g1 := hcell 1 (by omega)
        have g2 := hcell 2 (by omega)
        have g3 := hcell 3 (by omega)
        rw [Go.Deep.add_add] at g0 g1 g2 g3
        exact ⟨(a0, a1, a2, a3), by simpa using g0, by simpa using g1, by simpa using g2, by simpa using g3⟩
    obtain ⟨L, hL, hQ⟩ := listOfA len each
    refine ⟨L, ⟨some a, m, by rw [hL], ?_⟩, by rw [hL]; unfold reachBytes at hlen; omega⟩
    by_cases h0 : len = 0
    · exact .inl (List.eq_nil_of_length_eq_zero (by omega))
    · obtain ⟨b, off, spot⟩ := a
      obtain ⟨s0, hc0, _⟩ := each 0 (by omega)
      have hspot : spot = none := by simpa [Addr.add] using World.cell?_spot hc0
      subst hspot
      have hbW : b < W.heap.size := hlt (.cell b off) (List.mem_append_left _ (MemPlace.mem_row.2 ⟨0, by omega, by simp⟩))
      refine .inr ⟨b, off, rfl, hbW, fun j s hj => ?_⟩
      obtain ⟨g0, g1, g2, g3⟩ := hQ j s hj
      rw [add_plain] at g0 g1 g2 g3
      exact ⟨g0, by rw [Nat.add_assoc]; exact g1, by rw [Nat.add_assoc]; exact g2, by rw [Nat.add_assoc]; exact g3⟩
end Go.Proofs.Ytegemfkadclnkaa
