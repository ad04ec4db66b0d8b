/-
  My own text: calls of a chain among the arguments.
-/
import Derived.Test.YtechjcmolccdjaaDoorHD8
import Derived.Test.YtechjcmolccdjaaDoorHCArg
namespace Go.Proofs.YtechjcmolccdjaaDoor
open Go.ChangeShapes Go.WideShapes Go.ChangeAt Go.RowKit

theorem Tryd.cellsOp : Tryd.prog.cellsOf 29 = 4 := by kernel_rfl
theorem Tryd.bytesOp : Tryd.prog.bytesOf 29 = 40 := by kernel_rfl
set_option maxRecDepth 100000 in
theorem open_ops {H : Type} {enc : TypeId × Value → H} {W : World} {v : Value} {n : Nat} {x : DataW H × List MemPlace}
    (h : DataW.trod enc Tryd.prog W 0 (fun _ => true) true n 22 [v] = some x)
    (hs : ∀ m ∈ x.1.weights Tryd.prog 22, m ≤ reachBytes) :
    ∃ ps : List Oq, ROp W v ps ∧ (∀ p ∈ ps, p.2.2.1 ≤ 9223372036854775807) ∧ ps.length ≤ 3600000000000 := by
  rcases Go.Deep.open_slice Tryd.underlying22 h with ⟨hcs, hx⟩ | ⟨a, len, cap, m, n', D, Pl, hcs, hb, hl, hm, hmm, hx, hel⟩
  · obtain rfl : v = .slice none 0 0 := by simpa using hcs
    exact ⟨[], ⟨_, _, rfl, fun i p hp => by simp at hp⟩, (fun p hp => by cases hp), by simp⟩
  · obtain rfl : v = .slice (some a) len cap := by simpa using hcs
    have hdd : x.1 = _ := congrArg Prod.fst hx
    rw [Tryd.cellsOp] at hel
    clear hx
    simp only [if_true] at hmm
    subst hmm
    have hlen : len * 40 ≤ reachBytes := by
      have := hs ((((List.range len).map D).length + ((List.range (m - len)).map fun j => D (len + j)).length) * Tryd.prog.bytesOf 29) (by rw [hdd]; simp only [DataW.weights, Tryd.underlying22]; exact List.mem_cons_self)
      rw [Tryd.bytesOp] at this
      simp only [List.length_map, List.length_range] at this
      omega
    have each : ∀ i, i < len → ∃ p : Oq, (W.cell? (a.add (i * 4)) = some (.int .i64 p.1) ∧ W.cell? (a.add (i * 4 + 1)) = some (.int .i64 p.2.1) ∧ W.cell? (a.add (i * 4 + 2)) = some (.int .i64 p.2.2.1) ∧ W.cell? (a.add (i * 4 + 3)) = some (.string ⟨p.2.2.2.toArray⟩)) ∧ p.2.2.1 ≤ 9223372036854775807 := by
      intro i hi
      obtain ⟨cs', h1, h2⟩ := hel i (by omega)
      obtain ⟨_, hlen', hcell⟩ := World.cells?_some h1
      obtain ⟨xs, k, _, hxy, _, hxl, hall⟩ := DataW.trod_struct Tryd.underlying29 h2
      match xs, hxl, cs', hlen' with
      | [x0, x1, x2, x3], _, [c0, c1, c2, c3], _ =>
        obtain ⟨b0, e0, _⟩ := intFA (v := c0) (x := x0) Tryd.underlying3 (by simpa using hall 0 _ rfl) (by show List.take (Tryd.prog.cellsOf 3) _ = _; rw [Tryd.cellsIA]; rfl)
        obtain ⟨a1, e1, _⟩ := intFA (v := c1) (x := x1) Tryd.underlying3 (by simpa using hall 1 _ rfl) (by show List.take (Tryd.prog.cellsOf 3) _ = _; rw [Tryd.cellsIA]; rfl)
        obtain ⟨a2, e2, w2⟩ := intFA (v := c2) (x := x2) Tryd.underlying3 (by simpa using hall 2 _ rfl) (by show List.take (Tryd.prog.cellsOf 3) _ = _; rw [Tryd.cellsIA]; rfl)
        obtain ⟨r, e3⟩ := strFA (v := c3) (x := x3) Tryd.underlying9 (by simpa using hall 3 _ rfl) (by show List.take (Tryd.prog.cellsOf 9) _ = _; rw [Tryd.cellsSA]; rfl)
        subst e0 e1 e2 e3
        have g0 := hcell 0 (by omega)
        have g1 := hcell 1 (by omega)
        have g2 := hcell 2 (by omega)
        have g3 := hcell 3 (by omega)
        rw [Go.Deep.add_add] at g0 g1 g2 g3
        exact ⟨(b0, a1, a2, r), ⟨by simpa using g0, by simpa using g1, by simpa using g2, by simpa using g3⟩, (bounds_i64 w2).2⟩
    obtain ⟨ps, hpl, hps⟩ := listOfA len each
    refine ⟨ps, ⟨some a, m, by rw [hpl], fun j p hj => ?_⟩, fun p hp => ?_, by rw [hpl]; unfold reachBytes at hlen; omega⟩
    · obtain ⟨⟨g0, g1, g2, g3⟩, _⟩ := hps j p hj
      have hjl := (List.getElem?_eq_some_iff.1 hj).1
      obtain ⟨p0, ⟨hc0, _⟩, _⟩ := each 0 (by omega)
      obtain ⟨b, off, spot⟩ := a
      have hspot : spot = none := by simpa [Addr.add] using World.cell?_spot hc0
      subst hspot
      rw [Addr.add_lit] at g0 g1 g2 g3
      exact ⟨b, off, rfl, g0, by rw [← Nat.add_assoc] at g1; exact g1, by rw [← Nat.add_assoc] at g2; exact g2, by rw [← Nat.add_assoc] at g3; exact g3⟩
    · obtain ⟨j, hj⟩ := List.getElem?_of_mem hp
      exact (hps j p hj).2
end Go.Proofs.YtechjcmolccdjaaDoor
