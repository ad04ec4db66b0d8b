/-
  My own text: calls among the arguments: one, a row of them.
-/
import Derived.Test.YtmebomifakmkbaaDoorBC
import Derived.Test.YtmebomifakmkbaaDoorBArg
namespace Go.Proofs.YtmebomifakmkbaaDoor
open Go.ChangeShapes Go.WideShapes Go.ChangeAt Go.RowKit

theorem Tryd.cellsCall : Tryd.prog.cellsOf 40 = 3 := by kernel_rfl
theorem Tryd.bytesCall : Tryd.prog.bytesOf 40 = 24 := by kernel_rfl
set_option maxRecDepth 100000 in
theorem open_script {H : Type} {enc : TypeId × Value → H} {W : World} {v : Value} {n : Nat} {x : DataW H × List MemPlace}
    (h : DataW.trod enc Tryd.prog W 0 (fun _ => true) true n 48 [v] = some x) (hlt : ∀ y ∈ x.2, y.block < W.heap.size)
    (hs : ∀ m ∈ x.1.weights Tryd.prog 48, m ≤ reachBytes) :
    ∃ ps : List Cl, SC W v ps ∧ (∀ p ∈ ps, p.2.1 ≤ top) ∧ ps.length ≤ 4611686018427387904 := by
  rcases Go.Deep.open_slice Tryd.underlying48 h with ⟨hcs, hx⟩ | ⟨a, len, cap, m, n', D, Pl, hcs, hb, hl, hm, hmm, hx, hel⟩
  · obtain rfl : v = .slice none 0 0 := by simpa using hcs
    exact ⟨[], ⟨_, _, rfl, .inl rfl⟩, (fun p hp => by cases hp), by simp⟩
  · obtain rfl : v = .slice (some a) len cap := by simpa using hcs
    have hp : x.2 = _ := congrArg Prod.snd hx
    have hdd : x.1 = _ := congrArg Prod.fst hx
    rw [hp, Tryd.cellsCall] at hlt
    rw [Tryd.cellsCall] at hel
    clear hx hp
    simp only [if_true] at hmm
    subst hmm
    have hlen : len * 24 ≤ reachBytes := by
      have := hs ((((List.range len).map D).length + ((List.range (m - len)).map fun j => D (len + j)).length) * Tryd.prog.bytesOf 40) (by rw [hdd]; simp only [DataW.weights, Tryd.underlying48]; exact List.mem_cons_self)
      rw [Tryd.bytesCall] at this
      simp only [List.length_map, List.length_range] at this
      omega
    have each : ∀ i, i < len → ∃ p : Cl, (W.cell? (a.add (i * 3)) = some (.int .i64 p.1) ∧ W.cell? (a.add (i * 3 + 1)) = some (.int .i64 p.2.1) ∧ W.cell? (a.add (i * 3 + 2)) = some (.int .i64 p.2.2)) ∧ p.2.1 ≤ top := by
      intro i hi
      obtain ⟨cs', h1, h2⟩ := hel i (by omega)
      obtain ⟨_, hlen', hcell⟩ := World.cells?_some h1
      obtain ⟨xs, k, _, hxy, _, hxl, hall⟩ := DataW.trod_struct Tryd.underlying40 h2
      match xs, hxl, cs', hlen' with
      | [x0, x1, x2], _, [c0, c1, c2], _ =>
        obtain ⟨a0, e0, w0⟩ := intFA (v := c0) (x := x0) Tryd.underlying3 (by simpa using hall 0 _ rfl) (by show List.take (Tryd.prog.cellsOf 3) _ = _; rw [Tryd.cellsIA]; rfl)
        obtain ⟨a1, e1, w1⟩ := intFA (v := c1) (x := x1) Tryd.underlying2 (by simpa using hall 1 _ rfl) (by show List.take (Tryd.prog.cellsOf 2) _ = _; rw [Tryd.cellsI6]; rfl)
        obtain ⟨a2, e2, w2⟩ := intFA (v := c2) (x := x2) Tryd.underlying3 (by simpa using hall 2 _ rfl) (by show List.take (Tryd.prog.cellsOf 3) _ = _; rw [Tryd.cellsIA]; rfl)
        subst e0 e1 e2
        have g0 := hcell 0 (by omega)
        have g1 := hcell 1 (by omega)
        have g2 := hcell 2 (by omega)
        rw [Go.Deep.add_add] at g0 g1 g2
        exact ⟨(a0, a1, a2), ⟨by simpa using g0, by simpa using g1, by simpa using g2⟩, (i64_in w1).2⟩
    obtain ⟨ps, hpl, hps⟩ := listOfA len each
    refine ⟨ps, ⟨some a, m, by rw [hpl], ?_⟩, fun p hp => ?_, by rw [hpl]; unfold reachBytes at hlen; omega⟩
    · by_cases h0 : len = 0
      · left; exact List.length_eq_zero_iff.1 (by omega)
      · right
        obtain ⟨b, off, spot⟩ := a
        obtain ⟨p0, ⟨hc0, _⟩, _⟩ := each 0 (by omega)
        have hspot : spot = none := by simpa [Addr.add] using World.cell?_spot hc0
        subst hspot
        have hbW : b < W.heap.size := hlt (.cell b off) (List.mem_append_left _ (MemPlace.mem_row.2 ⟨0, by omega, by simp⟩))
        refine ⟨b, off, rfl, hbW, fun j p hj => ?_⟩
        obtain ⟨⟨g0, g1, g2⟩, _⟩ := hps j p hj
        rw [Addr.add_lit] at g0 g1 g2
        exact ⟨g0, by rw [← Nat.add_assoc] at g1; exact g1, by rw [← Nat.add_assoc] at g2; exact g2⟩
    · obtain ⟨j, hj⟩ := List.getElem?_of_mem hp
      exact (hps j p hj).2
set_option maxRecDepth 100000 in
theorem open_call {H : Type} {enc : TypeId × Value → H} {W : World} {r : Reach} {bb : Nat} {v : Value} {d : DataW H} {p : List MemPlace}
    (hv : Value.okWide Tryd.prog W r bb 40 v) (h : DataW.Trod enc Tryd.prog W 0 (fun _ => true) true 40 v d p) :
    ∃ (k q n : Int), v = .agg #[.int .i64 k, .int .i64 q, .int .i64 n] ∧ q ≤ top ∧ -9223372036854775808 ≤ q := by
  obtain ⟨cs, rfl, hsz⟩ := okWide_struct Tryd.underlying40 hv
  rw [Tryd.cellsCall] at hsz
  obtain ⟨l⟩ := cs
  clear hv
  match l, hsz with
  | [c0, c1, c2], _ =>
    obtain ⟨fuel, hf⟩ := h
    obtain ⟨xs, k, _, hx, _, hlen, hall⟩ := DataW.trod_struct Tryd.underlying40 hf
    match xs, hlen with
    | [x0, x1, x2], _ =>
      obtain ⟨a0, e0, w0⟩ := intFA (v := c0) (x := x0) Tryd.underlying3 (by simpa using hall 0 _ rfl) (by show List.take (Tryd.prog.cellsOf 3) _ = _; rw [Tryd.cellsIA]; rfl)
      obtain ⟨a1, e1, w1⟩ := intFA (v := c1) (x := x1) Tryd.underlying2 (by simpa using hall 1 _ rfl) (by show List.take (Tryd.prog.cellsOf 2) _ = _; rw [Tryd.cellsI6]; rfl)
      obtain ⟨a2, e2, w2⟩ := intFA (v := c2) (x := x2) Tryd.underlying3 (by simpa using hall 2 _ rfl) (by show List.take (Tryd.prog.cellsOf 3) _ = _; rw [Tryd.cellsIA]; rfl)
      subst e0 e1 e2
      exact ⟨a0, a1, a2, rfl, (i64_in w1).2, (i64_in w1).1⟩
end Go.Proofs.YtmebomifakmkbaaDoor
