/-
  My own text: acts among the arguments.
-/
import Derived.Test.YtechjcmolccdjaaDoorHC9
import Derived.Test.YtechjcmolccdjaaDoorRow
import Derived.Deep.Slices
import Derived.SizedLaws
namespace Go.Proofs.YtechjcmolccdjaaDoor
open Go.ChangeShapes Go.WideShapes Go.ChangeAt Go.RowKit

theorem Tryd.laidOutA : laidOutB Tryd.prog = true := by kernel_rfl
theorem Tryd.cellsIA : Tryd.prog.cellsOf 3 = 1 := by kernel_rfl
theorem Tryd.cellsSA : Tryd.prog.cellsOf 9 = 1 := by kernel_rfl
theorem Tryd.cellsBA : Tryd.prog.cellsOf 4 = 1 := by kernel_rfl
theorem Tryd.cellsAct : Tryd.prog.cellsOf 64 = 3 := by kernel_rfl
theorem Tryd.bytesAct : Tryd.prog.bytesOf 64 = 32 := by kernel_rfl
section
variable {H : Type} {enc : TypeId × Value → H} {P : Program} {w : World} {base : Nat} {spare : Nat → Bool} {held : Bool} {t : TypeId} {cs : List Value} {v : Value} {n : Nat} {x : DataW H × List MemPlace}
theorem intFA {k : IntKind} (ht : P.underlying t = some (.int k)) (h : DataW.trod enc P w base spare held n t cs = some x) (hc : cs = [v]) :
    ∃ a, v = .int k a ∧ (Lit.int k a).wf = true := by
  obtain ⟨a, e, hx, hw⟩ := DataW.trod_int ht h
  rw [hc] at e
  exact ⟨a, by simpa using e, hw⟩
theorem boolFA (ht : P.underlying t = some .bool) (h : DataW.trod enc P w base spare held n t cs = some x) (hc : cs = [v]) :
    ∃ b, v = .bool b := by
  obtain ⟨a, e, _⟩ := DataW.trod_bool ht h
  rw [hc] at e
  exact ⟨a, by simpa using e⟩
theorem strFA (ht : P.underlying t = some .string) (h : DataW.trod enc P w base spare held n t cs = some x) (hc : cs = [v]) :
    ∃ s : List UInt8, v = .string ⟨s.toArray⟩ := by
  obtain ⟨⟨⟨s⟩⟩, e, hx, _⟩ := DataW.trod_string ht h
  rw [hc] at e
  exact ⟨s, by simpa using e⟩
end
theorem listOfA {α : Type} {Q : Nat → α → Prop} : ∀ n : Nat, (∀ j, j < n → ∃ p, Q j p) → ∃ l : List α, l.length = n ∧ ∀ j p, l[j]? = some p → Q j p
  | 0, _ => ⟨[], rfl, fun j p h => by simp at h⟩
  | n + 1, h => by
    obtain ⟨l, hl, hq⟩ := listOfA n (fun j hj => h j (by omega))
    obtain ⟨p, hp⟩ := h n (by omega)
    refine ⟨l ++ [p], by simp [hl], fun j p' hj => ?_⟩
    by_cases hjn : j < n
    · rw [List.getElem?_append_left (by omega)] at hj; exact hq j p' hj
    · rw [List.getElem?_append_right (by omega)] at hj
      have : j - l.length = 0 := by
        have := (List.getElem?_eq_some_iff.1 hj).1
        simp at this; omega
      rw [this] at hj
      have hj' : j = n := by omega
      simp at hj; subst hj; rw [hj']; exact hp
set_option maxRecDepth 100000 in
theorem open_acts {H : Type} {enc : TypeId × Value → H} {W : World} {v : Value} {n : Nat} {x : DataW H × List MemPlace}
    (h : DataW.trod enc Tryd.prog W 0 (fun _ => true) true n 65 [v] = some x)
    (hs : ∀ m ∈ x.1.weights Tryd.prog 65, m ≤ reachBytes) :
    ∃ ps : List Ac, RAc W v ps ∧ (∀ p ∈ ps, p.2.1 ≤ 9223372036854775807) ∧ ps.length ≤ 5864062014804 := by
  rcases Go.Deep.open_slice Tryd.underlying65 h with ⟨hcs, hx⟩ | ⟨a, len, cap, m, n', D, Pl, hcs, hb, hl, hm, hmm, hx, hel⟩
  · obtain rfl : v = .slice none 0 0 := by simpa using hcs
    exact ⟨[], ⟨_, _, rfl, fun i p hp => by simp at hp⟩, (fun p hp => by cases hp), by simp⟩
  · obtain rfl : v = .slice (some a) len cap := by simpa using hcs
    have hdd : x.1 = _ := congrArg Prod.fst hx
    rw [Tryd.cellsAct] at hel
    clear hx
    simp only [if_true] at hmm
    subst hmm
    have hlen : len * 32 ≤ reachBytes := by
      have := hs ((((List.range len).map D).length + ((List.range (m - len)).map fun j => D (len + j)).length) * Tryd.prog.bytesOf 64) (by rw [hdd]; simp only [DataW.weights, Tryd.underlying65]; exact List.mem_cons_self)
      rw [Tryd.bytesAct] at this
      simp only [List.length_map, List.length_range] at this
      omega
    have each : ∀ i, i < len → ∃ p : Ac, (W.cell? (a.add (i * 3)) = some (.bool p.1) ∧ W.cell? (a.add (i * 3 + 1)) = some (.int .i64 p.2.1) ∧ W.cell? (a.add (i * 3 + 2)) = some (.string ⟨p.2.2.toArray⟩)) ∧ p.2.1 ≤ 9223372036854775807 := by
      intro i hi
      obtain ⟨cs', h1, h2⟩ := hel i (by omega)
      obtain ⟨_, hlen', hcell⟩ := World.cells?_some h1
      obtain ⟨xs, k, _, hxy, _, hxl, hall⟩ := DataW.trod_struct Tryd.underlying64 h2
      match xs, hxl, cs', hlen' with
      | [x0, x1, x2], _, [c0, c1, c2], _ =>
        obtain ⟨b0, e0⟩ := boolFA (v := c0) (x := x0) Tryd.underlying4 (by simpa using hall 0 _ rfl) (by show List.take (Tryd.prog.cellsOf 4) _ = _; rw [Tryd.cellsBA]; rfl)
        obtain ⟨a1, e1, w1⟩ := intFA (v := c1) (x := x1) Tryd.underlying3 (by simpa using hall 1 _ rfl) (by show List.take (Tryd.prog.cellsOf 3) _ = _; rw [Tryd.cellsIA]; rfl)
        obtain ⟨r, e2⟩ := strFA (v := c2) (x := x2) Tryd.underlying9 (by simpa using hall 2 _ rfl) (by show List.take (Tryd.prog.cellsOf 9) _ = _; rw [Tryd.cellsSA]; rfl)
        subst e0 e1 e2
        have g0 := hcell 0 (by omega)
        have g1 := hcell 1 (by omega)
        have g2 := hcell 2 (by omega)
        rw [Go.Deep.add_add] at g0 g1 g2
        exact ⟨(b0, a1, r), ⟨by simpa using g0, by simpa using g1, by simpa using g2⟩, (bounds_i64 w1).2⟩
    obtain ⟨ps, hpl, hps⟩ := listOfA len each
    refine ⟨ps, ⟨some a, m, by rw [hpl], fun j p hj => ?_⟩, fun p hp => ?_, by rw [hpl]; unfold reachBytes at hlen; omega⟩
    · obtain ⟨⟨g0, g1, g2⟩, _⟩ := hps j p hj
      have hjl := (List.getElem?_eq_some_iff.1 hj).1
      obtain ⟨p0, ⟨hc0, _⟩, _⟩ := each 0 (by omega)
      obtain ⟨b, off, spot⟩ := a
      have hspot : spot = none := by simpa [Addr.add] using World.cell?_spot hc0
      subst hspot
      rw [Addr.add_lit] at g0 g1 g2
      exact ⟨b, off, rfl, g0, by rw [← Nat.add_assoc] at g1; exact g1, by rw [← Nat.add_assoc] at g2; exact g2⟩
    · obtain ⟨j, hj⟩ := List.getElem?_of_mem hp
      exact (hps j p hj).2
end Go.Proofs.YtechjcmolccdjaaDoor
