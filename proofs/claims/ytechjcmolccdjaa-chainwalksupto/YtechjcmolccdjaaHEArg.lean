/-
  My own text: acts among the arguments, up to the bound.
-/
import Derived.Test.YtechjcmolccdjaaHE6
import Derived.Test.YtechjcmolccdjaaHCArg
namespace Go.Proofs.Ytechjcmolccdjaa
open Go.ChangeShapes Go.WideShapes Go.ChangeAt Go.RowKit

theorem bulk_oneE {H : Type} (d : DataW H) : 1 ≤ Rows.uptoBulk d := by
  cases d with
  | lit l => cases l <;> simp [Rows.uptoBulk]
  | _ => simp [Rows.uptoBulk]
theorem bulk_len {H : Type} : ∀ l : List (DataW H), l.length ≤ Rows.uptoBulkAll l
  | [] => Nat.zero_le _
  | d :: r => by
    have := bulk_len r
    have := bulk_oneE d
    simp only [Rows.uptoBulkAll, List.length_cons]
    omega
set_option maxRecDepth 100000 in
theorem open_acts_up {H : Type} {enc : TypeId × Value → H} {W : World} {v : Value} {n : Nat} {x : DataW H × List MemPlace}
    (h : DataW.trod enc Try.prog W 0 (fun _ => true) true n 22 [v] = some x) (hs : Rows.uptoBulk x.1 ≤ 1048576) :
    ∃ ps : List Ac, RAc W v ps ∧ (∀ p ∈ ps, p.2.1 ≤ 9223372036854775807) ∧ ps.length ≤ 1048576 := by
  rcases Go.Deep.open_slice Try.underlying22 h with ⟨hcs, hx⟩ | ⟨a, len, cap, m, n', D, Pl, hcs, hb, hl, hm, hmm, hx, hel⟩
  · obtain rfl : v = .slice none 0 0 := by simpa using hcs
    exact ⟨[], ⟨_, _, rfl, fun i p hp => by simp at hp⟩, (fun p hp => by cases hp), by simp⟩
  · obtain rfl : v = .slice (some a) len cap := by simpa using hcs
    have hdd : x.1 = _ := congrArg Prod.fst hx
    rw [Try.cellsAct] at hel
    clear hx
    simp only [if_true] at hmm
    subst hmm
    have hlen : len ≤ 1048576 := by
      have h1 := bulk_len ((List.range len).map D)
      rw [hdd] at hs
      simp only [Rows.uptoBulk] at hs
      simp only [List.length_map, List.length_range] at h1
      omega
    have each : ∀ i, i < len → ∃ p : Ac, (W.cell? (a.add (i * 3)) = some (.bool p.1) ∧ W.cell? (a.add (i * 3 + 1)) = some (.int .i64 p.2.1) ∧ W.cell? (a.add (i * 3 + 2)) = some (.string ⟨p.2.2.toArray⟩)) ∧ p.2.1 ≤ 9223372036854775807 := by
      intro i hi
      obtain ⟨cs', h1, h2⟩ := hel i (by omega)
      obtain ⟨_, hlen', hcell⟩ := World.cells?_some h1
      obtain ⟨xs, k, _, hxy, _, hxl, hall⟩ := DataW.trod_struct Try.underlying34 h2
      match xs, hxl, cs', hlen' with
      | [x0, x1, x2], _, [c0, c1, c2], _ =>
        obtain ⟨b0, e0⟩ := boolFA (v := c0) (x := x0) Try.underlying4 (by simpa using hall 0 _ rfl) (by show List.take (Try.prog.cellsOf 4) _ = _; rw [Try.cellsBA]; rfl)
        obtain ⟨a1, e1, w1⟩ := intFA (v := c1) (x := x1) Try.underlying3 (by simpa using hall 1 _ rfl) (by show List.take (Try.prog.cellsOf 3) _ = _; rw [Try.cellsIA]; rfl)
        obtain ⟨r, e2⟩ := strFA (v := c2) (x := x2) Try.underlying9 (by simpa using hall 2 _ rfl) (by show List.take (Try.prog.cellsOf 9) _ = _; rw [Try.cellsSA]; rfl)
        subst e0 e1 e2
        have g0 := hcell 0 (by omega)
        have g1 := hcell 1 (by omega)
        have g2 := hcell 2 (by omega)
        rw [Go.Deep.add_add] at g0 g1 g2
        exact ⟨(b0, a1, r), ⟨by simpa using g0, by simpa using g1, by simpa using g2⟩, (bounds_i64 w1).2⟩
    obtain ⟨ps, hpl, hps⟩ := listOfA len each
    refine ⟨ps, ⟨some a, m, by rw [hpl], fun j p hj => ?_⟩, fun p hp => ?_, by rw [hpl]; exact hlen⟩
    · obtain ⟨⟨g0, g1, g2⟩, _⟩ := hps j p hj
      have hjl := (List.getElem?_eq_some_iff.1 hj).1
      obtain ⟨p0, ⟨hc0, _⟩, _⟩ := each 0 (by omega)
      obtain ⟨b, off, spot⟩ := a
      have hspot : spot = none := by simpa [Addr.add] using World.cell?_spot hc0
      subst hspot
      rw [Addr.add_lit] at g0 g1 g2
      exact ⟨b, off, rfl, g0, by rw [← Nat.add_assoc] at g1; exact g1, by rw [← Nat.add_assoc] at g2; exact g2⟩
    · obtain ⟨j, hj⟩ := List.getElem?_of_mem hp
      exact (hps j p hj).2
end Go.Proofs.Ytechjcmolccdjaa
