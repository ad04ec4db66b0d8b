/-
  My own text: Row, SNArg in one.
-/
import Derived.Test.YtehacdijleommaaGreatDoorRows
import Derived.Test.YtehacdijleommaaGreatDoorTie
import Derived.Test.YtehacdijleommaaGreatDoorCards
import Derived.Test.YtehacdijleommaaGreatDoorErrV
import Derived.ProofKit
import Derived.OpenShut
import Derived.ChangeSame
import Derived.ChangeVars
import Derived.JoinedOf
import Derived.RowKit
import Derived.RowKitTokens
import Derived.LaidLaws
import Derived.LaidHandle
import Derived.LaidMore
import Derived.SevenTiedAt
import Derived.Test.YtehacdijleommaaGreatDoorSN13
import Derived.Deep.Slices
import Derived.SizedLaws
namespace Go.Proofs.YtehacdijleommaaGreatDoor
open Go.ChangeShapes Go.WideShapes Go.RowKit

theorem Tryz.own : ownKnob Tryz.prog.godebug = none := by kernel_rfl
theorem Tryz.et : Tryz.prog.globalNamed "errors.errorType" = some 0 := by kernel_rfl
theorem Tryz.rt : (Tryz.prog.cutTypes.find? (·.1 == "internal/reflectlite.rtype")).map (·.2) = some 156 := by kernel_rfl
theorem Tryz.oneRow : ((List.range 214).filter fun t => Tryz.prog.rowNamed t [101, 114, 114, 111, 114]) = [53] := by kernel_rfl
theorem Tryz.size : Tryz.prog.types.size = 214 := by kernel_rfl
def laidE : List (String × DataW Unit) := [("errors.errorType", Rows.laid_errors_errorType)]

/-- WHAT THE CONDITION GIVES A WALK: the variable's one cell. -/
theorem errType_of_laid {W : World} (h : laidMetH Tryz.prog laidE W) : ErrType W := by
  have h' : laidMet Tryz.prog [] W ∧ handlesMet Tryz.prog laidE W := h
  obtain ⟨name, u, ty, e1, e2, e3, e4, e5⟩ := h'.2 _ (List.mem_singleton.2 rfl)
  have en : name = [101, 114, 114, 111, 114] := (Option.some.inj e1).symm
  subst en
  obtain rfl := Option.some.inj (Tryz.rt.symm.trans e2)
  have hm : ty ∈ (List.range 214).filter fun t => Tryz.prog.rowNamed t [101, 114, 114, 111, 114] := List.mem_filter.2 ⟨List.mem_range.2 (by rw [← Tryz.size]; exact e3), e4⟩
  rw [Tryz.oneRow] at hm
  obtain rfl := List.mem_singleton.1 hm
  have hh : typeHandle Tryz.prog 53 = .pointer (some ⟨1, 53, none⟩) := by kernel_rfl
  rw [hh] at e5
  unfold ErrType
  simpa using World.var?_cell Tryz.et e5 0

/-- The heap that the door's own run leaves meets the condition. -/
theorem door_met (os : Os) (args : Array Value) : laidMetH Tryz.prog laidE ((World.doorLaid Tryz.prog 400 os).forCall (fun _ _ => 0) ⟨#[], args, []⟩).memory :=
  laidMetH_of_parts (laidMet_nil _ _) (by kernel_rfl)
end Go.Proofs.YtehacdijleommaaGreatDoor
namespace Go.Proofs.YtehacdijleommaaGreatDoor
open Go.ChangeShapes Go.WideShapes Go.ChangeAt Go.RowKit

theorem Tryz.laidOutA : laidOutB Tryz.prog = true := by kernel_rfl
theorem Tryz.cellsIA : Tryz.prog.cellsOf 3 = 1 := by kernel_rfl
theorem Tryz.cellsSA : Tryz.prog.cellsOf 9 = 1 := by kernel_rfl
theorem Tryz.cellsKA : Tryz.prog.cellsOf 29 = 2 := by kernel_rfl
theorem Tryz.cellsCall : Tryz.prog.cellsOf 31 = 6 := by kernel_rfl
theorem Tryz.bytesCall : Tryz.prog.bytesOf 31 = 56 := by kernel_rfl
section
variable {H : Type} {enc : TypeId × Value → H} {P : Program} {w : World} {base : Nat} {spare : Nat → Bool} {held : Bool} {t : TypeId} {cs : List Value} {v : Value} {n : Nat} {x : DataW H × List MemPlace}
theorem intFA {k : IntKind} (ht : P.underlying t = some (.int k)) (h : DataW.trod enc P w base spare held n t cs = some x) (hc : cs = [v]) :
    ∃ a, v = .int k a ∧ (Lit.int k a).wf = true := by
  obtain ⟨a, e, hx, hw⟩ := DataW.trod_int ht h
  rw [hc] at e
  exact ⟨a, by simpa using e, hw⟩
theorem strFA (ht : P.underlying t = some .string) (h : DataW.trod enc P w base spare held n t cs = some x) (hc : cs = [v]) :
    ∃ s : List UInt8, v = .string ⟨s.toArray⟩ := by
  obtain ⟨⟨⟨s⟩⟩, e, hx, _⟩ := DataW.trod_string ht h
  rw [hc] at e
  exact ⟨s, by simpa using e⟩
end
theorem listOfA {α : Type} {Q : Nat → α → Prop} : ∀ n : Nat, (∀ j, j < n → ∃ p, Q j p) → ∃ l : List α, l.length = n ∧ ∀ j p, l[j]? = some p → Q j p
  | 0, _ => ⟨[], rfl, fun j p h => by simp at h⟩
  | n + 1, h => by
    obtain ⟨l, hl, hq⟩ := listOfA n (fun j hj => h j (by omega))
    obtain ⟨p, hp⟩ := h n (by omega)
    refine ⟨l ++ [p], by simp [hl], fun j p' hj => ?_⟩
    by_cases hjn : j < n
    · rw [List.getElem?_append_left (by omega)] at hj; exact hq j p' hj
    · rw [List.getElem?_append_right (by omega)] at hj
      have : j - l.length = 0 := by
        have := (List.getElem?_eq_some_iff.1 hj).1
        simp at this; omega
      rw [this] at hj
      have hj' : j = n := by omega
      simp at hj; subst hj; rw [hj']; exact hp
set_option maxRecDepth 100000 in
theorem open_calls {H : Type} {enc : TypeId × Value → H} {W : World} {v : Value} {n : Nat} {x : DataW H × List MemPlace}
    (h : DataW.trod enc Tryz.prog W 0 (fun _ => true) true n 22 [v] = some x)
    (hs : ∀ m ∈ x.1.weights Tryz.prog 22, m ≤ reachBytes) :
    ∃ ps : List Cl, RCl W v ps ∧ (∀ p ∈ ps, KOK p.k ∧ IOK p.N ∧ p.N ≤ 9223372036854775807) ∧ ps.length ≤ 2600000000000 := by
  rcases Go.Deep.open_slice Tryz.underlying22 h with ⟨hcs, hx⟩ | ⟨a, len, cap, m, n', D, Pl, hcs, hb, hl, hm, hmm, hx, hel⟩
  · obtain rfl : v = .slice none 0 0 := by simpa using hcs
    exact ⟨[], ⟨_, _, rfl, fun i p hp => by simp at hp⟩, (fun p hp => by cases hp), by simp⟩
  · obtain rfl : v = .slice (some a) len cap := by simpa using hcs
    have hdd : x.1 = _ := congrArg Prod.fst hx
    rw [Tryz.cellsCall] at hel
    clear hx
    simp only [if_true] at hmm
    subst hmm
    have hlen : len * 56 ≤ reachBytes := by
      have := hs ((((List.range len).map D).length + ((List.range (m - len)).map fun j => D (len + j)).length) * Tryz.prog.bytesOf 31) (by rw [hdd]; simp only [DataW.weights, Tryz.underlying22]; exact List.mem_cons_self)
      rw [Tryz.bytesCall] at this
      simp only [List.length_map, List.length_range] at this
      omega
    have each : ∀ i, i < len → ∃ p : Cl, (W.cell? (a.add (i * 6)) = some (.int .i64 p.on) ∧ W.cell? (a.add (i * 6 + 1)) = some (.int .i64 p.kind) ∧ W.cell? (a.add (i * 6 + 2)) = some (.int .i64 p.k.1) ∧ W.cell? (a.add (i * 6 + 3)) = some (.int .i64 p.k.2) ∧ W.cell? (a.add (i * 6 + 4)) = some (.int .i64 p.N) ∧ W.cell? (a.add (i * 6 + 5)) = some (.string ⟨p.V.toArray⟩)) ∧ KOK p.k ∧ IOK p.N ∧ p.N ≤ 9223372036854775807 := by
      intro i hi
      obtain ⟨cs', h1, h2⟩ := hel i (by omega)
      obtain ⟨_, hlen', hcell⟩ := World.cells?_some h1
      obtain ⟨xs, k, _, hxy, _, hxl, hall⟩ := DataW.trod_struct Tryz.underlying31 h2
      match xs, hxl, cs', hlen' with
      | [x0, x1, x2, x3, x4], _, [c0, c1, c2, c3, c4, c5], _ =>
        obtain ⟨a0, e0, _⟩ := intFA (v := c0) (x := x0) Tryz.underlying3 (by simpa using hall 0 _ rfl) (by show List.take (Tryz.prog.cellsOf 3) _ = _; rw [Tryz.cellsIA]; rfl)
        obtain ⟨a1, e1, _⟩ := intFA (v := c1) (x := x1) Tryz.underlying3 (by simpa using hall 1 _ rfl) (by show List.take (Tryz.prog.cellsOf 3) _ = _; rw [Tryz.cellsIA]; rfl)
        obtain ⟨ys, k', _, _, _, hyl, hally⟩ := DataW.trod_struct Tryz.underlying29 (show DataW.trod enc Tryz.prog W 0 (fun _ => true) true k 29 [c2, c3] = some x2 by
          have this : DataW.trod enc Tryz.prog W 0 (fun _ => true) true k 29 (List.take (Tryz.prog.cellsOf 29) (List.drop 2 [c0, c1, c2, c3, c4, c5])) = some x2 := hall 2 _ rfl
          rw [Tryz.cellsKA] at this
          exact this)
        match ys, hyl with
        | [y0, y1], _ =>
          obtain ⟨k0, f0, v0⟩ := intFA (v := c2) (x := y0) Tryz.underlying3 (by simpa using hally 0 _ rfl) (by show List.take (Tryz.prog.cellsOf 3) _ = _; rw [Tryz.cellsIA]; rfl)
          obtain ⟨k1, f1, v1⟩ := intFA (v := c3) (x := y1) Tryz.underlying3 (by simpa using hally 1 _ rfl) (by show List.take (Tryz.prog.cellsOf 3) _ = _; rw [Tryz.cellsIA]; rfl)
          obtain ⟨a4, e4, w4⟩ := intFA (v := c4) (x := x3) Tryz.underlying3 (by simpa using hall 3 _ rfl) (by show List.take (Tryz.prog.cellsOf 3) _ = _; rw [Tryz.cellsIA]; rfl)
          obtain ⟨r, e5⟩ := strFA (v := c5) (x := x4) Tryz.underlying9 (by simpa using hall 4 _ rfl) (by show List.take (Tryz.prog.cellsOf 9) _ = _; rw [Tryz.cellsSA]; rfl)
          subst e0 e1 f0 f1 e4 e5
          have g0 := hcell 0 (by omega)
          have g1 := hcell 1 (by omega)
          have g2 := hcell 2 (by omega)
          have g3 := hcell 3 (by omega)
          have g4 := hcell 4 (by omega)
          have g5 := hcell 5 (by omega)
          rw [Go.Deep.add_add] at g0 g1 g2 g3 g4 g5
          exact ⟨⟨a0, a1, (k0, k1), a4, r⟩, ⟨by simpa using g0, by simpa using g1, by simpa using g2, by simpa using g3, by simpa using g4, by simpa using g5⟩, ⟨v0, v1⟩, w4, (bounds_i64 w4).2⟩
    obtain ⟨ps, hpl, hps⟩ := listOfA len each
    refine ⟨ps, ⟨some a, m, by rw [hpl], fun j p hj => ?_⟩, fun p hp => ?_, by rw [hpl]; unfold reachBytes at hlen; omega⟩
    · obtain ⟨⟨g0, g1, g2, g3, g4, g5⟩, _⟩ := hps j p hj
      have hjl := (List.getElem?_eq_some_iff.1 hj).1
      obtain ⟨p0, ⟨hc0, _⟩, _⟩ := each 0 (by omega)
      obtain ⟨b, off, spot⟩ := a
      have hspot : spot = none := by simpa [Addr.add] using World.cell?_spot hc0
      subst hspot
      rw [Addr.add_lit] at g0 g1 g2 g3 g4 g5
      exact ⟨b, off, rfl, g0, by rw [← Nat.add_assoc] at g1; exact g1, by rw [← Nat.add_assoc] at g2; exact g2, by rw [← Nat.add_assoc] at g3; exact g3, by rw [← Nat.add_assoc] at g4; exact g4, by rw [← Nat.add_assoc] at g5; exact g5⟩
    · obtain ⟨j, hj⟩ := List.getElem?_of_mem hp
      exact (hps j p hj).2
end Go.Proofs.YtehacdijleommaaGreatDoor
