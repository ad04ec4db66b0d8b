/-
  My own text: layer 23: rows of pairs among the arguments.
-/
import Derived.Test.YtfhimhjeilnkaaaDoorRows
import Derived.Test.YtfhimhjeilnkaaaDoorGTR
import Derived.ProofKit
import Derived.OpenShut
import Derived.ChangeSame
import Derived.ChangeSlices
import Derived.JoinedOf
import Derived.JoinedCond
import Derived.Carry
import Derived.RowKit
import Derived.RowKitTokens
import Derived.Deep.Slices
import Derived.SizedLaws
import Derived.HandedShaped
namespace Go.Proofs.YtfhimhjeilnkaaaDoor
open Go.ChangeShapes Go.WideShapes Go.ChangeAt Go.RowKit

theorem Tryd.laidOutA : laidOutB Tryd.prog = true := by kernel_rfl
theorem Tryd.cellsS2 : Tryd.prog.cellsOf 38 = 2 := by kernel_rfl
theorem Tryd.bytesS2 : Tryd.prog.bytesOf 38 = 16 := by kernel_rfl
theorem Tryd.cellsI : Tryd.prog.cellsOf 3 = 1 := by kernel_rfl
section
variable {H : Type} {enc : TypeId × Value → H} {P : Program} {w : World} {base : Nat} {spare : Nat → Bool} {held : Bool} {t : TypeId} {cs : List Value} {v : Value} {n : Nat} {x : DataW H × List MemPlace}
theorem intFA {k : IntKind} (ht : P.underlying t = some (.int k)) (h : DataW.trod enc P w base spare held n t cs = some x) (hc : cs = [v]) :
    ∃ a, v = .int k a ∧ (Lit.int k a).wf = true := by
  obtain ⟨a, e, hx, hw⟩ := DataW.trod_int ht h
  rw [hc] at e
  exact ⟨a, by simpa using e, hw⟩
end
theorem listOfA {α : Type} {Q : Nat → α → Prop} : ∀ n : Nat, (∀ j, j < n → ∃ p, Q j p) → ∃ l : List α, l.length = n ∧ ∀ j p, l[j]? = some p → Q j p
  | 0, _ => ⟨[], rfl, fun j p h => by simp at h⟩
  | n + 1, h => by
    obtain ⟨l, hl, hq⟩ := listOfA n (fun j hj => h j (by omega))
    obtain ⟨p, hp⟩ := h n (by omega)
    refine ⟨l ++ [p], by simp [hl], fun j p' hj => ?_⟩
    by_cases hjn : j < n
    · rw [List.getElem?_append_left (by omega)] at hj; exact hq j p' hj
    · rw [List.getElem?_append_right (by omega)] at hj
      have : j - l.length = 0 := by
        have := (List.getElem?_eq_some_iff.1 hj).1
        simp at this; omega
      rw [this] at hj
      have hj' : j = n := by omega
      simp at hj; subst hj; rw [hj']; exact hp
set_option maxRecDepth 100000 in
theorem open_twos {H : Type} {enc : TypeId × Value → H} {W : World} {v : Value} {d : DataW H} {p : List MemPlace}
    (hok : ∃ a len cap, v = .slice a len cap) (h : DataW.Trod enc Tryd.prog W 0 (fun _ => true) true 39 v d p) (hlt : ∀ x ∈ p, x.block < W.heap.size)
    (hs : ∀ elems spare, d = .slice elems spare → (elems.length + spare.length) * 16 ≤ reachBytes) :
    ∃ L : List TW.El, TW.RM W v L ∧ L.length ≤ 8796093021952 := by
  obtain ⟨a0, len, cap, rfl⟩ := hok
  obtain ⟨fuel, hf⟩ := h
  rcases Go.Deep.open_slice Tryd.underlying39 hf with ⟨hcs, hx⟩ | ⟨a, len', cap', m, n, D, Pl, hcs, hb, hl, hm, hmm, hx, hel⟩
  · simp [Value.cells] at hcs
    obtain ⟨rfl, rfl, rfl⟩ := hcs
    exact ⟨[], TW.RM.nil W, by simp⟩
  · simp [Value.cells] at hcs
    obtain ⟨rfl, rfl, rfl⟩ := hcs
    have hp : p = _ := (Prod.mk.inj hx).2
    have hd : d = _ := (Prod.mk.inj hx).1
    rw [hp, Tryd.cellsS2] at hlt
    rw [Tryd.cellsS2] at hel
    simp only [if_true] at hmm
    subst hmm
    have hlen : len * 16 ≤ reachBytes := by
      have := hs _ _ hd
      simp only [List.length_map, List.length_range] at this
      omega
    clear hx hp hf hd
    have each : ∀ i, i < len → ∃ s : TW.El, W.cell? (a.add (i * 2)) = some (.int .i64 s.1) ∧ W.cell? (a.add (i * 2 + 1)) = some (.int .i64 s.2) := by
      intro i hi
      obtain ⟨cs', h1, h2⟩ := hel i (by omega)
      clear hel hlt
      obtain ⟨_, hlen', hcell⟩ := World.cells?_some h1
      obtain ⟨xs, k, _, hxy, _, hxl, hall⟩ := DataW.trod_array Tryd.underlying38 h2
      rw [Tryd.cellsI] at hall
      match xs, hxl, cs', hlen' with
      | [x0, x1], _, [c0, c1], _ =>
        obtain ⟨a0, e0, _⟩ := intFA (v := c0) (x := x0) Tryd.underlying3 (by simpa using hall 0 (by omega)) rfl
        obtain ⟨a1, e1, _⟩ := intFA (v := c1) (x := x1) Tryd.underlying3 (by simpa using hall 1 (by omega)) rfl
        subst e0 e1
        have g0 := hcell 0 (by omega)
        have g1 := hcell 1 (by omega)
        rw [Go.Deep.add_add] at g0 g1
        exact ⟨(a0, a1), by simpa using g0, by simpa using g1⟩
    obtain ⟨L, hL, hQ⟩ := listOfA len each
    refine ⟨L, ⟨some a, m, by rw [hL], by omega, ?_⟩, by rw [hL]; unfold reachBytes at hlen; omega⟩
    by_cases h0 : len = 0
    · exact .inl (List.eq_nil_of_length_eq_zero (by omega))
    · obtain ⟨b, off, spot⟩ := a
      obtain ⟨s0, hc0, _⟩ := each 0 (by omega)
      have hspot : spot = none := by simpa [Addr.add] using World.cell?_spot hc0
      subst hspot
      have hbW : b < W.heap.size := hlt (.cell b off) (List.mem_append_left _ (MemPlace.mem_row.2 ⟨0, by omega, by simp⟩))
      refine .inr ⟨b, off, rfl, hbW, fun j s hj => ?_⟩
      obtain ⟨g0, g1⟩ := hQ j s hj
      rw [add_plain] at g0 g1
      exact ⟨g0, by rw [Nat.add_assoc]; exact g1⟩
end Go.Proofs.YtfhimhjeilnkaaaDoor
