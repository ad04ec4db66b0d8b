/-
  My own text: calls of writers among the arguments.
-/
import Derived.Test.YtejbhminkhoniaaWPut
import Derived.Test.YtejbhminkhoniaaWArg
import Derived.Deep.Slices
namespace Go.Proofs.Ytejbhminkhoniaa
open Go.ChangeShapes Go.WideShapes Go.ChangeAt Go.RowKit

theorem Try.cellsPut : Try.prog.cellsOf 33 = 4 := by kernel_rfl
theorem Try.bytesPut : Try.prog.bytesOf 33 = 40 := by kernel_rfl
theorem Try.cellsI : Try.prog.cellsOf 3 = 1 := by kernel_rfl
theorem Try.cellsU : Try.prog.cellsOf 31 = 1 := by kernel_rfl
theorem Try.cellsS : Try.prog.cellsOf 9 = 1 := by kernel_rfl
theorem intField {H : Type} {enc : TypeId × Value → H} {P : Program} {w : World} {base : Nat} {spare : Nat → Bool} {held : Bool} {t : TypeId} {k : IntKind} {cs : List Value} {v : Value} {n : Nat} {x : DataW H × List MemPlace} (ht : P.underlying t = some (.int k)) (h : DataW.trod enc P w base spare held n t cs = some x) (hc : cs = [v]) :
    ∃ a, v = .int k a ∧ x = (.lit (.int k a), []) ∧ (Lit.int k a).wf = true := by
  obtain ⟨a, e, hx, hw⟩ := DataW.trod_int ht h
  rw [hc] at e
  exact ⟨a, by simpa using e, hx, hw⟩
theorem strField {H : Type} {enc : TypeId × Value → H} {P : Program} {w : World} {base : Nat} {spare : Nat → Bool} {held : Bool} {t : TypeId} {cs : List Value} {v : Value} {n : Nat} {x : DataW H × List MemPlace} (ht : P.underlying t = some .string) (h : DataW.trod enc P w base spare held n t cs = some x) (hc : cs = [v]) :
    ∃ s : List UInt8, v = .string ⟨s.toArray⟩ ∧ x = (.lit (.string s), []) := by
  obtain ⟨a, e, hx, _⟩ := DataW.trod_string ht h
  rw [hc] at e
  obtain ⟨⟨l⟩⟩ := a
  exact ⟨l, by simpa using e, hx⟩
theorem weights_all {H : Type} {P : Program} {e : TypeId} : ∀ {l : List (DataW H)} {d : DataW H}, d ∈ l → ∀ n ∈ d.weights P e, n ∈ DataW.weightsAll P e l
  | d0 :: r, d, h, n, hn => by
    simp only [DataW.weightsAll, List.mem_append]
    rcases List.mem_cons.1 h with rfl | h
    · exact Or.inl hn
    · exact Or.inr (weights_all h n hn)
theorem list_of {α : Type} {Q : Nat → α → Prop} : ∀ n : Nat, (∀ j, j < n → ∃ p, Q j p) → ∃ l : List α, l.length = n ∧ ∀ j p, l[j]? = some p → Q j p
  | 0, _ => ⟨[], rfl, fun j p h => by simp at h⟩
  | n + 1, h => by
    obtain ⟨l, hl, hq⟩ := list_of n (fun j hj => h j (by omega))
    obtain ⟨p, hp⟩ := h n (by omega)
    refine ⟨l ++ [p], by simp [hl], fun j p' hj => ?_⟩
    by_cases hjn : j < n
    · rw [List.getElem?_append_left (by omega)] at hj; exact hq j p' hj
    · rw [List.getElem?_append_right (by omega)] at hj
      have : j - l.length = 0 := by
        have := (List.getElem?_eq_some_iff.1 hj).1
        simp at this; omega
      rw [this] at hj
      have hj' : j = n := by omega
      simp at hj; subst hj; rw [hj']; exact hp

set_option maxRecDepth 100000 in
theorem open_puts {H : Type} {enc : TypeId × Value → H} {W : World} {v : Value} {d : DataW H} {p : List MemPlace}
    (hok : ∃ a len cap, v = .slice a len cap) (h : DataW.Trod enc Try.prog W 0 (fun _ => true) true 22 v d p) (hlt : ∀ x ∈ p, x.block < W.heap.size)
    (hs : ∀ n ∈ d.weights Try.prog 22, n ≤ reachBytes) :
    ∃ a cap ps, v = .slice a (ps : List Pt).length cap ∧ RP W (.slice a ps.length cap) ps ∧ (∀ p ∈ ps, okP p) ∧ ps.length ≤ 3518437208780 ∧
      (ps = [] ∨ ∃ D : Nat → DataW H, (∃ spare, d = .slice ((List.range ps.length).map D) spare) ∧ ∀ j p, ps[j]? = some p → D j = .agg [.lit (.int .i64 p.on), .lit (.int .i64 p.kd), .lit (.int .u64 p.x), .lit (.string p.s)]) := by
  obtain ⟨a0, len, cap, rfl⟩ := hok
  obtain ⟨fuel, hf⟩ := h
  rcases Go.Deep.open_slice Try.underlying22 hf with ⟨hcs, hx⟩ | ⟨a, len', cap', m, n, D, Pl, hcs, hb, hl, hm, hmm, hx, hel⟩
  · simp [Value.cells] at hcs
    obtain ⟨rfl, rfl, rfl⟩ := hcs
    exact ⟨none, 0, [], rfl, ⟨_, _, rfl, .inl rfl⟩, by simp, by simp, .inl rfl⟩
  · simp [Value.cells] at hcs
    obtain ⟨rfl, rfl, rfl⟩ := hcs
    have hp : p = _ := (Prod.mk.inj hx).2
    have hdd : d = _ := (Prod.mk.inj hx).1
    rw [hp, Try.cellsPut] at hlt
    rw [Try.cellsPut] at hel
    clear hx hp hf
    simp only [if_true] at hmm
    subst hmm
    have hw : ∀ i, i < len → ∀ n ∈ (D i).weights Try.prog 33, n ≤ reachBytes := by
      intro i hi n hn
      apply hs
      rw [hdd]
      simp only [DataW.weights, Try.underlying22, List.mem_cons, List.mem_append]
      exact .inr (.inl (weights_all (List.mem_map.2 ⟨i, List.mem_range.2 hi, rfl⟩) n hn))
    have hlen : len * 40 ≤ reachBytes := by
      have := hs ((((List.range len).map D).length + ((List.range (m - len)).map fun j => D (len + j)).length) * Try.prog.bytesOf 33) (by rw [hdd]; simp only [DataW.weights, Try.underlying22]; exact List.mem_cons_self)
      rw [Try.bytesPut] at this
      simp only [List.length_map, List.length_range] at this
      omega
    have each : ∀ i, i < m → ∃ p : Pt, (W.cell? (a.add (i * 4)) = some (.int .i64 p.on) ∧ W.cell? (a.add (i * 4 + 1)) = some (.int .i64 p.kd) ∧ W.cell? (a.add (i * 4 + 2)) = some (.int .u64 p.x) ∧ W.cell? (a.add (i * 4 + 3)) = some (.string ⟨p.s.toArray⟩)) ∧ (0 ≤ p.x ∧ p.x < 18446744073709551616) ∧ D i = .agg [.lit (.int .i64 p.on), .lit (.int .i64 p.kd), .lit (.int .u64 p.x), .lit (.string p.s)] := by
      intro i hi
      obtain ⟨cs', h1, h2⟩ := hel i hi
      clear hel hlt hs hdd hw
      obtain ⟨_, hlen, hcell⟩ := World.cells?_some h1
      obtain ⟨xs, k, _, hxy, _, hxl, hall⟩ := DataW.trod_struct Try.underlying33 h2
      match xs, hxl, cs', hlen with
      | [x0, x1, x2, x3], _, [c0, c1, c2, c3], _ =>
        obtain ⟨a0, e0, y0, w0⟩ := intField (v := c0) (x := x0) Try.underlying3 (by simpa using hall 0 _ rfl) (by show List.take (Try.prog.cellsOf 3) _ = _; rw [Try.cellsI]; rfl)
        obtain ⟨a1, e1, y1, w1⟩ := intField (v := c1) (x := x1) Try.underlying3 (by simpa using hall 1 _ rfl) (by show List.take (Try.prog.cellsOf 3) _ = _; rw [Try.cellsI]; rfl)
        obtain ⟨a2, e2, y2, w2⟩ := intField (v := c2) (x := x2) Try.underlying31 (by simpa using hall 2 _ rfl) (by show List.take (Try.prog.cellsOf 31) _ = _; rw [Try.cellsU]; rfl)
        obtain ⟨s3, e3, y3⟩ := strField (v := c3) (x := x3) Try.underlying9 (by simpa using hall 3 _ rfl) (by show List.take (Try.prog.cellsOf 9) _ = _; rw [Try.cellsS]; rfl)
        subst e0 e1 e2 e3
        have g0 := hcell 0 (by omega)
        have g1 := hcell 1 (by omega)
        have g2 := hcell 2 (by omega)
        have g3 := hcell 3 (by omega)
        rw [Go.Deep.add_add] at g0 g1 g2 g3
        have hD : D i = _ := (Prod.mk.inj hxy).1
        have w2' := bounds_u64 w2
        exact ⟨⟨a0, a1, a2, s3⟩, ⟨by simpa using g0, by simpa using g1, by simpa using g2, by simpa using g3⟩, ⟨w2'.1, by show a2 < _; omega⟩, by rw [hD, y0, y1, y2, y3]; rfl⟩
    obtain ⟨ps, hpl, hps⟩ := list_of len (fun j hj => each j (by omega))
    refine ⟨some a, m, ps, by rw [hpl], ?_, fun p hp => ?_, by rw [hpl]; unfold reachBytes at hlen; omega, .inr ⟨D, ⟨_, by rw [hpl]; exact hdd⟩, fun j p hj => (hps j p hj).2.2⟩⟩
    · refine ⟨some a, m, by rw [hpl], ?_⟩
      by_cases h0 : len = 0
      · left; exact List.length_eq_zero_iff.1 (by omega)
      · right
        obtain ⟨b, off, spot⟩ := a
        obtain ⟨p0, ⟨hc0, _⟩, _⟩ := each 0 (by omega)
        have hspot : spot = none := by simpa [Addr.add] using World.cell?_spot hc0
        subst hspot
        have hbW : b < W.heap.size := hlt (.cell b off) (List.mem_append_left _ (MemPlace.mem_row.2 ⟨0, by omega, by simp⟩))
        refine ⟨b, off, rfl, hbW, fun j p hj => ?_⟩
        obtain ⟨⟨g0, g1, g2, g3⟩, _⟩ := hps j p hj
        rw [add_plain] at g0 g1 g2 g3
        exact ⟨g0, g1, g2, g3⟩
    · obtain ⟨j, hj⟩ := List.getElem?_of_mem hp
      obtain ⟨_, hx, hD⟩ := hps j p hj
      refine ⟨hx.1, hx.2, ?_⟩
      have hjl : j < len := by have := (List.getElem?_eq_some_iff.1 hj).1; omega
      have := hw j hjl p.s.length (by rw [hD]; simp [DataW.weights, Try.underlying33, DataW.weightsEach])
      unfold reachBytes at this; omega
end Go.Proofs.Ytejbhminkhoniaa
