/-
  My own text: layer 23: rows of rows of legs among the arguments.
-/
import Derived.Test.YtfhimhjeilnkaaaDoorLArgD
import Derived.Test.YtfhimhjeilnkaaaDoorLP1
namespace Go.Proofs.YtfhimhjeilnkaaaDoor
open Go.ChangeShapes Go.WideShapes Go.ChangeAt Go.RowKit

theorem Tryd.cellsI6p : Tryd.prog.cellsOf 2 = 1 := by kernel_rfl
theorem Tryd.cellsLgp : Tryd.prog.cellsOf 43 = 5 := by kernel_rfl
theorem Tryd.bytesLgp : Tryd.prog.bytesOf 43 = 40 := by kernel_rfl
theorem Tryd.cellsSlp : Tryd.prog.cellsOf 23 = 1 := by kernel_rfl
theorem Tryd.bytesSlp : Tryd.prog.bytesOf 23 = 24 := by kernel_rfl
theorem weights_all {H : Type} {P : Program} {e : TypeId} {d : DataW H} {m : Nat} (hm : m ∈ d.weights P e) : ∀ {l : List (DataW H)}, d ∈ l → m ∈ DataW.weightsAll P e l
  | [], h => by cases h
  | x :: r, h => by
    simp only [DataW.weightsAll, List.mem_append]
    rcases List.mem_cons.1 h with rfl | h
    · exact .inl hm
    · exact .inr (weights_all hm h)
set_option maxRecDepth 100000 in
theorem open_legsP {H : Type} {enc : TypeId × Value → H} {W : World} {v : Value} {n : Nat} {x : DataW H × List MemPlace}
    (h : DataW.trod enc Tryd.prog W 0 (fun _ => true) true n 23 [v] = some x) (hlt : ∀ y ∈ x.2, y.block < W.heap.size)
    (hs : ∀ m ∈ x.1.weights Tryd.prog 23, m ≤ reachBytes) :
    ∃ ls : List LG.El, LG.RM W v ls ∧ ls.length ≤ 3518437208800 ∧ ∀ p ∈ ls, WOK p := by
  rcases Go.Deep.open_slice Tryd.underlying23 h with ⟨hcs, hx⟩ | ⟨a, len, cap, m, n', D, Pl, hcs, hb, hl, hm, hmm, hx, hel⟩
  · obtain rfl : v = .slice none 0 0 := by simpa using hcs
    exact ⟨[], LG.RM.nil W, by simp, fun p hp => by cases hp⟩
  · obtain rfl : v = .slice (some a) len cap := by simpa using hcs
    have hp : x.2 = _ := congrArg Prod.snd hx
    have hdd : x.1 = _ := congrArg Prod.fst hx
    rw [hp, Tryd.cellsLgp] at hlt
    rw [Tryd.cellsLgp] at hel
    clear hx hp
    simp only [if_true] at hmm
    subst hmm
    have hlen : len * 40 ≤ reachBytes := by
      have := hs ((((List.range len).map D).length + ((List.range (m - len)).map fun j => D (len + j)).length) * Tryd.prog.bytesOf 43) (by rw [hdd]; simp only [DataW.weights, Tryd.underlying23]; exact List.mem_cons_self)
      rw [Tryd.bytesLgp] at this
      simp only [List.length_map, List.length_range] at this
      omega
    have each : ∀ i, i < len → ∃ p : LG.El, (W.cell? (a.add (i * 5)) = some (.int .i64 p.1) ∧ W.cell? (a.add (i * 5 + 1)) = some (.int .i64 p.2.1) ∧ W.cell? (a.add (i * 5 + 2)) = some (.int .i64 p.2.2.1) ∧ W.cell? (a.add (i * 5 + 3)) = some (.int .i64 p.2.2.2.1) ∧ W.cell? (a.add (i * 5 + 4)) = some (.int .i64 p.2.2.2.2)) ∧ WOK p := by
      intro i hi
      obtain ⟨cs', h1, h2⟩ := hel i (by omega)
      obtain ⟨_, hlen', hcell⟩ := World.cells?_some h1
      obtain ⟨xs, k, _, hxy, _, hxl, hall⟩ := DataW.trod_struct Tryd.underlying43 h2
      match xs, hxl, cs', hlen' with
      | [x0, x1, x2, x3, x4], _, [c0, c1, c2, c3, c4], _ =>
        obtain ⟨a0, e0, w0⟩ := intFA (v := c0) (x := x0) Tryd.underlying3 (by simpa using hall 0 _ rfl) (by show List.take (Tryd.prog.cellsOf 3) _ = _; rw [Tryd.cellsI]; rfl)
        obtain ⟨a1, e1, w1⟩ := intFA (v := c1) (x := x1) Tryd.underlying3 (by simpa using hall 1 _ rfl) (by show List.take (Tryd.prog.cellsOf 3) _ = _; rw [Tryd.cellsI]; rfl)
        obtain ⟨a2, e2, w2⟩ := intFA (v := c2) (x := x2) Tryd.underlying3 (by simpa using hall 2 _ rfl) (by show List.take (Tryd.prog.cellsOf 3) _ = _; rw [Tryd.cellsI]; rfl)
        obtain ⟨a3, e3, w3⟩ := intFA (v := c3) (x := x3) Tryd.underlying2 (by simpa using hall 3 _ rfl) (by show List.take (Tryd.prog.cellsOf 2) _ = _; rw [Tryd.cellsI6p]; rfl)
        obtain ⟨a4, e4, w4⟩ := intFA (v := c4) (x := x4) Tryd.underlying3 (by simpa using hall 4 _ rfl) (by show List.take (Tryd.prog.cellsOf 3) _ = _; rw [Tryd.cellsI]; rfl)
        subst e0 e1 e2 e3 e4
        have g0 := hcell 0 (by omega)
        have g1 := hcell 1 (by omega)
        have g2 := hcell 2 (by omega)
        have g3 := hcell 3 (by omega)
        have g4 := hcell 4 (by omega)
        rw [Go.Deep.add_add] at g0 g1 g2 g3 g4
        exact ⟨(a0, a1, a2, a3, a4), ⟨by simpa using g0, by simpa using g1, by simpa using g2, by simpa using g3, by simpa using g4⟩, w0, w1, w2, w3, w4⟩
    obtain ⟨ls, hpl, hps⟩ := listOfA len each
    refine ⟨ls, ⟨some a, m, by rw [hpl], by rw [hpl]; omega, ?_⟩, by rw [hpl]; unfold reachBytes at hlen; omega, fun p hp => by
      obtain ⟨j, hj⟩ := List.getElem?_of_mem hp
      exact (hps j p hj).2⟩
    by_cases h0 : len = 0
    · left; exact List.length_eq_zero_iff.1 (by omega)
    · right
      obtain ⟨b, off, spot⟩ := a
      obtain ⟨p0, hc0, _⟩ := each 0 (by omega)
      have hspot : spot = none := by simpa [Addr.add] using World.cell?_spot hc0.1
      subst hspot
      have hbW : b < W.heap.size := hlt (.cell b off) (List.mem_append_left _ (MemPlace.mem_row.2 ⟨0, by omega, by simp⟩))
      refine ⟨b, off, rfl, hbW, fun j p hj => ?_⟩
      have gg := (hps j p hj).1
      simp only [Addr.add_lit] at gg
      simpa [Nat.add_assoc] using gg
set_option maxRecDepth 100000 in
theorem open_rowsP {H : Type} {enc : TypeId × Value → H} {W : World} {v : Value} {n : Nat} {x : DataW H × List MemPlace}
    (h : DataW.trod enc Tryd.prog W 0 (fun _ => true) true n 22 [v] = some x) (hlt : ∀ y ∈ x.2, y.block < W.heap.size)
    (hs : ∀ m ∈ x.1.weights Tryd.prog 22, m ≤ reachBytes) :
    ∃ T : List LR, LL W v T ∧ T.length ≤ 8796093022000 ∧ ∀ p ∈ T, p.l.length ≤ 3518437208800 ∧ ∀ x ∈ p.l, WOK x := by
  rcases Go.Deep.open_slice1 Tryd.underlying22 Tryd.cellsSlp h with ⟨hcs, hx⟩ | ⟨a, len, cap, m, n', V, D, Pl, hcs, hb, hl, hm, hmm, hx, hel⟩
  · obtain rfl : v = .slice none 0 0 := by simpa using hcs
    exact ⟨[], ⟨(fun p hp => by cases hp), none, 0, rfl, Nat.le_refl _, .inl rfl⟩, by simp, fun p hp => by cases hp⟩
  · obtain rfl : v = .slice (some a) len cap := by simpa using hcs
    have hp : x.2 = _ := congrArg Prod.snd hx
    have hdd : x.1 = _ := congrArg Prod.fst hx
    rw [hp] at hlt
    clear hx hp
    simp only [if_true] at hmm
    subst hmm
    rw [hdd] at hs
    simp only [DataW.weights, Tryd.underlying22] at hs
    have hlen : len * 24 ≤ reachBytes := by
      have := hs _ List.mem_cons_self
      rw [Tryd.bytesSlp] at this
      simp only [List.length_map, List.length_range] at this
      omega
    have each : ∀ i, i < len → ∃ p : LR, W.cell? (a.add i) = some p.v ∧ LG.RM W p.v p.l ∧ p.l.length ≤ 3518437208800 ∧ ∀ x ∈ p.l, WOK x := by
      intro i hi
      obtain ⟨h1, h2⟩ := hel i (by omega)
      obtain ⟨ks, hrm, hkl, hkk⟩ := open_legsP (x := (D i, Pl i)) (v := V i) h2 (fun y hy => hlt y (List.mem_append_right _ (List.mem_flatMap.2 ⟨i, List.mem_range.2 (by omega), hy⟩))) (fun m' hm' => hs m' (List.mem_cons_of_mem _ (List.mem_append_left _ (weights_all (d := D i) hm' (List.mem_map.2 ⟨i, List.mem_range.2 hi, rfl⟩)))))
      obtain ⟨ka, kc, hv, hc, hr⟩ := hrm
      exact ⟨⟨ks, ka, kc⟩, by rw [h1, hv]; rfl, ⟨ka, kc, rfl, hc, hr⟩, hkl, hkk⟩
    obtain ⟨T, hpl, hps⟩ := listOfA len each
    refine ⟨T, ⟨fun p hp => ?_, some a, m, by rw [hpl], by rw [hpl]; omega, ?_⟩, by rw [hpl]; unfold reachBytes at hlen; omega, fun p hp => ?_⟩
    · obtain ⟨j, hj⟩ := List.getElem?_of_mem hp
      exact (hps j p hj).2.1
    · by_cases h0 : len = 0
      · left; exact List.length_eq_zero_iff.1 (by omega)
      · right
        obtain ⟨b, off, spot⟩ := a
        obtain ⟨p0, hc0, _⟩ := each 0 (by omega)
        have hspot : spot = none := by simpa [Addr.add] using World.cell?_spot hc0
        subst hspot
        have hbW : b < W.heap.size := hlt (.cell b off) (List.mem_append_left _ (MemPlace.mem_row.2 ⟨0, by omega, by simp⟩))
        refine ⟨b, off, rfl, hbW, fun j p hj => ?_⟩
        have g0 := (hps j p hj).1
        rw [Addr.add_lit] at g0
        exact g0
    · obtain ⟨j, hj⟩ := List.getElem?_of_mem hp
      exact (hps j p hj).2.2
end Go.Proofs.YtfhimhjeilnkaaaDoor
