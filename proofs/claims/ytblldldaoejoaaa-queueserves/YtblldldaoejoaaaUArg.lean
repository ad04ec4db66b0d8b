/-
  My own text: layer 19: calls of a queue among the arguments, with their keys.
-/
import Derived.Test.YtblldldaoejoaaaU20
import Derived.Test.YtblldldaoejoaaaRows
import Derived.ProofKit
import Derived.OpenShut
import Derived.ChangeSame
import Derived.ChangeSlices
import Derived.JoinedOf
import Derived.JoinedCond
import Derived.Carry
import Derived.RowKit
import Derived.RowKitTokens
import Derived.Deep.Slices
import Derived.SizedLaws
import Derived.HandedShaped
namespace Go.Proofs.Ytblldldaoejoaaa
open Go.ChangeShapes Go.WideShapes Go.ChangeAt Go.RowKit

theorem Try.own : ownKnob Try.prog.godebug = none := by kernel_rfl
theorem Try.laidOut : laidOutB Try.prog = true := by kernel_rfl
theorem Try.cellsIA : Try.prog.cellsOf 3 = 1 := by kernel_rfl
theorem Try.cellsKy : Try.prog.cellsOf 58 = 2 := by kernel_rfl
theorem Try.bytesKy : Try.prog.bytesOf 58 = 16 := by kernel_rfl
theorem Try.cellsSlK : Try.prog.cellsOf 27 = 1 := by kernel_rfl
theorem Try.cellsOq : Try.prog.cellsOf 29 = 4 := by kernel_rfl
theorem Try.bytesOq : Try.prog.bytesOf 29 = 48 := by kernel_rfl
section
variable {H : Type} {enc : TypeId × Value → H} {P : Program} {w : World} {base : Nat} {spare : Nat → Bool} {held : Bool} {t : TypeId} {cs : List Value} {v : Value} {n : Nat} {x : DataW H × List MemPlace}
theorem intFA {k : IntKind} (ht : P.underlying t = some (.int k)) (h : DataW.trod enc P w base spare held n t cs = some x) (hc : cs = [v]) :
    ∃ a, v = .int k a ∧ (Lit.int k a).wf = true := by
  obtain ⟨a, e, hx, hw⟩ := DataW.trod_int ht h
  rw [hc] at e
  exact ⟨a, by simpa using e, hw⟩
end
theorem listOfA {α : Type} {Q : Nat → α → Prop} : ∀ n : Nat, (∀ j, j < n → ∃ p, Q j p) → ∃ l : List α, l.length = n ∧ ∀ j p, l[j]? = some p → Q j p
  | 0, _ => ⟨[], rfl, fun j p h => by simp at h⟩
  | n + 1, h => by
    obtain ⟨l, hl, hq⟩ := listOfA n (fun j hj => h j (by omega))
    obtain ⟨p, hp⟩ := h n (by omega)
    refine ⟨l ++ [p], by simp [hl], fun j p' hj => ?_⟩
    by_cases hjn : j < n
    · rw [List.getElem?_append_left (by omega)] at hj; exact hq j p' hj
    · rw [List.getElem?_append_right (by omega)] at hj
      have : j - l.length = 0 := by
        have := (List.getElem?_eq_some_iff.1 hj).1
        simp at this; omega
      rw [this] at hj
      have hj' : j = n := by omega
      simp at hj; subst hj; rw [hj']; exact hp
theorem weights_all {H : Type} {P : Program} {e : TypeId} {d : DataW H} {m : Nat} (hm : m ∈ d.weights P e) : ∀ {l : List (DataW H)}, d ∈ l → m ∈ DataW.weightsAll P e l
  | [], h => by cases h
  | x :: r, h => by
    simp only [DataW.weightsAll, List.mem_append]
    rcases List.mem_cons.1 h with rfl | h
    · exact .inl hm
    · exact .inr (weights_all hm h)
set_option maxRecDepth 100000 in
theorem open_keysU {H : Type} {enc : TypeId × Value → H} {W : World} {v : Value} {n : Nat} {x : DataW H × List MemPlace}
    (h : DataW.trod enc Try.prog W 0 (fun _ => true) true n 27 [v] = some x) (hlt : ∀ y ∈ x.2, y.block < W.heap.size)
    (hs : ∀ m ∈ x.1.weights Try.prog 27, m ≤ reachBytes) :
    ∃ ls : List Ky, KY.RM W v ls ∧ ls.length ≤ 8796093021999 ∧ ∀ k ∈ ls, KOK k := by
  rcases Go.Deep.open_slice Try.underlying27 h with ⟨hcs, hx⟩ | ⟨a, len, cap, m, n', D, Pl, hcs, hb, hl, hm, hmm, hx, hel⟩
  · obtain rfl : v = .slice none 0 0 := by simpa using hcs
    exact ⟨[], KY.RM.nil W, by simp, (fun p hp => by cases hp)⟩
  · obtain rfl : v = .slice (some a) len cap := by simpa using hcs
    have hp : x.2 = _ := congrArg Prod.snd hx
    have hdd : x.1 = _ := congrArg Prod.fst hx
    rw [hp, Try.cellsKy] at hlt
    rw [Try.cellsKy] at hel
    clear hx hp
    simp only [if_true] at hmm
    subst hmm
    have hlen : len * 16 ≤ reachBytes := by
      have := hs ((((List.range len).map D).length + ((List.range (m - len)).map fun j => D (len + j)).length) * Try.prog.bytesOf 58) (by rw [hdd]; simp only [DataW.weights, Try.underlying27]; exact List.mem_cons_self)
      rw [Try.bytesKy] at this
      simp only [List.length_map, List.length_range] at this
      omega
    have each : ∀ i, i < len → ∃ p : Ky, (W.cell? (a.add (i * 2)) = some (.int .i64 p.1) ∧ W.cell? (a.add (i * 2 + 1)) = some (.int .i64 p.2)) ∧ KOK p := by
      intro i hi
      obtain ⟨cs', h1, h2⟩ := hel i (by omega)
      obtain ⟨_, hlen', hcell⟩ := World.cells?_some h1
      obtain ⟨xs, k, _, hxy, _, hxl, hall⟩ := DataW.trod_struct Try.underlying58 h2
      match xs, hxl, cs', hlen' with
      | [x0, x1], _, [c0, c1], _ =>
        obtain ⟨a0, e0, w0⟩ := intFA (v := c0) (x := x0) Try.underlying3 (by simpa using hall 0 _ rfl) (by show List.take (Try.prog.cellsOf 3) _ = _; rw [Try.cellsIA]; rfl)
        obtain ⟨a1, e1, w1⟩ := intFA (v := c1) (x := x1) Try.underlying3 (by simpa using hall 1 _ rfl) (by show List.take (Try.prog.cellsOf 3) _ = _; rw [Try.cellsIA]; rfl)
        subst e0 e1
        have g0 := hcell 0 (by omega)
        have g1 := hcell 1 (by omega)
        rw [Go.Deep.add_add] at g0 g1
        exact ⟨(a0, a1), ⟨by simpa using g0, by simpa using g1⟩, w0, w1⟩
    obtain ⟨ls, hpl, hps⟩ := listOfA len each
    refine ⟨ls, ⟨some a, m, by rw [hpl], by rw [hpl]; omega, ?_⟩, by rw [hpl]; unfold reachBytes at hlen; omega, fun k hk => ?_⟩
    · by_cases h0 : len = 0
      · left; exact List.length_eq_zero_iff.1 (by omega)
      · right
        obtain ⟨b, off, spot⟩ := a
        obtain ⟨p0, hc0, _⟩ := each 0 (by omega)
        have hspot : spot = none := by simpa [Addr.add] using World.cell?_spot hc0.1
        subst hspot
        have hbW : b < W.heap.size := hlt (.cell b off) (List.mem_append_left _ (MemPlace.mem_row.2 ⟨0, by omega, by simp⟩))
        refine ⟨b, off, rfl, hbW, fun j p hj => ?_⟩
        have gg := (hps j p hj).1
        simp only [Addr.add_lit] at gg
        simpa [Nat.add_assoc] using gg
    · obtain ⟨j, hj⟩ := List.getElem?_of_mem hk
      exact (hps j k hj).2
set_option maxRecDepth 100000 in
theorem open_opsU {H : Type} {enc : TypeId × Value → H} {W : World} {v : Value} {n : Nat} {x : DataW H × List MemPlace}
    (h : DataW.trod enc Try.prog W 0 (fun _ => true) true n 22 [v] = some x) (hlt : ∀ y ∈ x.2, y.block < W.heap.size)
    (hs : ∀ m ∈ x.1.weights Try.prog 22, m ≤ reachBytes) :
    ∃ S : List Oq, RO W v S ∧ S.length ≤ 2932031007402 ∧ ∀ p ∈ S, p.ks.length ≤ 8796093021999 := by
  rcases Go.Deep.open_slice Try.underlying22 h with ⟨hcs, hx⟩ | ⟨a, len, cap, m, n', D, Pl, hcs, hb, hl, hm, hmm, hx, hel⟩
  · obtain rfl : v = .slice none 0 0 := by simpa using hcs
    exact ⟨[], ⟨(fun p hp => by cases hp), none, 0, rfl, .inl rfl⟩, by simp, (fun p hp => by cases hp)⟩
  · obtain rfl : v = .slice (some a) len cap := by simpa using hcs
    have hp : x.2 = _ := congrArg Prod.snd hx
    have hdd : x.1 = _ := congrArg Prod.fst hx
    rw [hp, Try.cellsOq] at hlt
    rw [Try.cellsOq] at hel
    clear hx hp
    simp only [if_true] at hmm
    subst hmm
    rw [hdd] at hs
    simp only [DataW.weights, Try.underlying22] at hs
    have hlen : len * 48 ≤ reachBytes := by
      have := hs _ List.mem_cons_self
      rw [Try.bytesOq] at this
      simp only [List.length_map, List.length_range] at this
      omega
    have each : ∀ i, i < len → ∃ p : Oq, (W.cell? (a.add (i * 4)) = some (.int .i64 p.on) ∧ W.cell? (a.add (i * 4 + 1)) = some (.int .i64 p.kind) ∧ W.cell? (a.add (i * 4 + 2)) = some (.int .i64 p.id) ∧ W.cell? (a.add (i * 4 + 3)) = some p.kv) ∧ OqOk W p ∧ p.ks.length ≤ 8796093021999 := by
      intro i hi
      obtain ⟨cs', h1, h2⟩ := hel i (by omega)
      obtain ⟨_, hlen', hcell⟩ := World.cells?_some h1
      obtain ⟨xs, k, _, hxy, _, hxl, hall⟩ := DataW.trod_struct Try.underlying29 h2
      match xs, hxl, cs', hlen' with
      | [x0, x1, x2, x3], _, [c0, c1, c2, c3], _ =>
        have hD : D i = .agg [x0.1, x1.1, x2.1, x3.1] := congrArg Prod.fst hxy
        have hP : Pl i = _ := congrArg Prod.snd hxy
        obtain ⟨a0, e0, w0⟩ := intFA (v := c0) (x := x0) Try.underlying3 (by simpa using hall 0 _ rfl) (by show List.take (Try.prog.cellsOf 3) _ = _; rw [Try.cellsIA]; rfl)
        obtain ⟨a1, e1, w1⟩ := intFA (v := c1) (x := x1) Try.underlying3 (by simpa using hall 1 _ rfl) (by show List.take (Try.prog.cellsOf 3) _ = _; rw [Try.cellsIA]; rfl)
        obtain ⟨a2, e2, w2⟩ := intFA (v := c2) (x := x2) Try.underlying3 (by simpa using hall 2 _ rfl) (by show List.take (Try.prog.cellsOf 3) _ = _; rw [Try.cellsIA]; rfl)
        obtain ⟨ks, hrm, hkl, hkk⟩ := open_keysU (x := x3) (v := c3) (by
          have this : DataW.trod enc Try.prog W 0 (fun _ => true) true k 27 (List.take (Try.prog.cellsOf 27) [c3]) = some x3 := hall 3 _ rfl
          rw [Try.cellsSlK] at this
          exact this) (fun y hy => hlt y (List.mem_append_right _ (List.mem_flatMap.2 ⟨i, List.mem_range.2 (by omega), by rw [hP]; exact List.mem_flatMap.2 ⟨x3, by simp, hy⟩⟩))) (fun m' hm' => hs m' (List.mem_cons_of_mem _ (List.mem_append_left _ (weights_all (d := D i) (by
            rw [hD]; simp only [DataW.weights, Try.underlying29]
            exact DataW.weights_mem_each (j := 3) (t := 27) (d := x3.1) rfl rfl m' hm') (List.mem_map.2 ⟨i, List.mem_range.2 hi, rfl⟩)))))
        obtain ⟨ka, kc, rfl, hr⟩ := hrm
        subst e0 e1 e2
        have g0 := hcell 0 (by omega)
        have g1 := hcell 1 (by omega)
        have g2 := hcell 2 (by omega)
        have g3 := hcell 3 (by omega)
        rw [Go.Deep.add_add] at g0 g1 g2 g3
        exact ⟨⟨a0, a1, a2, ks, ka, kc⟩, ⟨by simpa using g0, by simpa using g1, by simpa using g2, by simpa [Oq.kv] using g3⟩, ⟨⟨ka, kc, rfl, hr⟩, by show ks.length ≤ _; omega, hkk, w2⟩, hkl⟩
    obtain ⟨S, hpl, hps⟩ := listOfA len each
    refine ⟨S, ⟨fun p hp => ?_, some a, m, by rw [hpl], ?_⟩, by rw [hpl]; unfold reachBytes at hlen; omega, fun p hp => ?_⟩
    · obtain ⟨j, hj⟩ := List.getElem?_of_mem hp
      exact (hps j p hj).2.1
    · by_cases h0 : len = 0
      · left; exact List.length_eq_zero_iff.1 (by omega)
      · right
        obtain ⟨b, off, spot⟩ := a
        obtain ⟨p0, ⟨hc0, _⟩, _⟩ := each 0 (by omega)
        have hspot : spot = none := by simpa [Addr.add] using World.cell?_spot hc0
        subst hspot
        have hbW : b < W.heap.size := hlt (.cell b off) (List.mem_append_left _ (MemPlace.mem_row.2 ⟨0, by omega, by simp⟩))
        refine ⟨b, off, rfl, hbW, fun j p hj => ?_⟩
        obtain ⟨⟨g0, g1, g2, g3⟩, _⟩ := hps j p hj
        rw [Addr.add_lit] at g0 g1 g2 g3
        exact ⟨g0, by rw [← Nat.add_assoc] at g1; exact g1, by rw [← Nat.add_assoc] at g2; exact g2, by rw [← Nat.add_assoc] at g3; exact g3⟩
    · obtain ⟨j, hj⟩ := List.getElem?_of_mem hp
      exact (hps j p hj).2.2
end Go.Proofs.Ytblldldaoejoaaa
