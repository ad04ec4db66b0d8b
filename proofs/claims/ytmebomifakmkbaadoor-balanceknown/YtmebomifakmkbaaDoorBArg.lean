/-
  My own text: positions among the arguments.
-/
import Derived.Test.YtmebomifakmkbaaDoorB1
import Derived.Test.YtmebomifakmkbaaDoorRow
import Derived.Deep.Slices
import Derived.SizedLaws
import Derived.Stop.LaidErr
namespace Go.Proofs.YtmebomifakmkbaaDoor
open Go.ChangeShapes Go.WideShapes Go.ChangeAt Go.RowKit

theorem Tryd.laidOutA : laidOutB Tryd.prog = true := by kernel_rfl
theorem Tryd.cellsIA : Tryd.prog.cellsOf 3 = 1 := by kernel_rfl
theorem Tryd.cellsI6 : Tryd.prog.cellsOf 2 = 1 := by kernel_rfl
theorem Tryd.cellsSlM : Tryd.prog.cellsOf 22 = 1 := by kernel_rfl
theorem Tryd.cellsMkA : Tryd.prog.cellsOf 36 = 2 := by kernel_rfl
theorem Tryd.bytesMkA : Tryd.prog.bytesOf 36 = 16 := by kernel_rfl
theorem Tryd.cellsPosA : Tryd.prog.cellsOf 24 = 2 := by kernel_rfl
section
variable {H : Type} {enc : TypeId × Value → H} {P : Program} {w : World} {base : Nat} {spare : Nat → Bool} {held : Bool} {t : TypeId} {cs : List Value} {v : Value} {n : Nat} {x : DataW H × List MemPlace}
theorem intFA {k : IntKind} (ht : P.underlying t = some (.int k)) (h : DataW.trod enc P w base spare held n t cs = some x) (hc : cs = [v]) :
    ∃ a, v = .int k a ∧ (Lit.int k a).wf = true := by
  obtain ⟨a, e, hx, hw⟩ := DataW.trod_int ht h
  rw [hc] at e
  exact ⟨a, by simpa using e, hw⟩
end
theorem listOfA {α : Type} {Q : Nat → α → Prop} : ∀ n : Nat, (∀ j, j < n → ∃ p, Q j p) → ∃ l : List α, l.length = n ∧ ∀ j p, l[j]? = some p → Q j p
  | 0, _ => ⟨[], rfl, fun j p h => by simp at h⟩
  | n + 1, h => by
    obtain ⟨l, hl, hq⟩ := listOfA n (fun j hj => h j (by omega))
    obtain ⟨p, hp⟩ := h n (by omega)
    refine ⟨l ++ [p], by simp [hl], fun j p' hj => ?_⟩
    by_cases hjn : j < n
    · rw [List.getElem?_append_left (by omega)] at hj; exact hq j p' hj
    · rw [List.getElem?_append_right (by omega)] at hj
      have : j - l.length = 0 := by
        have := (List.getElem?_eq_some_iff.1 hj).1
        simp at this; omega
      rw [this] at hj
      have hj' : j = n := by omega
      simp at hj; subst hj; rw [hj']; exact hp
theorem i64_in {a : Int} (h : (Lit.int .i64 a).wf = true) : -9223372036854775808 ≤ a ∧ a ≤ top := by
  have := bounds_i64 h
  exact ⟨by omega, this.2⟩
set_option maxRecDepth 100000 in
theorem open_marks {H : Type} {enc : TypeId × Value → H} {W : World} {v : Value} {n : Nat} {x : DataW H × List MemPlace}
    (h : DataW.trod enc Tryd.prog W 0 (fun _ => true) true n 22 [v] = some x) (hlt : ∀ y ∈ x.2, y.block < W.heap.size)
    (hs : ∀ m ∈ x.1.weights Tryd.prog 22, m ≤ reachBytes) :
    ∃ ls : List Mk, RM W v ls ∧ MOk ls ∧ ls.length ≤ 8796093022000 := by
  rcases Go.Deep.open_slice Tryd.underlying22 h with ⟨hcs, hx⟩ | ⟨a, len, cap, m, n', D, Pl, hcs, hb, hl, hm, hmm, hx, hel⟩
  · obtain rfl : v = .slice none 0 0 := by simpa using hcs
    exact ⟨[], ⟨_, _, rfl, Nat.le_refl _, .inl rfl⟩, (fun p hp => by cases hp), by simp⟩
  · obtain rfl : v = .slice (some a) len cap := by simpa using hcs
    have hp : x.2 = _ := congrArg Prod.snd hx
    have hdd : x.1 = _ := congrArg Prod.fst hx
    rw [hp, Tryd.cellsMkA] at hlt
    rw [Tryd.cellsMkA] at hel
    clear hx hp
    simp only [if_true] at hmm
    subst hmm
    have hlen : len * 16 ≤ reachBytes := by
      have := hs ((((List.range len).map D).length + ((List.range (m - len)).map fun j => D (len + j)).length) * Tryd.prog.bytesOf 36) (by rw [hdd]; simp only [DataW.weights, Tryd.underlying22]; exact List.mem_cons_self)
      rw [Tryd.bytesMkA] at this
      simp only [List.length_map, List.length_range] at this
      omega
    have each : ∀ i, i < len → ∃ p : Mk, (W.cell? (a.add (i * 2)) = some (.int .i64 p.1) ∧ W.cell? (a.add (i * 2 + 1)) = some (.int .i64 p.2)) ∧ (-9223372036854775808 ≤ p.1 ∧ p.1 ≤ top ∧ -9223372036854775808 ≤ p.2 ∧ p.2 ≤ top) := by
      intro i hi
      obtain ⟨cs', h1, h2⟩ := hel i (by omega)
      obtain ⟨_, hlen', hcell⟩ := World.cells?_some h1
      obtain ⟨xs, k, _, hxy, _, hxl, hall⟩ := DataW.trod_struct Tryd.underlying36 h2
      match xs, hxl, cs', hlen' with
      | [x0, x1], _, [c0, c1], _ =>
        obtain ⟨a0, e0, w0⟩ := intFA (v := c0) (x := x0) Tryd.underlying3 (by simpa using hall 0 _ rfl) (by show List.take (Tryd.prog.cellsOf 3) _ = _; rw [Tryd.cellsIA]; rfl)
        obtain ⟨a1, e1, w1⟩ := intFA (v := c1) (x := x1) Tryd.underlying2 (by simpa using hall 1 _ rfl) (by show List.take (Tryd.prog.cellsOf 2) _ = _; rw [Tryd.cellsI6]; rfl)
        subst e0 e1
        have g0 := hcell 0 (by omega)
        have g1 := hcell 1 (by omega)
        rw [Go.Deep.add_add] at g0 g1
        exact ⟨(a0, a1), ⟨by simpa using g0, by simpa using g1⟩, (i64_in w0).1, (i64_in w0).2, (i64_in w1).1, (i64_in w1).2⟩
    obtain ⟨ls, hpl, hps⟩ := listOfA len each
    refine ⟨ls, ⟨some a, m, by rw [hpl], by rw [hpl]; omega, ?_⟩, fun p hp => ?_, by rw [hpl]; unfold reachBytes at hlen; omega⟩
    · by_cases h0 : len = 0
      · left; exact List.length_eq_zero_iff.1 (by omega)
      · right
        obtain ⟨b, off, spot⟩ := a
        obtain ⟨p0, ⟨hc0, _⟩, _⟩ := each 0 (by omega)
        have hspot : spot = none := by simpa [Addr.add] using World.cell?_spot hc0
        subst hspot
        have hbW : b < W.heap.size := hlt (.cell b off) (List.mem_append_left _ (MemPlace.mem_row.2 ⟨0, by omega, by simp⟩))
        refine ⟨b, off, rfl, hbW, fun j p hj => ?_⟩
        obtain ⟨⟨g0, g1⟩, _⟩ := hps j p hj
        rw [Addr.add_lit] at g0 g1
        exact ⟨g0, by rw [← Nat.add_assoc] at g1; exact g1⟩
    · obtain ⟨j, hj⟩ := List.getElem?_of_mem hp
      exact (hps j p hj).2
set_option maxRecDepth 100000 in
theorem open_pos {H : Type} {enc : TypeId × Value → H} {W : World} {r : Reach} {bb : Nat} {v : Value} {d : DataW H} {p : List MemPlace}
    (hv : Value.okWide Tryd.prog W r bb 24 v) (h : DataW.Trod enc Tryd.prog W 0 (fun _ => true) true 24 v d p) (hlt : ∀ x ∈ p, x.block < W.heap.size)
    (hs : ∀ n ∈ d.weights Tryd.prog 24, n ≤ reachBytes) :
    ∃ (av : Int) (lv : Value) (ls : List Mk), v = .agg #[.int .i64 av, lv] ∧ (-9223372036854775808 ≤ av ∧ av ≤ top) ∧ RM W lv ls ∧ MOk ls ∧ ls.length ≤ 8796093022000 := by
  obtain ⟨cs, rfl, hsz⟩ := okWide_struct Tryd.underlying24 hv
  rw [Tryd.cellsPosA] at hsz
  obtain ⟨l⟩ := cs
  clear hv
  match l, hsz with
  | [c0, c1], _ =>
    obtain ⟨fuel, hf⟩ := h
    obtain ⟨xs, k, _, hx, _, hlen, hall⟩ := DataW.trod_struct Tryd.underlying24 hf
    clear hf
    match xs, hlen with
    | [x0, x1], _ =>
      have hd : d = .agg [x0.1, x1.1] := congrArg Prod.fst hx
      have hp : p = _ := congrArg Prod.snd hx
      have mem_last : ∀ {y : MemPlace}, y ∈ x1.2 → y ∈ List.flatMap (fun z : DataW H × List MemPlace => z.2) [x0, x1] := fun hy => List.mem_flatMap.2 ⟨x1, by simp, hy⟩
      obtain ⟨av, e0, wa⟩ := intFA (v := c0) (x := x0) Tryd.underlying2 (by simpa using hall 0 _ rfl) (by show List.take (Tryd.prog.cellsOf 2) _ = _; rw [Tryd.cellsI6]; rfl)
      obtain ⟨ls, hrl, hlo, hll⟩ := open_marks (x := x1) (v := c1) (by
        have this : DataW.trod enc Tryd.prog W 0 (fun _ => true) true k 22 (List.take (Tryd.prog.cellsOf 22) [c1]) = some x1 := hall 1 _ rfl
        rw [Tryd.cellsSlM] at this
        exact this) (fun y hy => hlt y (by rw [hp]; exact mem_last hy)) (fun m hm => hs m (by
          rw [hd]; simp only [DataW.weights, Tryd.underlying24]
          exact DataW.weights_mem_each (j := 1) (t := 22) (d := x1.1) rfl rfl m hm))
      subst e0
      exact ⟨av, c1, ls, rfl, i64_in wa, hrl, hlo, hll⟩
end Go.Proofs.YtmebomifakmkbaaDoor
