/-
  My own text: rows, configurations and operations among the arguments (printed by mkgarg.py).
-/
import Derived.Test.YtdjhbecbbmdimaaGreatDoorG5
import Derived.Test.YtdjhbecbbmdimaaGreatDoorRow
import Derived.Deep.Slices
import Derived.SizedLaws
import Derived.Stop.LaidErr
namespace Go.Proofs.YtdjhbecbbmdimaaGreatDoor
open Go.ChangeShapes Go.WideShapes Go.ChangeAt Go.RowKit

theorem Tryz.laidOutA : laidOutB Tryz.prog = true := by kernel_rfl
theorem Tryz.cellsIA : Tryz.prog.cellsOf 3 = 1 := by kernel_rfl
theorem Tryz.cellsI6 : Tryz.prog.cellsOf 2 = 1 := by kernel_rfl
theorem Tryz.cellsSlL : Tryz.prog.cellsOf 22 = 1 := by kernel_rfl
theorem Tryz.cellsSlK : Tryz.prog.cellsOf 23 = 1 := by kernel_rfl
theorem Tryz.cellsSlI : Tryz.prog.cellsOf 159 = 1 := by kernel_rfl
theorem Tryz.cellsLg : Tryz.prog.cellsOf 43 = 5 := by kernel_rfl
theorem Tryz.bytesLg : Tryz.prog.bytesOf 43 = 40 := by kernel_rfl
theorem Tryz.cellsKy : Tryz.prog.cellsOf 39 = 2 := by kernel_rfl
theorem Tryz.bytesKy : Tryz.prog.bytesOf 39 = 16 := by kernel_rfl
theorem Tryz.bytesI6 : Tryz.prog.bytesOf 2 = 8 := by kernel_rfl
theorem Tryz.cellsOp : Tryz.prog.cellsOf 25 = 8 := by kernel_rfl
theorem Tryz.cellsCf : Tryz.prog.cellsOf 77 = 5 := by kernel_rfl
section
variable {H : Type} {enc : TypeId × Value → H} {P : Program} {w : World} {base : Nat} {spare : Nat → Bool} {held : Bool} {t : TypeId} {cs : List Value} {v : Value} {n : Nat} {x : DataW H × List MemPlace}
theorem intFA {k : IntKind} (ht : P.underlying t = some (.int k)) (h : DataW.trod enc P w base spare held n t cs = some x) (hc : cs = [v]) :
    ∃ a, v = .int k a ∧ (Lit.int k a).wf = true := by
  obtain ⟨a, e, hx, hw⟩ := DataW.trod_int ht h
  rw [hc] at e
  exact ⟨a, by simpa using e, hw⟩
end
theorem listOfA {α : Type} {Q : Nat → α → Prop} : ∀ n : Nat, (∀ j, j < n → ∃ p, Q j p) → ∃ l : List α, l.length = n ∧ ∀ j p, l[j]? = some p → Q j p
  | 0, _ => ⟨[], rfl, fun j p h => by simp at h⟩
  | n + 1, h => by
    obtain ⟨l, hl, hq⟩ := listOfA n (fun j hj => h j (by omega))
    obtain ⟨p, hp⟩ := h n (by omega)
    refine ⟨l ++ [p], by simp [hl], fun j p' hj => ?_⟩
    by_cases hjn : j < n
    · rw [List.getElem?_append_left (by omega)] at hj; exact hq j p' hj
    · rw [List.getElem?_append_right (by omega)] at hj
      have : j - l.length = 0 := by
        have := (List.getElem?_eq_some_iff.1 hj).1
        simp at this; omega
      rw [this] at hj
      have hj' : j = n := by omega
      simp at hj; subst hj; rw [hj']; exact hp
set_option maxRecDepth 100000 in
theorem open_legs {H : Type} {enc : TypeId × Value → H} {W : World} {v : Value} {n : Nat} {x : DataW H × List MemPlace}
    (h : DataW.trod enc Tryz.prog W 0 (fun _ => true) true n 22 [v] = some x) (hlt : ∀ y ∈ x.2, y.block < W.heap.size)
    (hs : ∀ m ∈ x.1.weights Tryz.prog 22, m ≤ reachBytes) :
    ∃ ls : List LG.El, LG.RM W v ls ∧ ls.length ≤ 3518437208800 := by
  rcases Go.Deep.open_slice Tryz.underlying22 h with ⟨hcs, hx⟩ | ⟨a, len, cap, m, n', D, Pl, hcs, hb, hl, hm, hmm, hx, hel⟩
  · obtain rfl : v = .slice none 0 0 := by simpa using hcs
    exact ⟨[], LG.RM.nil W, by simp⟩
  · obtain rfl : v = .slice (some a) len cap := by simpa using hcs
    have hp : x.2 = _ := congrArg Prod.snd hx
    have hdd : x.1 = _ := congrArg Prod.fst hx
    rw [hp, Tryz.cellsLg] at hlt
    rw [Tryz.cellsLg] at hel
    clear hx hp
    simp only [if_true] at hmm
    subst hmm
    have hlen : len * 40 ≤ reachBytes := by
      have := hs ((((List.range len).map D).length + ((List.range (m - len)).map fun j => D (len + j)).length) * Tryz.prog.bytesOf 43) (by rw [hdd]; simp only [DataW.weights, Tryz.underlying22]; exact List.mem_cons_self)
      rw [Tryz.bytesLg] at this
      simp only [List.length_map, List.length_range] at this
      omega
    have each : ∀ i, i < len → ∃ p : LG.El, W.cell? (a.add (i * 5)) = some (.int .i64 p.1) ∧ W.cell? (a.add (i * 5 + 1)) = some (.int .i64 p.2.1) ∧ W.cell? (a.add (i * 5 + 2)) = some (.int .i64 p.2.2.1) ∧ W.cell? (a.add (i * 5 + 3)) = some (.int .i64 p.2.2.2.1) ∧ W.cell? (a.add (i * 5 + 4)) = some (.int .i64 p.2.2.2.2) := by
      intro i hi
      obtain ⟨cs', h1, h2⟩ := hel i (by omega)
      obtain ⟨_, hlen', hcell⟩ := World.cells?_some h1
      obtain ⟨xs, k, _, hxy, _, hxl, hall⟩ := DataW.trod_struct Tryz.underlying43 h2
      match xs, hxl, cs', hlen' with
      | [x0, x1, x2, x3, x4], _, [c0, c1, c2, c3, c4], _ =>
        obtain ⟨a0, e0, w0⟩ := intFA (v := c0) (x := x0) Tryz.underlying3 (by simpa using hall 0 _ rfl) (by show List.take (Tryz.prog.cellsOf 3) _ = _; rw [Tryz.cellsIA]; rfl)
        obtain ⟨a1, e1, w1⟩ := intFA (v := c1) (x := x1) Tryz.underlying3 (by simpa using hall 1 _ rfl) (by show List.take (Tryz.prog.cellsOf 3) _ = _; rw [Tryz.cellsIA]; rfl)
        obtain ⟨a2, e2, w2⟩ := intFA (v := c2) (x := x2) Tryz.underlying3 (by simpa using hall 2 _ rfl) (by show List.take (Tryz.prog.cellsOf 3) _ = _; rw [Tryz.cellsIA]; rfl)
        obtain ⟨a3, e3, w3⟩ := intFA (v := c3) (x := x3) Tryz.underlying2 (by simpa using hall 3 _ rfl) (by show List.take (Tryz.prog.cellsOf 2) _ = _; rw [Tryz.cellsI6]; rfl)
        obtain ⟨a4, e4, w4⟩ := intFA (v := c4) (x := x4) Tryz.underlying3 (by simpa using hall 4 _ rfl) (by show List.take (Tryz.prog.cellsOf 3) _ = _; rw [Tryz.cellsIA]; rfl)
        subst e0 e1 e2 e3 e4
        have g0 := hcell 0 (by omega)
        have g1 := hcell 1 (by omega)
        have g2 := hcell 2 (by omega)
        have g3 := hcell 3 (by omega)
        have g4 := hcell 4 (by omega)
        rw [Go.Deep.add_add] at g0 g1 g2 g3 g4
        exact ⟨(a0, a1, a2, a3, a4), by simpa using g0, by simpa using g1, by simpa using g2, by simpa using g3, by simpa using g4⟩
    obtain ⟨ls, hpl, hps⟩ := listOfA len each
    refine ⟨ls, ⟨some a, m, by rw [hpl], by rw [hpl]; omega, ?_⟩, by rw [hpl]; unfold reachBytes at hlen; omega⟩
    by_cases h0 : len = 0
    · left; exact List.length_eq_zero_iff.1 (by omega)
    · right
      obtain ⟨b, off, spot⟩ := a
      obtain ⟨p0, hc0⟩ := each 0 (by omega)
      have hspot : spot = none := by simpa [Addr.add] using World.cell?_spot hc0.1
      subst hspot
      have hbW : b < W.heap.size := hlt (.cell b off) (List.mem_append_left _ (MemPlace.mem_row.2 ⟨0, by omega, by simp⟩))
      refine ⟨b, off, rfl, hbW, fun j p hj => ?_⟩
      have gg := hps j p hj
      simp only [Addr.add_lit] at gg
      simpa [Nat.add_assoc] using gg
set_option maxRecDepth 100000 in
theorem open_keys {H : Type} {enc : TypeId × Value → H} {W : World} {v : Value} {n : Nat} {x : DataW H × List MemPlace}
    (h : DataW.trod enc Tryz.prog W 0 (fun _ => true) true n 23 [v] = some x) (hlt : ∀ y ∈ x.2, y.block < W.heap.size)
    (hs : ∀ m ∈ x.1.weights Tryz.prog 23, m ≤ reachBytes) :
    ∃ ls : List KY.El, KY.RM W v ls ∧ ls.length ≤ 8796093022000 := by
  rcases Go.Deep.open_slice Tryz.underlying23 h with ⟨hcs, hx⟩ | ⟨a, len, cap, m, n', D, Pl, hcs, hb, hl, hm, hmm, hx, hel⟩
  · obtain rfl : v = .slice none 0 0 := by simpa using hcs
    exact ⟨[], KY.RM.nil W, by simp⟩
  · obtain rfl : v = .slice (some a) len cap := by simpa using hcs
    have hp : x.2 = _ := congrArg Prod.snd hx
    have hdd : x.1 = _ := congrArg Prod.fst hx
    rw [hp, Tryz.cellsKy] at hlt
    rw [Tryz.cellsKy] at hel
    clear hx hp
    simp only [if_true] at hmm
    subst hmm
    have hlen : len * 16 ≤ reachBytes := by
      have := hs ((((List.range len).map D).length + ((List.range (m - len)).map fun j => D (len + j)).length) * Tryz.prog.bytesOf 39) (by rw [hdd]; simp only [DataW.weights, Tryz.underlying23]; exact List.mem_cons_self)
      rw [Tryz.bytesKy] at this
      simp only [List.length_map, List.length_range] at this
      omega
    have each : ∀ i, i < len → ∃ p : KY.El, W.cell? (a.add (i * 2)) = some (.int .i64 p.1) ∧ W.cell? (a.add (i * 2 + 1)) = some (.int .i64 p.2) := by
      intro i hi
      obtain ⟨cs', h1, h2⟩ := hel i (by omega)
      obtain ⟨_, hlen', hcell⟩ := World.cells?_some h1
      obtain ⟨xs, k, _, hxy, _, hxl, hall⟩ := DataW.trod_struct Tryz.underlying39 h2
      match xs, hxl, cs', hlen' with
      | [x0, x1], _, [c0, c1], _ =>
        obtain ⟨a0, e0, w0⟩ := intFA (v := c0) (x := x0) Tryz.underlying3 (by simpa using hall 0 _ rfl) (by show List.take (Tryz.prog.cellsOf 3) _ = _; rw [Tryz.cellsIA]; rfl)
        obtain ⟨a1, e1, w1⟩ := intFA (v := c1) (x := x1) Tryz.underlying3 (by simpa using hall 1 _ rfl) (by show List.take (Tryz.prog.cellsOf 3) _ = _; rw [Tryz.cellsIA]; rfl)
        subst e0 e1
        have g0 := hcell 0 (by omega)
        have g1 := hcell 1 (by omega)
        rw [Go.Deep.add_add] at g0 g1
        exact ⟨(a0, a1), by simpa using g0, by simpa using g1⟩
    obtain ⟨ls, hpl, hps⟩ := listOfA len each
    refine ⟨ls, ⟨some a, m, by rw [hpl], by rw [hpl]; omega, ?_⟩, by rw [hpl]; unfold reachBytes at hlen; omega⟩
    by_cases h0 : len = 0
    · left; exact List.length_eq_zero_iff.1 (by omega)
    · right
      obtain ⟨b, off, spot⟩ := a
      obtain ⟨p0, hc0⟩ := each 0 (by omega)
      have hspot : spot = none := by simpa [Addr.add] using World.cell?_spot hc0.1
      subst hspot
      have hbW : b < W.heap.size := hlt (.cell b off) (List.mem_append_left _ (MemPlace.mem_row.2 ⟨0, by omega, by simp⟩))
      refine ⟨b, off, rfl, hbW, fun j p hj => ?_⟩
      have gg := hps j p hj
      simp only [Addr.add_lit] at gg
      simpa [Nat.add_assoc] using gg
set_option maxRecDepth 100000 in
theorem open_longs {H : Type} {enc : TypeId × Value → H} {W : World} {v : Value} {n : Nat} {x : DataW H × List MemPlace}
    (h : DataW.trod enc Tryz.prog W 0 (fun _ => true) true n 159 [v] = some x) (hlt : ∀ y ∈ x.2, y.block < W.heap.size)
    (hs : ∀ m ∈ x.1.weights Tryz.prog 159, m ≤ reachBytes) :
    ∃ ls : List LN.El, LN.RM W v ls ∧ ls.length ≤ 17592186044000 := by
  rcases Go.Deep.open_slice Tryz.underlying159 h with ⟨hcs, hx⟩ | ⟨a, len, cap, m, n', D, Pl, hcs, hb, hl, hm, hmm, hx, hel⟩
  · obtain rfl : v = .slice none 0 0 := by simpa using hcs
    exact ⟨[], LN.RM.nil W, by simp⟩
  · obtain rfl : v = .slice (some a) len cap := by simpa using hcs
    have hp : x.2 = _ := congrArg Prod.snd hx
    have hdd : x.1 = _ := congrArg Prod.fst hx
    rw [hp, Tryz.cellsI6] at hlt
    rw [Tryz.cellsI6] at hel
    clear hx hp
    simp only [if_true] at hmm
    subst hmm
    have hlen : len * 8 ≤ reachBytes := by
      have := hs ((((List.range len).map D).length + ((List.range (m - len)).map fun j => D (len + j)).length) * Tryz.prog.bytesOf 2) (by rw [hdd]; simp only [DataW.weights, Tryz.underlying159]; exact List.mem_cons_self)
      rw [Tryz.bytesI6] at this
      simp only [List.length_map, List.length_range] at this
      omega
    have each : ∀ i, i < len → ∃ p : LN.El, W.cell? (a.add i) = some (.int .i64 p) := by
      intro i hi
      obtain ⟨cs', h1, h2⟩ := hel i (by omega)
      obtain ⟨_, hlen', hcell⟩ := World.cells?_some h1
      match cs', hlen' with
      | [c0], _ =>
        obtain ⟨a0, e0, w0⟩ := intFA (v := c0) Tryz.underlying2 h2 rfl
        subst e0
        have g0 := hcell 0 (by omega)
        rw [Go.Deep.add_add] at g0
        exact ⟨a0, by simpa using g0⟩
    obtain ⟨ls, hpl, hps⟩ := listOfA len each
    by_cases h0 : len = 0
    · refine ⟨ls, ⟨0, some a, m, by rw [hpl], by rw [hpl]; omega, .inl (List.length_eq_zero_iff.1 (by omega))⟩, by rw [hpl]; unfold reachBytes at hlen; omega⟩
    · obtain ⟨b, off, spot⟩ := a
      obtain ⟨p0, hc0⟩ := each 0 (by omega)
      have hspot : spot = none := by simpa [Addr.add] using World.cell?_spot hc0
      subst hspot
      have hbW : b < W.heap.size := hlt (.cell b off) (List.mem_append_left _ (MemPlace.mem_row.2 ⟨0, by omega, by simp⟩))
      refine ⟨ls, ⟨b, some ⟨b, off, none⟩, m, by rw [hpl], by rw [hpl]; omega, .inr ⟨off, rfl, hbW, fun j p hj => ?_⟩⟩, by rw [hpl]; unfold reachBytes at hlen; omega⟩
      have gg := hps j p hj
      rw [Addr.add_lit] at gg
      exact gg
set_option maxRecDepth 100000 in
theorem open_cfg {H : Type} {enc : TypeId × Value → H} {W : World} {r : Reach} {bb : Nat} {v : Value} {d : DataW H} {p : List MemPlace}
    (hv : Value.okWide Tryz.prog W r bb 77 v) (h : DataW.Trod enc Tryz.prog W 0 (fun _ => true) true 77 v d p) :
    ∃ A S q h k : Int, v = .agg #[.int .i64 A, .int .i64 S, .int .i64 q, .int .i64 h, .int .i64 k] := by
  obtain ⟨cs, rfl, hsz⟩ := okWide_struct Tryz.underlying77 hv
  rw [Tryz.cellsCf] at hsz
  obtain ⟨l⟩ := cs
  clear hv
  match l, hsz with
  | [c0, c1, c2, c3, c4], _ =>
    obtain ⟨fuel, hf⟩ := h
    obtain ⟨xs, k, _, hx, _, hlen, hall⟩ := DataW.trod_struct Tryz.underlying77 hf
    clear hf
    match xs, hlen with
    | [x0, x1, x2, x3, x4], _ =>
      obtain ⟨a0, e0, w0⟩ := intFA (v := c0) (x := x0) Tryz.underlying3 (by simpa using hall 0 _ rfl) (by show List.take (Tryz.prog.cellsOf 3) _ = _; rw [Tryz.cellsIA]; rfl)
      obtain ⟨a1, e1, w1⟩ := intFA (v := c1) (x := x1) Tryz.underlying3 (by simpa using hall 1 _ rfl) (by show List.take (Tryz.prog.cellsOf 3) _ = _; rw [Tryz.cellsIA]; rfl)
      obtain ⟨a2, e2, w2⟩ := intFA (v := c2) (x := x2) Tryz.underlying3 (by simpa using hall 2 _ rfl) (by show List.take (Tryz.prog.cellsOf 3) _ = _; rw [Tryz.cellsIA]; rfl)
      obtain ⟨a3, e3, w3⟩ := intFA (v := c3) (x := x3) Tryz.underlying3 (by simpa using hall 3 _ rfl) (by show List.take (Tryz.prog.cellsOf 3) _ = _; rw [Tryz.cellsIA]; rfl)
      obtain ⟨a4, e4, w4⟩ := intFA (v := c4) (x := x4) Tryz.underlying3 (by simpa using hall 4 _ rfl) (by show List.take (Tryz.prog.cellsOf 3) _ = _; rw [Tryz.cellsIA]; rfl)
      subst e0 e1 e2 e3 e4
      exact ⟨a0, a1, a2, a3, a4, rfl⟩
set_option maxRecDepth 100000 in
theorem open_op {H : Type} {enc : TypeId × Value → H} {W : World} {r : Reach} {bb : Nat} {v : Value} {d : DataW H} {p : List MemPlace}
    (hv : Value.okWide Tryz.prog W r bb 25 v) (h : DataW.Trod enc Tryz.prog W 0 (fun _ => true) true 25 v d p) (hlt : ∀ x ∈ p, x.block < W.heap.size)
    (hs : ∀ n ∈ d.weights Tryz.prog 25, n ≤ reachBytes) :
    ∃ (o : OpX) (lv pv : Value), v = opV o lv pv ∧ LG.RM W lv o.legs ∧ KY.RM W pv o.pairs ∧ o.legs.length ≤ 3518437208800 ∧ o.pairs.length ≤ 8796093022000 := by
  obtain ⟨cs, rfl, hsz⟩ := okWide_struct Tryz.underlying25 hv
  rw [Tryz.cellsOp] at hsz
  obtain ⟨l⟩ := cs
  clear hv
  match l, hsz with
  | [c0, c1, c2, c3, c4, c5, c6, c7], _ =>
    obtain ⟨fuel, hf⟩ := h
    obtain ⟨xs, k, _, hx, _, hlen, hall⟩ := DataW.trod_struct Tryz.underlying25 hf
    clear hf
    match xs, hlen with
    | [x0, x1, x2, x3, x4, x5, x6, x7], _ =>
      have hd : d = .agg [x0.1, x1.1, x2.1, x3.1, x4.1, x5.1, x6.1, x7.1] := congrArg Prod.fst hx
      have hp : p = _ := congrArg Prod.snd hx
      have mem6 : ∀ {y : MemPlace}, y ∈ x6.2 → y ∈ List.flatMap (fun z : DataW H × List MemPlace => z.2) [x0, x1, x2, x3, x4, x5, x6, x7] := fun hy => List.mem_flatMap.2 ⟨x6, by simp, hy⟩
      have mem7 : ∀ {y : MemPlace}, y ∈ x7.2 → y ∈ List.flatMap (fun z : DataW H × List MemPlace => z.2) [x0, x1, x2, x3, x4, x5, x6, x7] := fun hy => List.mem_flatMap.2 ⟨x7, by simp, hy⟩
      obtain ⟨a0, e0, w0⟩ := intFA (v := c0) (x := x0) Tryz.underlying3 (by simpa using hall 0 _ rfl) (by show List.take (Tryz.prog.cellsOf 3) _ = _; rw [Tryz.cellsIA]; rfl)
      obtain ⟨a1, e1, w1⟩ := intFA (v := c1) (x := x1) Tryz.underlying3 (by simpa using hall 1 _ rfl) (by show List.take (Tryz.prog.cellsOf 3) _ = _; rw [Tryz.cellsIA]; rfl)
      obtain ⟨a2, e2, w2⟩ := intFA (v := c2) (x := x2) Tryz.underlying3 (by simpa using hall 2 _ rfl) (by show List.take (Tryz.prog.cellsOf 3) _ = _; rw [Tryz.cellsIA]; rfl)
      obtain ⟨a3, e3, w3⟩ := intFA (v := c3) (x := x3) Tryz.underlying2 (by simpa using hall 3 _ rfl) (by show List.take (Tryz.prog.cellsOf 2) _ = _; rw [Tryz.cellsI6]; rfl)
      obtain ⟨a4, e4, w4⟩ := intFA (v := c4) (x := x4) Tryz.underlying3 (by simpa using hall 4 _ rfl) (by show List.take (Tryz.prog.cellsOf 3) _ = _; rw [Tryz.cellsIA]; rfl)
      obtain ⟨a5, e5, w5⟩ := intFA (v := c5) (x := x5) Tryz.underlying3 (by simpa using hall 5 _ rfl) (by show List.take (Tryz.prog.cellsOf 3) _ = _; rw [Tryz.cellsIA]; rfl)
      obtain ⟨l6, hr6, hl6⟩ := open_legs (x := x6) (v := c6) (by
        have this : DataW.trod enc Tryz.prog W 0 (fun _ => true) true k 22 (List.take (Tryz.prog.cellsOf 22) [c6, c7]) = some x6 := hall 6 _ rfl
        rw [Tryz.cellsSlL] at this
        exact this) (fun y hy => hlt y (by rw [hp]; exact mem6 hy)) (fun m hm => hs m (by
          rw [hd]; simp only [DataW.weights, Tryz.underlying25]
          exact DataW.weights_mem_each (j := 6) (t := 22) (d := x6.1) rfl rfl m hm))
      obtain ⟨l7, hr7, hl7⟩ := open_keys (x := x7) (v := c7) (by
        have this : DataW.trod enc Tryz.prog W 0 (fun _ => true) true k 23 (List.take (Tryz.prog.cellsOf 23) [c7]) = some x7 := hall 7 _ rfl
        rw [Tryz.cellsSlK] at this
        exact this) (fun y hy => hlt y (by rw [hp]; exact mem7 hy)) (fun m hm => hs m (by
          rw [hd]; simp only [DataW.weights, Tryz.underlying25]
          exact DataW.weights_mem_each (j := 7) (t := 23) (d := x7.1) rfl rfl m hm))
      subst e0 e1 e2 e3 e4 e5
      exact ⟨⟨a0, a1, a2, a3, a4, a5, l6, l7⟩, c6, c7, rfl, hr6, hr7, hl6, hl7⟩
end Go.Proofs.YtdjhbecbbmdimaaGreatDoor
