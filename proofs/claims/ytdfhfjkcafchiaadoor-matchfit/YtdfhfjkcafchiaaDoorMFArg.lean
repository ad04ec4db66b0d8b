/-
  My own text: layer 22: sides and texts among the arguments.
-/
import Derived.Test.YtdfhfjkcafchiaaDoorNArg
import Derived.Test.YtdfhfjkcafchiaaDoorMFe
namespace Go.Proofs.YtdfhfjkcafchiaaDoor
open Go.ChangeShapes Go.WideShapes Go.ChangeAt Go.RowKit LC

set_option maxRecDepth 100000 in
set_option maxHeartbeats 2000000 in
theorem open_noticeF {H : Type} {enc : TypeId × Value → H} {W : World} {kk : Nat} {cs : List Value} {x : DataW H × List MemPlace}
    (hf : DataW.trod enc Tryd.prog W 0 (fun _ => true) true kk 26 cs = some x) (hsz : cs.length = 27) (hlt : ∀ y ∈ x.2, y.block < W.heap.size)
    (hs : ∀ n ∈ x.1.weights Tryd.prog 26, n ≤ reachBytes) :
    ∃ (n : Ntc) (lv : Value) (ls : List Lnk), cs = (nC n lv).toList ∧ NOk n ∧ RL W lv ls ∧ ls.length ≤ 5864062014805 ∧ (I64 n.tr ∧ I64 n.st ∧ I64 n.qty) ∧ I64 n.amt := by
  match cs, hsz with
  | [c0, c1, c2, c3, c4, c5, c6, c7, c8, c9, c10, c11, c12, c13, c14, c15, c16, c17, c18, c19, c20, c21, c22, c23, c24, c25, c26], _ =>
    obtain ⟨xs, k, _, hx, _, hlen, hall⟩ := DataW.trod_struct Tryd.underlying26 hf
    clear hf
    match xs, hlen with
    | [x0, x1, x2, x3, x4, x5, x6, x7, x8, x9, x10, x11, x12, x13, x14, x15], _ =>
      have hd : x.1 = .agg [x0.1, x1.1, x2.1, x3.1, x4.1, x5.1, x6.1, x7.1, x8.1, x9.1, x10.1, x11.1, x12.1, x13.1, x14.1, x15.1] := congrArg Prod.fst hx
      have hp : x.2 = _ := congrArg Prod.snd hx
      have mem_last : ∀ {y : MemPlace}, y ∈ x15.2 → y ∈ List.flatMap (fun z : DataW H × List MemPlace => z.2) [x0, x1, x2, x3, x4, x5, x6, x7, x8, x9, x10, x11, x12, x13, x14, x15] := fun hy => List.mem_flatMap.2 ⟨x15, by simp, hy⟩
      obtain ⟨ref, e0, y0⟩ := strF (v := c0) (x := x0) Tryd.underlying9 (by simpa using hall 0 _ rfl) (by show List.take (Tryd.prog.cellsOf 9) _ = _; rw [Tryd.cellsS]; rfl)
      obtain ⟨prev, e1, y1⟩ := strF (v := c1) (x := x1) Tryd.underlying9 (by simpa using hall 1 _ rfl) (by show List.take (Tryd.prog.cellsOf 9) _ = _; rw [Tryd.cellsS]; rfl)
      obtain ⟨cn, e2⟩ := boolF (v := c2) (x := x2) Tryd.underlying4 (by simpa using hall 2 _ rfl) (by show List.take (Tryd.prog.cellsOf 4) _ = _; rw [Tryd.cellsBo]; rfl)
      obtain ⟨rc, e3⟩ := boolF (v := c3) (x := x3) Tryd.underlying4 (by simpa using hall 3 _ rfl) (by show List.take (Tryd.prog.cellsOf 4) _ = _; rw [Tryd.cellsBo]; rfl)
      obtain ⟨py, e4⟩ := boolF (v := c4) (x := x4) Tryd.underlying4 (by simpa using hall 4 _ rfl) (by show List.take (Tryd.prog.cellsOf 4) _ = _; rw [Tryd.cellsBo]; rfl)
      obtain ⟨tr, e5, _, wtr⟩ := intF (v := c5) (x := x5) Tryd.underlying3 (by simpa using hall 5 _ rfl) (by show List.take (Tryd.prog.cellsOf 3) _ = _; rw [Tryd.cellsI]; rfl)
      obtain ⟨st, e6, _, wst⟩ := intF (v := c6) (x := x6) Tryd.underlying3 (by simpa using hall 6 _ rfl) (by show List.take (Tryd.prog.cellsOf 3) _ = _; rw [Tryd.cellsI]; rfl)
      obtain ⟨code, hcl, hce⟩ := codeF (cs := [c7, c8, c9, c10, c11, c12, c13, c14, c15, c16, c17, c18]) (x := x7) (by
        have this : DataW.trod enc Tryd.prog W 0 (fun _ => true) true k 23 (List.take (Tryd.prog.cellsOf 23) [c7, c8, c9, c10, c11, c12, c13, c14, c15, c16, c17, c18, c19, c20, c21, c22, c23, c24, c25, c26]) = some x7 := hall 7 _ rfl
        rw [Tryd.cellsIs] at this
        exact this) rfl
      obtain ⟨qty, e8, _, wq⟩ := intF (v := c19) (x := x8) Tryd.underlying2 (by simpa using hall 8 _ rfl) (by show List.take (Tryd.prog.cellsOf 2) _ = _; rw [Tryd.cellsI6]; rfl)
      obtain ⟨acc, e9, y9⟩ := strF (v := c20) (x := x9) Tryd.underlying9 (by simpa using hall 9 _ rfl) (by show List.take (Tryd.prog.cellsOf 9) _ = _; rw [Tryd.cellsS]; rfl)
      obtain ⟨agt, e10, y10⟩ := strF (v := c21) (x := x10) Tryd.underlying9 (by simpa using hall 10 _ rfl) (by show List.take (Tryd.prog.cellsOf 9) _ = _; rw [Tryd.cellsS]; rfl)
      obtain ⟨oth, e11, y11⟩ := strF (v := c22) (x := x11) Tryd.underlying9 (by simpa using hall 11 _ rfl) (by show List.take (Tryd.prog.cellsOf 9) _ = _; rw [Tryd.cellsS]; rfl)
      obtain ⟨amt, e12, _, wa⟩ := intF (v := c23) (x := x12) Tryd.underlying2 (by simpa using hall 12 _ rfl) (by show List.take (Tryd.prog.cellsOf 2) _ = _; rw [Tryd.cellsI6]; rfl)
      obtain ⟨cur, e13, y13⟩ := strF (v := c24) (x := x13) Tryd.underlying9 (by simpa using hall 13 _ rfl) (by show List.take (Tryd.prog.cellsOf 9) _ = _; rw [Tryd.cellsS]; rfl)
      obtain ⟨pri, e14, _, _⟩ := intF (v := c25) (x := x14) Tryd.underlying3 (by simpa using hall 14 _ rfl) (by show List.take (Tryd.prog.cellsOf 3) _ = _; rw [Tryd.cellsI]; rfl)
      obtain ⟨ls, hrl, hlo, hll⟩ := open_links (x := x15) (v := c26) (by
        have this : DataW.trod enc Tryd.prog W 0 (fun _ => true) true k 24 (List.take (Tryd.prog.cellsOf 24) [c26]) = some x15 := hall 15 _ rfl
        rw [Tryd.cellsSl] at this
        exact this) (fun y hy => hlt y (by rw [hp]; exact mem_last hy)) (fun m hm => hs m (by
          rw [hd]; simp only [DataW.weights, Tryd.underlying26]
          exact DataW.weights_mem_each (j := 15) (t := 24) (d := x15.1) rfl rfl m hm))
      have b0 : ref.length ≤ 140737488355328 := by
        have := hs ref.length (by
          rw [hd]; simp only [DataW.weights, Tryd.underlying26]
          exact DataW.weights_mem_each (j := 0) (t := 9) (d := x0.1) rfl rfl _ (by rw [y0]; simp [DataW.weights]))
        unfold reachBytes at this; omega
      have b1 : prev.length ≤ 140737488355328 := by
        have := hs prev.length (by
          rw [hd]; simp only [DataW.weights, Tryd.underlying26]
          exact DataW.weights_mem_each (j := 1) (t := 9) (d := x1.1) rfl rfl _ (by rw [y1]; simp [DataW.weights]))
        unfold reachBytes at this; omega
      have b9 : acc.length ≤ 140737488355328 := by
        have := hs acc.length (by
          rw [hd]; simp only [DataW.weights, Tryd.underlying26]
          exact DataW.weights_mem_each (j := 9) (t := 9) (d := x9.1) rfl rfl _ (by rw [y9]; simp [DataW.weights]))
        unfold reachBytes at this; omega
      have b10 : agt.length ≤ 140737488355328 := by
        have := hs agt.length (by
          rw [hd]; simp only [DataW.weights, Tryd.underlying26]
          exact DataW.weights_mem_each (j := 10) (t := 9) (d := x10.1) rfl rfl _ (by rw [y10]; simp [DataW.weights]))
        unfold reachBytes at this; omega
      have b11 : oth.length ≤ 140737488355328 := by
        have := hs oth.length (by
          rw [hd]; simp only [DataW.weights, Tryd.underlying26]
          exact DataW.weights_mem_each (j := 11) (t := 9) (d := x11.1) rfl rfl _ (by rw [y11]; simp [DataW.weights]))
        unfold reachBytes at this; omega
      have b13 : cur.length ≤ 140737488355328 := by
        have := hs cur.length (by
          rw [hd]; simp only [DataW.weights, Tryd.underlying26]
          exact DataW.weights_mem_each (j := 13) (t := 9) (d := x13.1) rfl rfl _ (by rw [y13]; simp [DataW.weights]))
        unfold reachBytes at this; omega
      subst e0 e1 e2 e3 e4 e5 e6 e8 e9 e10 e11 e12 e13 e14
      refine ⟨⟨ref, prev, cn, rc, py, tr, st, code, qty, acc, agt, oth, amt, cur, pri⟩, c26, ls, ?_, ⟨hcl, b0, b1, b9, b10, b11, b13⟩, hrl, hll, ⟨bounds_i64 wtr, bounds_i64 wst, bounds_i64 wq⟩, bounds_i64 wa⟩
      unfold nC
      rw [← hce]; rfl
theorem Tryd.cellsSide : Tryd.prog.cellsOf 28 = 28 := by kernel_rfl
set_option maxRecDepth 100000 in
set_option maxHeartbeats 2000000 in
theorem open_side {H : Type} {enc : TypeId × Value → H} {W : World} {r : Reach} {bb : Nat} {v : Value} {d : DataW H} {p : List MemPlace}
    (hv : Value.okWide Tryd.prog W r bb 28 v) (h : DataW.Trod enc Tryd.prog W 0 (fun _ => true) true 28 v d p) (hlt : ∀ x ∈ p, x.block < W.heap.size)
    (hs : ∀ n ∈ d.weights Tryd.prog 28, n ≤ reachBytes) :
    ∃ (q : Int) (n : Ntc) (lv : Value) (ls : List Lnk), v = .agg (sC q n lv) ∧ NOk n ∧ RL W lv ls ∧ ls.length ≤ 5864062014805 ∧ (I64 n.tr ∧ I64 n.st ∧ I64 n.qty) ∧ I64 n.amt := by
  obtain ⟨cs, rfl, hsz⟩ := okWide_struct Tryd.underlying28 hv
  rw [Tryd.cellsSide] at hsz
  obtain ⟨l⟩ := cs
  clear hv
  match l, hsz with
  | c0 :: rest, hsz =>
    have hr : rest.length = 27 := by simpa using hsz
    obtain ⟨fuel, hf⟩ := h
    obtain ⟨xs, k, _, hx, _, hlen, hall⟩ := DataW.trod_struct Tryd.underlying28 hf
    clear hf
    match xs, hlen with
    | [xa, xb], _ =>
      have hd : d = .agg [xa.1, xb.1] := congrArg Prod.fst hx
      have hp : p = _ := congrArg Prod.snd hx
      obtain ⟨pa, e0, _, _⟩ := intF (v := c0) (x := xa) Tryd.underlying3 (by simpa using hall 0 _ rfl) (by show List.take (Tryd.prog.cellsOf 3) _ = _; rw [Tryd.cellsI]; rfl)
      have hN : DataW.trod enc Tryd.prog W 0 (fun _ => true) true k 26 rest = some xb := by
        have this : DataW.trod enc Tryd.prog W 0 (fun _ => true) true k 26 (List.take (Tryd.prog.cellsOf 26) rest) = some xb := hall 1 _ rfl
        rw [Tryd.cellsNtc, List.take_of_length_le (by omega)] at this
        exact this
      obtain ⟨n, lv, ls, hc, hn, hl, hll, hi, ha⟩ := open_noticeF hN hr (fun y hy => hlt y (by rw [hp]; exact List.mem_flatMap.2 ⟨xb, by simp, hy⟩)) (fun m hm => hs m (by
          rw [hd]; simp only [DataW.weights, Tryd.underlying28]
          exact DataW.weights_mem_each (j := 1) (t := 26) (d := xb.1) rfl rfl m hm))
      subst e0
      refine ⟨pa, n, lv, ls, ?_, hn, hl, hll, hi, ha⟩
      unfold sC
      rw [← hc]
theorem Tryd.bytesStr22 : Tryd.prog.bytesOf 9 = 16 := by kernel_rfl
theorem weights_all {H : Type} {P : Program} {e : TypeId} {d : DataW H} {m : Nat} (hm : m ∈ d.weights P e) : ∀ {l : List (DataW H)}, d ∈ l → m ∈ DataW.weightsAll P e l
  | [], h => by cases h
  | x :: r, h => by
    simp only [DataW.weightsAll, List.mem_append]
    rcases List.mem_cons.1 h with rfl | h
    · exact .inl hm
    · exact .inr (weights_all hm h)
set_option maxRecDepth 100000 in
theorem open_textsF {H : Type} {enc : TypeId × Value → H} {W : World} {v : Value} {n : Nat} {x : DataW H × List MemPlace}
    (h : DataW.trod enc Tryd.prog W 0 (fun _ => true) true n 29 [v] = some x) (hlt : ∀ y ∈ x.2, y.block < W.heap.size)
    (hs : ∀ m ∈ x.1.weights Tryd.prog 29, m ≤ reachBytes) :
    ∃ bs : List (List UInt8), RT W v bs ∧ bs.length ≤ 8796093022000 ∧ ∀ s ∈ bs, s.length ≤ 140737488355328 := by
  rcases Go.Deep.open_slice1 Tryd.underlying29 Tryd.cellsS h with ⟨hcs, hx⟩ | ⟨a, len, cap, m, n', V, D, Pl, hcs, hb, hl, hm, hmm, hx, hel⟩
  · obtain rfl : v = .slice none 0 0 := by simpa using hcs
    exact ⟨[], ⟨none, 0, rfl, .inl rfl⟩, by simp, fun p hp => by cases hp⟩
  · obtain rfl : v = .slice (some a) len cap := by simpa using hcs
    have hp : x.2 = _ := congrArg Prod.snd hx
    have hdd : x.1 = _ := congrArg Prod.fst hx
    rw [hp] at hlt
    clear hx hp
    simp only [if_true] at hmm
    subst hmm
    rw [hdd] at hs
    simp only [DataW.weights, Tryd.underlying29] at hs
    have hlen : len * 16 ≤ reachBytes := by
      have := hs _ List.mem_cons_self
      rw [Tryd.bytesStr22] at this
      simp only [List.length_map, List.length_range] at this
      omega
    have each : ∀ i, i < len → ∃ s : List UInt8, W.cell? (a.add i) = some (.string ⟨s.toArray⟩) ∧ s.length ≤ 140737488355328 := by
      intro i hi
      obtain ⟨h1, h2⟩ := hel i (by omega)
      obtain ⟨s, e0, y0⟩ := strF (v := V i) (x := (D i, Pl i)) Tryd.underlying9 h2 rfl
      have hb : s.length ≤ 140737488355328 := by
        have := hs s.length (List.mem_cons_of_mem _ (List.mem_append_left _ (weights_all (d := D i) (by
          have y1 : D i = .lit (.string s) := congrArg Prod.fst y0
          rw [y1]; simp [DataW.weights]) (List.mem_map.2 ⟨i, List.mem_range.2 hi, rfl⟩))))
        unfold reachBytes at this; omega
      exact ⟨s, by rw [h1, e0], hb⟩
    obtain ⟨T, hpl, hps⟩ := listOf len each
    refine ⟨T, ⟨some a, m, by rw [hpl], ?_⟩, by rw [hpl]; unfold reachBytes at hlen; omega, fun p hp => by
      obtain ⟨j, hj⟩ := List.getElem?_of_mem hp
      exact (hps j p hj).2⟩
    by_cases h0 : len = 0
    · left; exact List.length_eq_zero_iff.1 (by omega)
    · right
      obtain ⟨b, off, spot⟩ := a
      obtain ⟨p0, hc0, _⟩ := each 0 (by omega)
      have hspot : spot = none := by simpa [Addr.add] using World.cell?_spot hc0
      subst hspot
      have hbW : b < W.heap.size := hlt (.cell b off) (List.mem_append_left _ (MemPlace.mem_row.2 ⟨0, by omega, by simp⟩))
      refine ⟨b, off, rfl, hbW, fun j p hj => ?_⟩
      have g0 := (hps j p hj).1
      rw [Addr.add_lit] at g0
      exact g0
end Go.Proofs.YtdfhfjkcafchiaaDoor
