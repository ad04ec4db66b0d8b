/-
  My own text: NArg, LVArg in one.
-/
import Derived.Test.YtcdhblfefpkjgaaDoorN10
import Derived.Test.YtcdhblfefpkjgaaDoorRow
import Derived.Deep.Slices
import Derived.SizedLaws
import Derived.Lib.LaidTab
import Derived.Stop.LaidErr
import Derived.Test.YtcdhblfefpkjgaaDoorLVQ
namespace Go.Proofs.YtcdhblfefpkjgaaDoor.NT
open Go.ChangeShapes Go.WideShapes Go.ChangeAt Go.RowKit LC

theorem Tryd.laidOut : laidOutB Tryd.prog = true := by kernel_rfl
theorem Tryd.cellsI : Tryd.prog.cellsOf 3 = 1 := by kernel_rfl
theorem Tryd.cellsS : Tryd.prog.cellsOf 9 = 1 := by kernel_rfl
theorem Tryd.cellsB : Tryd.prog.cellsOf 5 = 1 := by kernel_rfl
theorem Tryd.cellsLnk : Tryd.prog.cellsOf 53 = 2 := by kernel_rfl
theorem Tryd.bytesLnk : Tryd.prog.bytesOf 53 = 24 := by kernel_rfl
theorem Tryd.cellsNtc : Tryd.prog.cellsOf 27 = 27 := by kernel_rfl
section
variable {H : Type} {enc : TypeId × Value → H} {P : Program} {w : World} {base : Nat} {spare : Nat → Bool} {held : Bool} {t : TypeId} {cs : List Value} {v : Value} {n : Nat} {x : DataW H × List MemPlace}
theorem intF {k : IntKind} (ht : P.underlying t = some (.int k)) (h : DataW.trod enc P w base spare held n t cs = some x) (hc : cs = [v]) :
    ∃ a, v = .int k a ∧ x = (.lit (.int k a), []) ∧ (Lit.int k a).wf = true := by
  obtain ⟨a, e, hx, hw⟩ := DataW.trod_int ht h
  rw [hc] at e
  exact ⟨a, by simpa using e, hx, hw⟩
theorem boolF (ht : P.underlying t = some .bool) (h : DataW.trod enc P w base spare held n t cs = some x) (hc : cs = [v]) :
    ∃ b, v = .bool b := by
  obtain ⟨a, e, _⟩ := DataW.trod_bool ht h
  rw [hc] at e
  exact ⟨a, by simpa using e⟩
theorem strF (ht : P.underlying t = some .string) (h : DataW.trod enc P w base spare held n t cs = some x) (hc : cs = [v]) :
    ∃ s : List UInt8, v = .string ⟨s.toArray⟩ ∧ x = (.lit (.string s), []) := by
  obtain ⟨⟨⟨s⟩⟩, e, hx, _⟩ := DataW.trod_string ht h
  rw [hc] at e
  exact ⟨s, by simpa using e, hx⟩
theorem all_mem {e : TypeId} {d : DataW H} {m : Nat} : ∀ {l : List (DataW H)}, d ∈ l → m ∈ d.weights P e → m ∈ DataW.weightsAll P e l
  | y :: l, h, hm => by
    unfold DataW.weightsAll
    rcases List.mem_cons.1 h with h | h
    · subst h; exact List.mem_append_left _ hm
    · exact List.mem_append_right _ (all_mem h hm)
end
theorem listOf {α : Type} {Q : Nat → α → Prop} : ∀ n : Nat, (∀ j, j < n → ∃ p, Q j p) → ∃ l : List α, l.length = n ∧ ∀ j p, l[j]? = some p → Q j p
  | 0, _ => ⟨[], rfl, fun j p h => by simp at h⟩
  | n + 1, h => by
    obtain ⟨l, hl, hq⟩ := listOf n (fun j hj => h j (by omega))
    obtain ⟨p, hp⟩ := h n (by omega)
    refine ⟨l ++ [p], by simp [hl], fun j p' hj => ?_⟩
    by_cases hjn : j < n
    · rw [List.getElem?_append_left (by omega)] at hj; exact hq j p' hj
    · rw [List.getElem?_append_right (by omega)] at hj
      have : j - l.length = 0 := by
        have := (List.getElem?_eq_some_iff.1 hj).1
        simp at this; omega
      rw [this] at hj
      have hj' : j = n := by omega
      simp at hj; subst hj; rw [hj']; exact hp
theorem u8_wf {a : Int} (h : (Lit.int .u8 a).wf = true) : ∃ c : UInt8, a = (c.toNat : Int) := by
  have hb := bounds_u8 h
  exact ⟨UInt8.ofNat a.toNat, by rw [UInt8.toNat_ofNat', Nat.mod_eq_of_lt (by omega), Int.toNat_of_nonneg hb.1]⟩
theorem codeF {H : Type} {enc : TypeId × Value → H} {w : World} {base : Nat} {spare : Nat → Bool} {held : Bool} {cs : List Value} {n : Nat} {x : DataW H × List MemPlace} (h : DataW.trod enc Tryd.prog w base spare held n 24 cs = some x) (hl : cs.length = 12) :
    ∃ l : List UInt8, l.length = 12 ∧ cs = nb l := by
  obtain ⟨xs, m, _, _, _, _, hall⟩ := DataW.trod_array Tryd.underlying24 h
  obtain ⟨l, hll, hq⟩ := listOf (α := UInt8) (Q := fun j c => cs[j]? = some (.int .u8 (c.toNat : Int))) 12 (fun j hj => by
    have h1 := hall j hj
    rw [Tryd.cellsB, Nat.mul_one] at h1
    obtain ⟨y, hy⟩ : ∃ y, cs[j]? = some y := ⟨_, List.getElem?_eq_getElem (by omega)⟩
    have ht : (cs.drop j).take 1 = [y] := by
      rw [List.drop_eq_getElem_cons (by omega)]
      have : cs[j] = y := (List.getElem?_eq_some_iff.1 hy).2
      rw [this]; simp
    rw [ht] at h1
    cases hx : xs[j]? with
    | none => rw [hx] at h1; 
              exact absurd h1 (by
                have hlx : xs.length = 12 := by assumption
                rw [List.getElem?_eq_none_iff] at hx; omega)
    | some x1 =>
      rw [hx] at h1
      obtain ⟨a, e, _, hw⟩ := intF Tryd.underlying5 h1 rfl
      obtain ⟨c, rfl⟩ := u8_wf hw
      exact ⟨c, by rw [hy, e]⟩)
  refine ⟨l, hll, List.ext_getElem? fun j => ?_⟩
  by_cases hj : j < 12
  · obtain ⟨c, hc⟩ : ∃ c, l[j]? = some c := ⟨_, List.getElem?_eq_getElem (by omega)⟩
    rw [hq j c hc]; simp [nb, hc]
  · rw [List.getElem?_eq_none (by omega), List.getElem?_eq_none (by simp [nb]; omega)]
theorem Tryd.cellsBo : Tryd.prog.cellsOf 4 = 1 := by kernel_rfl
theorem Tryd.cellsI6 : Tryd.prog.cellsOf 2 = 1 := by kernel_rfl
theorem Tryd.cellsIs : Tryd.prog.cellsOf 24 = 12 := by kernel_rfl
theorem Tryd.cellsSl : Tryd.prog.cellsOf 25 = 1 := by kernel_rfl
set_option maxRecDepth 100000 in
theorem open_links {H : Type} {enc : TypeId × Value → H} {W : World} {v : Value} {n : Nat} {x : DataW H × List MemPlace}
    (h : DataW.trod enc Tryd.prog W 0 (fun _ => true) true n 25 [v] = some x) (hlt : ∀ y ∈ x.2, y.block < W.heap.size)
    (hs : ∀ m ∈ x.1.weights Tryd.prog 25, m ≤ reachBytes) :
    ∃ ls : List Lnk, RL W v ls ∧ LOk ls ∧ ls.length ≤ 5864062014805 := by
  rcases Go.Deep.open_slice Tryd.underlying25 h with ⟨hcs, hx⟩ | ⟨a, len, cap, m, n', D, Pl, hcs, hb, hl, hm, hmm, hx, hel⟩
  · obtain rfl : v = .slice none 0 0 := by simpa using hcs
    exact ⟨[], ⟨_, _, rfl, .inl rfl⟩, (fun p hp => by cases hp), by simp⟩
  · obtain rfl : v = .slice (some a) len cap := by simpa using hcs
    have hp : x.2 = _ := congrArg Prod.snd hx
    have hdd : x.1 = _ := congrArg Prod.fst hx
    rw [hp, Tryd.cellsLnk] at hlt
    rw [Tryd.cellsLnk] at hel
    clear hx hp
    simp only [if_true] at hmm
    subst hmm
    have hlen : len * 24 ≤ reachBytes := by
      have := hs ((((List.range len).map D).length + ((List.range (m - len)).map fun j => D (len + j)).length) * Tryd.prog.bytesOf 53) (by rw [hdd]; simp only [DataW.weights, Tryd.underlying25]; exact List.mem_cons_self)
      rw [Tryd.bytesLnk] at this
      simp only [List.length_map, List.length_range] at this
      omega
    have each : ∀ i, i < len → ∃ p : Lnk, (W.cell? (a.add (i * 2)) = some (.int .i64 p.1) ∧ W.cell? (a.add (i * 2 + 1)) = some (.string ⟨p.2.toArray⟩)) ∧ p.2.length ≤ 140737488355328 := by
      intro i hi
      obtain ⟨cs', h1, h2⟩ := hel i (by omega)
      obtain ⟨_, hlen', hcell⟩ := World.cells?_some h1
      obtain ⟨xs, k, _, hxy, _, hxl, hall⟩ := DataW.trod_struct Tryd.underlying53 h2
      match xs, hxl, cs', hlen' with
      | [x0, x1], _, [c0, c1], _ =>
        obtain ⟨a0, e0, y0, _⟩ := intF (v := c0) (x := x0) Tryd.underlying3 (by simpa using hall 0 _ rfl) (by show List.take (Tryd.prog.cellsOf 3) _ = _; rw [Tryd.cellsI]; rfl)
        obtain ⟨r, e1, y1⟩ := strF (v := c1) (x := x1) Tryd.underlying9 (by simpa using hall 1 _ rfl) (by show List.take (Tryd.prog.cellsOf 9) _ = _; rw [Tryd.cellsS]; rfl)
        subst e0 e1
        have g0 := hcell 0 (by omega)
        have g1 := hcell 1 (by omega)
        rw [Go.Deep.add_add] at g0 g1
        have hD : D i = .agg [x0.1, x1.1] := congrArg Prod.fst hxy
        have hr : r.length ≤ reachBytes := hs r.length (by
          rw [hdd]; simp only [DataW.weights, Tryd.underlying25]
          refine List.mem_cons_of_mem _ (List.mem_append_left _ (all_mem (d := D i) (List.mem_map.2 ⟨i, List.mem_range.2 hi, rfl⟩) ?_))
          rw [hD]; simp only [DataW.weights, Tryd.underlying53]
          exact DataW.weights_mem_each (j := 1) (t := 9) (d := x1.1) rfl rfl _ (by rw [y1]; simp [DataW.weights]))
        exact ⟨(a0, r), ⟨by simpa using g0, by simpa using g1⟩, by unfold reachBytes at hr; show r.length ≤ _; omega⟩
    obtain ⟨ls, hpl, hps⟩ := listOf len each
    refine ⟨ls, ⟨some a, m, by rw [hpl], ?_⟩, fun p hp => ?_, by rw [hpl]; unfold reachBytes at hlen; omega⟩
    · by_cases h0 : len = 0
      · left; exact List.length_eq_zero_iff.1 (by omega)
      · right
        obtain ⟨b, off, spot⟩ := a
        obtain ⟨p0, ⟨hc0, _⟩, _⟩ := each 0 (by omega)
        have hspot : spot = none := by simpa [Addr.add] using World.cell?_spot hc0
        subst hspot
        have hbW : b < W.heap.size := hlt (.cell b off) (List.mem_append_left _ (MemPlace.mem_row.2 ⟨0, by omega, by simp⟩))
        refine ⟨b, off, rfl, hbW, fun j p hj => ?_⟩
        obtain ⟨⟨g0, g1⟩, _⟩ := hps j p hj
        rw [add_plain] at g0 g1
        exact ⟨g0, g1⟩
    · obtain ⟨j, hj⟩ := List.getElem?_of_mem hp
      exact (hps j p hj).2
set_option maxRecDepth 100000 in
set_option maxHeartbeats 2000000 in
theorem open_notice {H : Type} {enc : TypeId × Value → H} {W : World} {r : Reach} {bb : Nat} {v : Value} {d : DataW H} {p : List MemPlace}
    (hv : Value.okWide Tryd.prog W r bb 27 v) (h : DataW.Trod enc Tryd.prog W 0 (fun _ => true) true 27 v d p) (hlt : ∀ x ∈ p, x.block < W.heap.size)
    (hs : ∀ n ∈ d.weights Tryd.prog 27, n ≤ reachBytes) :
    ∃ (n : Ntc) (lv : Value) (ls : List Lnk), v = .agg (nC n lv) ∧ NOk n ∧ RL W lv ls ∧ LOk ls ∧ ls.length ≤ 5864062014805 ∧ n.qty ≤ 9223372036854775807 ∧ n.amt ≤ 9223372036854775807 := by
  obtain ⟨cs, rfl, hsz⟩ := okWide_struct Tryd.underlying27 hv
  rw [Tryd.cellsNtc] at hsz
  obtain ⟨l⟩ := cs
  clear hv
  match l, hsz with
  | [c0, c1, c2, c3, c4, c5, c6, c7, c8, c9, c10, c11, c12, c13, c14, c15, c16, c17, c18, c19, c20, c21, c22, c23, c24, c25, c26], _ =>
    obtain ⟨fuel, hf⟩ := h
    obtain ⟨xs, k, _, hx, _, hlen, hall⟩ := DataW.trod_struct Tryd.underlying27 hf
    clear hf
    match xs, hlen with
    | [x0, x1, x2, x3, x4, x5, x6, x7, x8, x9, x10, x11, x12, x13, x14, x15], _ =>
      have hd : d = .agg [x0.1, x1.1, x2.1, x3.1, x4.1, x5.1, x6.1, x7.1, x8.1, x9.1, x10.1, x11.1, x12.1, x13.1, x14.1, x15.1] := congrArg Prod.fst hx
      have hp : p = _ := congrArg Prod.snd hx
      have mem_last : ∀ {y : MemPlace}, y ∈ x15.2 → y ∈ List.flatMap (fun z : DataW H × List MemPlace => z.2) [x0, x1, x2, x3, x4, x5, x6, x7, x8, x9, x10, x11, x12, x13, x14, x15] := fun hy => List.mem_flatMap.2 ⟨x15, by simp, hy⟩
      obtain ⟨ref, e0, y0⟩ := strF (v := c0) (x := x0) Tryd.underlying9 (by simpa using hall 0 _ rfl) (by show List.take (Tryd.prog.cellsOf 9) _ = _; rw [Tryd.cellsS]; rfl)
      obtain ⟨prev, e1, y1⟩ := strF (v := c1) (x := x1) Tryd.underlying9 (by simpa using hall 1 _ rfl) (by show List.take (Tryd.prog.cellsOf 9) _ = _; rw [Tryd.cellsS]; rfl)
      obtain ⟨cn, e2⟩ := boolF (v := c2) (x := x2) Tryd.underlying4 (by simpa using hall 2 _ rfl) (by show List.take (Tryd.prog.cellsOf 4) _ = _; rw [Tryd.cellsBo]; rfl)
      obtain ⟨rc, e3⟩ := boolF (v := c3) (x := x3) Tryd.underlying4 (by simpa using hall 3 _ rfl) (by show List.take (Tryd.prog.cellsOf 4) _ = _; rw [Tryd.cellsBo]; rfl)
      obtain ⟨py, e4⟩ := boolF (v := c4) (x := x4) Tryd.underlying4 (by simpa using hall 4 _ rfl) (by show List.take (Tryd.prog.cellsOf 4) _ = _; rw [Tryd.cellsBo]; rfl)
      obtain ⟨tr, e5, _, _⟩ := intF (v := c5) (x := x5) Tryd.underlying3 (by simpa using hall 5 _ rfl) (by show List.take (Tryd.prog.cellsOf 3) _ = _; rw [Tryd.cellsI]; rfl)
      obtain ⟨st, e6, _, _⟩ := intF (v := c6) (x := x6) Tryd.underlying3 (by simpa using hall 6 _ rfl) (by show List.take (Tryd.prog.cellsOf 3) _ = _; rw [Tryd.cellsI]; rfl)
      obtain ⟨code, hcl, hce⟩ := codeF (cs := [c7, c8, c9, c10, c11, c12, c13, c14, c15, c16, c17, c18]) (x := x7) (by
        have this : DataW.trod enc Tryd.prog W 0 (fun _ => true) true k 24 (List.take (Tryd.prog.cellsOf 24) [c7, c8, c9, c10, c11, c12, c13, c14, c15, c16, c17, c18, c19, c20, c21, c22, c23, c24, c25, c26]) = some x7 := hall 7 _ rfl
        rw [Tryd.cellsIs] at this
        exact this) rfl
      obtain ⟨qty, e8, _, wq⟩ := intF (v := c19) (x := x8) Tryd.underlying2 (by simpa using hall 8 _ rfl) (by show List.take (Tryd.prog.cellsOf 2) _ = _; rw [Tryd.cellsI6]; rfl)
      obtain ⟨acc, e9, y9⟩ := strF (v := c20) (x := x9) Tryd.underlying9 (by simpa using hall 9 _ rfl) (by show List.take (Tryd.prog.cellsOf 9) _ = _; rw [Tryd.cellsS]; rfl)
      obtain ⟨agt, e10, y10⟩ := strF (v := c21) (x := x10) Tryd.underlying9 (by simpa using hall 10 _ rfl) (by show List.take (Tryd.prog.cellsOf 9) _ = _; rw [Tryd.cellsS]; rfl)
      obtain ⟨oth, e11, y11⟩ := strF (v := c22) (x := x11) Tryd.underlying9 (by simpa using hall 11 _ rfl) (by show List.take (Tryd.prog.cellsOf 9) _ = _; rw [Tryd.cellsS]; rfl)
      obtain ⟨amt, e12, _, wa⟩ := intF (v := c23) (x := x12) Tryd.underlying2 (by simpa using hall 12 _ rfl) (by show List.take (Tryd.prog.cellsOf 2) _ = _; rw [Tryd.cellsI6]; rfl)
      obtain ⟨cur, e13, y13⟩ := strF (v := c24) (x := x13) Tryd.underlying9 (by simpa using hall 13 _ rfl) (by show List.take (Tryd.prog.cellsOf 9) _ = _; rw [Tryd.cellsS]; rfl)
      obtain ⟨pri, e14, _, _⟩ := intF (v := c25) (x := x14) Tryd.underlying3 (by simpa using hall 14 _ rfl) (by show List.take (Tryd.prog.cellsOf 3) _ = _; rw [Tryd.cellsI]; rfl)
      obtain ⟨ls, hrl, hlo, hll⟩ := open_links (x := x15) (v := c26) (by
        have this : DataW.trod enc Tryd.prog W 0 (fun _ => true) true k 25 (List.take (Tryd.prog.cellsOf 25) [c26]) = some x15 := hall 15 _ rfl
        rw [Tryd.cellsSl] at this
        exact this) (fun y hy => hlt y (by rw [hp]; exact mem_last hy)) (fun m hm => hs m (by
          rw [hd]; simp only [DataW.weights, Tryd.underlying27]
          exact DataW.weights_mem_each (j := 15) (t := 25) (d := x15.1) rfl rfl m hm))
      have b0 : ref.length ≤ 140737488355328 := by
        have := hs ref.length (by
          rw [hd]; simp only [DataW.weights, Tryd.underlying27]
          exact DataW.weights_mem_each (j := 0) (t := 9) (d := x0.1) rfl rfl _ (by rw [y0]; simp [DataW.weights]))
        unfold reachBytes at this; omega
      have b1 : prev.length ≤ 140737488355328 := by
        have := hs prev.length (by
          rw [hd]; simp only [DataW.weights, Tryd.underlying27]
          exact DataW.weights_mem_each (j := 1) (t := 9) (d := x1.1) rfl rfl _ (by rw [y1]; simp [DataW.weights]))
        unfold reachBytes at this; omega
      have b9 : acc.length ≤ 140737488355328 := by
        have := hs acc.length (by
          rw [hd]; simp only [DataW.weights, Tryd.underlying27]
          exact DataW.weights_mem_each (j := 9) (t := 9) (d := x9.1) rfl rfl _ (by rw [y9]; simp [DataW.weights]))
        unfold reachBytes at this; omega
      have b10 : agt.length ≤ 140737488355328 := by
        have := hs agt.length (by
          rw [hd]; simp only [DataW.weights, Tryd.underlying27]
          exact DataW.weights_mem_each (j := 10) (t := 9) (d := x10.1) rfl rfl _ (by rw [y10]; simp [DataW.weights]))
        unfold reachBytes at this; omega
      have b11 : oth.length ≤ 140737488355328 := by
        have := hs oth.length (by
          rw [hd]; simp only [DataW.weights, Tryd.underlying27]
          exact DataW.weights_mem_each (j := 11) (t := 9) (d := x11.1) rfl rfl _ (by rw [y11]; simp [DataW.weights]))
        unfold reachBytes at this; omega
      have b13 : cur.length ≤ 140737488355328 := by
        have := hs cur.length (by
          rw [hd]; simp only [DataW.weights, Tryd.underlying27]
          exact DataW.weights_mem_each (j := 13) (t := 9) (d := x13.1) rfl rfl _ (by rw [y13]; simp [DataW.weights]))
        unfold reachBytes at this; omega
      subst e0 e1 e2 e3 e4 e5 e6 e8 e9 e10 e11 e12 e13 e14
      refine ⟨⟨ref, prev, cn, rc, py, tr, st, code, qty, acc, agt, oth, amt, cur, pri⟩, c26, ls, ?_, ⟨hcl, b0, b1, b9, b10, b11, b13⟩, hrl, hlo, hll, (bounds_i64 wq).2, (bounds_i64 wa).2⟩
      unfold nC
      rw [← hce]; rfl
end Go.Proofs.YtcdhblfefpkjgaaDoor.NT
namespace Go.Proofs.YtcdhblfefpkjgaaDoor.NT
open Go.ChangeShapes Go.WideShapes Go.ChangeAt Go.RowKit LC

set_option maxRecDepth 100000 in
set_option maxHeartbeats 2000000 in
theorem open_noticeR {H : Type} {enc : TypeId × Value → H} {W : World} {kk : Nat} {cs : List Value} {x : DataW H × List MemPlace}
    (hf : DataW.trod enc Tryd.prog W 0 (fun _ => true) true kk 27 cs = some x) (hsz : cs.length = 27) (hlt : ∀ y ∈ x.2, y.block < W.heap.size)
    (hs : ∀ n ∈ x.1.weights Tryd.prog 27, n ≤ reachBytes) :
    ∃ (n : Ntc) (lv : Value) (ls : List Lnk), cs = (nC n lv).toList ∧ NOk n ∧ RL W lv ls ∧ ls.length ≤ 5864062014805 ∧ LOk ls := by
  match cs, hsz with
  | [c0, c1, c2, c3, c4, c5, c6, c7, c8, c9, c10, c11, c12, c13, c14, c15, c16, c17, c18, c19, c20, c21, c22, c23, c24, c25, c26], _ =>
    obtain ⟨xs, k, _, hx, _, hlen, hall⟩ := DataW.trod_struct Tryd.underlying27 hf
    clear hf
    match xs, hlen with
    | [x0, x1, x2, x3, x4, x5, x6, x7, x8, x9, x10, x11, x12, x13, x14, x15], _ =>
      have hd : x.1 = .agg [x0.1, x1.1, x2.1, x3.1, x4.1, x5.1, x6.1, x7.1, x8.1, x9.1, x10.1, x11.1, x12.1, x13.1, x14.1, x15.1] := congrArg Prod.fst hx
      have hp : x.2 = _ := congrArg Prod.snd hx
      have mem_last : ∀ {y : MemPlace}, y ∈ x15.2 → y ∈ List.flatMap (fun z : DataW H × List MemPlace => z.2) [x0, x1, x2, x3, x4, x5, x6, x7, x8, x9, x10, x11, x12, x13, x14, x15] := fun hy => List.mem_flatMap.2 ⟨x15, by simp, hy⟩
      obtain ⟨ref, e0, y0⟩ := strF (v := c0) (x := x0) Tryd.underlying9 (by simpa using hall 0 _ rfl) (by show List.take (Tryd.prog.cellsOf 9) _ = _; rw [Tryd.cellsS]; rfl)
      obtain ⟨prev, e1, y1⟩ := strF (v := c1) (x := x1) Tryd.underlying9 (by simpa using hall 1 _ rfl) (by show List.take (Tryd.prog.cellsOf 9) _ = _; rw [Tryd.cellsS]; rfl)
      obtain ⟨cn, e2⟩ := boolF (v := c2) (x := x2) Tryd.underlying4 (by simpa using hall 2 _ rfl) (by show List.take (Tryd.prog.cellsOf 4) _ = _; rw [Tryd.cellsBo]; rfl)
      obtain ⟨rc, e3⟩ := boolF (v := c3) (x := x3) Tryd.underlying4 (by simpa using hall 3 _ rfl) (by show List.take (Tryd.prog.cellsOf 4) _ = _; rw [Tryd.cellsBo]; rfl)
      obtain ⟨py, e4⟩ := boolF (v := c4) (x := x4) Tryd.underlying4 (by simpa using hall 4 _ rfl) (by show List.take (Tryd.prog.cellsOf 4) _ = _; rw [Tryd.cellsBo]; rfl)
      obtain ⟨tr, e5, _, _⟩ := intF (v := c5) (x := x5) Tryd.underlying3 (by simpa using hall 5 _ rfl) (by show List.take (Tryd.prog.cellsOf 3) _ = _; rw [Tryd.cellsI]; rfl)
      obtain ⟨st, e6, _, _⟩ := intF (v := c6) (x := x6) Tryd.underlying3 (by simpa using hall 6 _ rfl) (by show List.take (Tryd.prog.cellsOf 3) _ = _; rw [Tryd.cellsI]; rfl)
      obtain ⟨code, hcl, hce⟩ := codeF (cs := [c7, c8, c9, c10, c11, c12, c13, c14, c15, c16, c17, c18]) (x := x7) (by
        have this : DataW.trod enc Tryd.prog W 0 (fun _ => true) true k 24 (List.take (Tryd.prog.cellsOf 24) [c7, c8, c9, c10, c11, c12, c13, c14, c15, c16, c17, c18, c19, c20, c21, c22, c23, c24, c25, c26]) = some x7 := hall 7 _ rfl
        rw [Tryd.cellsIs] at this
        exact this) rfl
      obtain ⟨qty, e8, _, _⟩ := intF (v := c19) (x := x8) Tryd.underlying2 (by simpa using hall 8 _ rfl) (by show List.take (Tryd.prog.cellsOf 2) _ = _; rw [Tryd.cellsI6]; rfl)
      obtain ⟨acc, e9, y9⟩ := strF (v := c20) (x := x9) Tryd.underlying9 (by simpa using hall 9 _ rfl) (by show List.take (Tryd.prog.cellsOf 9) _ = _; rw [Tryd.cellsS]; rfl)
      obtain ⟨agt, e10, y10⟩ := strF (v := c21) (x := x10) Tryd.underlying9 (by simpa using hall 10 _ rfl) (by show List.take (Tryd.prog.cellsOf 9) _ = _; rw [Tryd.cellsS]; rfl)
      obtain ⟨oth, e11, y11⟩ := strF (v := c22) (x := x11) Tryd.underlying9 (by simpa using hall 11 _ rfl) (by show List.take (Tryd.prog.cellsOf 9) _ = _; rw [Tryd.cellsS]; rfl)
      obtain ⟨amt, e12, _, _⟩ := intF (v := c23) (x := x12) Tryd.underlying2 (by simpa using hall 12 _ rfl) (by show List.take (Tryd.prog.cellsOf 2) _ = _; rw [Tryd.cellsI6]; rfl)
      obtain ⟨cur, e13, y13⟩ := strF (v := c24) (x := x13) Tryd.underlying9 (by simpa using hall 13 _ rfl) (by show List.take (Tryd.prog.cellsOf 9) _ = _; rw [Tryd.cellsS]; rfl)
      obtain ⟨pri, e14, _, _⟩ := intF (v := c25) (x := x14) Tryd.underlying3 (by simpa using hall 14 _ rfl) (by show List.take (Tryd.prog.cellsOf 3) _ = _; rw [Tryd.cellsI]; rfl)
      obtain ⟨ls, hrl, hlo, hll⟩ := open_links (x := x15) (v := c26) (by
        have this : DataW.trod enc Tryd.prog W 0 (fun _ => true) true k 25 (List.take (Tryd.prog.cellsOf 25) [c26]) = some x15 := hall 15 _ rfl
        rw [Tryd.cellsSl] at this
        exact this) (fun y hy => hlt y (by rw [hp]; exact mem_last hy)) (fun m hm => hs m (by
          rw [hd]; simp only [DataW.weights, Tryd.underlying27]
          exact DataW.weights_mem_each (j := 15) (t := 25) (d := x15.1) rfl rfl m hm))
      have b0 : ref.length ≤ 140737488355328 := by
        have := hs ref.length (by
          rw [hd]; simp only [DataW.weights, Tryd.underlying27]
          exact DataW.weights_mem_each (j := 0) (t := 9) (d := x0.1) rfl rfl _ (by rw [y0]; simp [DataW.weights]))
        unfold reachBytes at this; omega
      have b1 : prev.length ≤ 140737488355328 := by
        have := hs prev.length (by
          rw [hd]; simp only [DataW.weights, Tryd.underlying27]
          exact DataW.weights_mem_each (j := 1) (t := 9) (d := x1.1) rfl rfl _ (by rw [y1]; simp [DataW.weights]))
        unfold reachBytes at this; omega
      have b9 : acc.length ≤ 140737488355328 := by
        have := hs acc.length (by
          rw [hd]; simp only [DataW.weights, Tryd.underlying27]
          exact DataW.weights_mem_each (j := 9) (t := 9) (d := x9.1) rfl rfl _ (by rw [y9]; simp [DataW.weights]))
        unfold reachBytes at this; omega
      have b10 : agt.length ≤ 140737488355328 := by
        have := hs agt.length (by
          rw [hd]; simp only [DataW.weights, Tryd.underlying27]
          exact DataW.weights_mem_each (j := 10) (t := 9) (d := x10.1) rfl rfl _ (by rw [y10]; simp [DataW.weights]))
        unfold reachBytes at this; omega
      have b11 : oth.length ≤ 140737488355328 := by
        have := hs oth.length (by
          rw [hd]; simp only [DataW.weights, Tryd.underlying27]
          exact DataW.weights_mem_each (j := 11) (t := 9) (d := x11.1) rfl rfl _ (by rw [y11]; simp [DataW.weights]))
        unfold reachBytes at this; omega
      have b13 : cur.length ≤ 140737488355328 := by
        have := hs cur.length (by
          rw [hd]; simp only [DataW.weights, Tryd.underlying27]
          exact DataW.weights_mem_each (j := 13) (t := 9) (d := x13.1) rfl rfl _ (by rw [y13]; simp [DataW.weights]))
        unfold reachBytes at this; omega
      subst e0 e1 e2 e3 e4 e5 e6 e8 e9 e10 e11 e12 e13 e14
      refine ⟨⟨ref, prev, cn, rc, py, tr, st, code, qty, acc, agt, oth, amt, cur, pri⟩, c26, ls, ?_, ⟨hcl, b0, b1, b9, b10, b11, b13⟩, hrl, hll, hlo⟩
      unfold nC
      rw [← hce]; rfl
theorem Tryd.bytesNtcR : Tryd.prog.bytesOf 27 = 184 := by kernel_rfl
set_option maxRecDepth 100000 in
set_option maxHeartbeats 2000000 in
theorem open_rowN {H : Type} {enc : TypeId × Value → H} {W : World} {v : Value} {d : DataW H} {p : List MemPlace}
    (hok : ∃ a len cap, v = .slice a len cap) (h : DataW.Trod enc Tryd.prog W 0 (fun _ => true) true 22 v d p) (hlt : ∀ x ∈ p, x.block < W.heap.size)
    (hs : ∀ m ∈ d.weights Tryd.prog 22, m ≤ reachBytes) :
    ∃ NS : List Nt, RN W v NS ∧ (∀ q ∈ NS, NOk q.1) ∧ (∀ q ∈ NS, q.2.2.length ≤ 5864062014805) ∧ (∀ q ∈ NS, LOk q.2.2) ∧ NS.length ≤ 5864062014805 := by
  obtain ⟨a0, len, cap, rfl⟩ := hok
  obtain ⟨fuel, hf⟩ := h
  rcases Go.Deep.open_slice Tryd.underlying22 hf with ⟨hcs, hx⟩ | ⟨a, len', cap', m, n', D, Pl, hcs, hb, hl, hm, hmm, hx, hel⟩
  · simp [Value.cells] at hcs
    obtain ⟨rfl, rfl, rfl⟩ := hcs
    exact ⟨[], ⟨none, 0, rfl, .inl rfl⟩, (fun q hq => by cases hq), (fun q hq => by cases hq), (fun q hq => by cases hq), by simp⟩
  · simp [Value.cells] at hcs
    obtain ⟨rfl, rfl, rfl⟩ := hcs
    have hp : p = _ := (Prod.mk.inj hx).2
    have hdd : d = _ := (Prod.mk.inj hx).1
    rw [hp, Tryd.cellsNtc] at hlt
    rw [Tryd.cellsNtc] at hel
    simp only [if_true] at hmm
    subst hmm
    have hlen : len * 184 ≤ reachBytes := by
      have := hs ((((List.range len).map D).length + ((List.range (m - len)).map fun j => D (len + j)).length) * Tryd.prog.bytesOf 27) (by rw [hdd]; simp only [DataW.weights, Tryd.underlying22]; exact List.mem_cons_self)
      rw [Tryd.bytesNtcR] at this
      simp only [List.length_map, List.length_range] at this
      omega
    clear hx hp hf
    have each : ∀ i, i < len → ∃ q : Nt, (∀ j u, (nC q.1 q.2.1).toList[j]? = some u → W.cell? ((a.add (i * 27)).add j) = some u) ∧ NOk q.1 ∧ RL W q.2.1 q.2.2 ∧ q.2.2.length ≤ 5864062014805 ∧ LOk q.2.2 := by
      intro i hi
      obtain ⟨cs', h1, h2⟩ := hel i (by omega)
      obtain ⟨_, hlen', hcell⟩ := World.cells?_some h1
      obtain ⟨n, lv, ls, hc, hn, hr, hll, hlo⟩ := open_noticeR (x := (D i, Pl i)) h2 hlen' (fun y hy => hlt y (List.mem_append_right _ (List.mem_flatMap.2 ⟨i, List.mem_range.2 (by omega), hy⟩))) (fun k hk => hs k (by
        rw [hdd]; simp only [DataW.weights, Tryd.underlying22]
        exact List.mem_cons_of_mem _ (List.mem_append_left _ (all_mem (d := D i) (List.mem_map.2 ⟨i, List.mem_range.2 hi, rfl⟩) hk))))
      refine ⟨(n, lv, ls), fun j u hj => ?_, hn, hr, hll, hlo⟩
      have hj' : cs'[j]? = some u := by rw [hc]; exact hj
      have g := hcell j (by have := (List.getElem?_eq_some_iff.1 hj').1; omega)
      rw [hj'] at g
      exact g
    obtain ⟨NS, hL, hQ⟩ := listOf len each
    refine ⟨NS, ⟨some a, m, by rw [hL], ?_⟩, fun q hq => ?_, fun q hq => ?_, fun q hq => ?_, by rw [hL]; unfold reachBytes at hlen; omega⟩
    · by_cases h0 : len = 0
      · exact .inl (List.eq_nil_of_length_eq_zero (by omega))
      · obtain ⟨b, off, spot⟩ := a
        obtain ⟨q0, hc0, hn0, _⟩ := each 0 (by omega)
        have hc1 := hc0 0 _ (nC_at hn0.code).1
        have hspot : spot = none := by simpa [Addr.add] using World.cell?_spot hc1
        subst hspot
        have hbW : b < W.heap.size := hlt (.cell b off) (List.mem_append_left _ (MemPlace.mem_row.2 ⟨0, by omega, by simp⟩))
        refine .inr ⟨b, off, rfl, hbW, fun j q hj => ⟨fun k u hk => ?_, (hQ j q hj).2.2.1⟩⟩
        have g := (hQ j q hj).1 k u hk
        rw [add_plain, add_plain] at g
        exact g
    · obtain ⟨j, hj⟩ := List.getElem?_of_mem hq; exact (hQ j q hj).2.1
    · obtain ⟨j, hj⟩ := List.getElem?_of_mem hq; exact (hQ j q hj).2.2.2.1
    · obtain ⟨j, hj⟩ := List.getElem?_of_mem hq; exact (hQ j q hj).2.2.2.2
end Go.Proofs.YtcdhblfefpkjgaaDoor.NT
