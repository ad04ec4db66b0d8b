/-
  My own text: VS1, VS2 in one.
-/
import Derived.Test.YtdjhbecbbmdimaaGreatDoorVK3
import Derived.Test.YtdjhbecbbmdimaaGreatDoorB4
import Derived.Deep.CutRange
import Derived.Lib.SliceRun
namespace Go.Proofs.YtdjhbecbbmdimaaGreatDoor
open Go.RowKit Go.Sort Go.Lib

/-- A cell: a position and a record, with the rows in which their lists lie. -/
structure Cl where
  av : Int
  ml : List BL.Mk
  mv : Value
  st : Int
  ll : List LG.El
  lv : Value
structure En where
  k : Ky
  was : Cl
  now : Cl
def En.vs (e : En) : List Value := [.int .i64 e.k.1, .int .i64 e.k.2, .int .i64 e.was.av, e.was.mv, .int .i64 e.was.st, e.was.lv, .int .i64 e.now.av, e.now.mv, .int .i64 e.now.st, e.now.lv]
def ec : List En → List Value
  | [] => []
  | e :: t => e.vs ++ ec t
theorem ec_len : ∀ (E : List En), (ec E).length = E.length * 10
  | [] => rfl
  | e :: t => by
    show (e.vs ++ ec t).length = _
    rw [List.length_append, ec_len t, List.length_cons]
    show 10 + _ = _
    omega
theorem ec_app : ∀ (E F : List En), ec (E ++ F) = ec E ++ ec F
  | [], F => rfl
  | e :: t, F => by
    show e.vs ++ ec (t ++ F) = (e.vs ++ ec t) ++ ec F
    rw [ec_app t F, List.append_assoc]
theorem ec_at : ∀ {E : List En} {j i : Nat} {e : En}, E[j]? = some e → i < 10 → (ec E)[j * 10 + i]? = e.vs[i]?
  | a :: t, 0, i, e, h, hi => by
    simp at h
    subst h
    show (a.vs ++ ec t)[0 * 10 + i]? = _
    rw [Nat.zero_mul, Nat.zero_add, List.getElem?_append_left (show i < 10 from hi)]
  | a :: t, j + 1, i, e, h, hi => by
    have h' : t[j]? = some e := by simpa using h
    show (a.vs ++ ec t)[(j + 1) * 10 + i]? = _
    rw [List.getElem?_append_right (by show 10 ≤ _; omega)]
    show (ec t)[(j + 1) * 10 + i - 10]? = _
    rw [show (j + 1) * 10 + i - 10 = j * 10 + i by omega]
    exact ec_at h' hi
theorem ec_flat : ∀ (E : List En), ec E = (E.map En.vs).flatten
  | [] => rfl
  | e :: t => by
    show e.vs ++ ec t = _
    rw [ec_flat t]
    rfl
theorem cat_set : ∀ (C : List (List Value)) (i j : Nat) (c : List Value) (u : Value), (∀ c ∈ C, c.length = 10) → C[i]? = some c → j < 10 → C.flatten.set (i * 10 + j) u = (C.set i (c.set j u)).flatten
  | a :: t, 0, j, c, u, hl, h, hj => by
    simp at h
    subst h
    show (a ++ t.flatten).set (0 * 10 + j) u = (a.set j u) ++ t.flatten
    rw [Nat.zero_mul, Nat.zero_add, List.set_append_left _ _ (by rw [hl a (by simp)]; exact hj)]
  | a :: t, i + 1, j, c, u, hl, h, hj => by
    have h' : t[i]? = some c := by simpa using h
    have ih := cat_set t i j c u (fun c hc => hl c (List.mem_cons_of_mem _ hc)) h' hj
    show (a ++ t.flatten).set ((i + 1) * 10 + j) u = a ++ (t.set i (c.set j u)).flatten
    have ha := hl a (by simp)
    rw [List.set_append_right _ _ (by rw [ha]; omega), ha, show (i + 1) * 10 + j - 10 = i * 10 + j by omega, ih]
theorem vs_len {E : List En} : ∀ c ∈ E.map En.vs, c.length = 10 := fun c hc => by
  obtain ⟨e, _, rfl⟩ := List.mem_map.1 hc
  rfl
def CR (w : World) (c : Cl) : Prop := BL.RM w c.mv c.ml ∧ LG.RM w c.lv c.ll ∧ ∀ b, c.mv.ownBlock = some b ∨ c.lv.ownBlock = some b → b < w.heap.size
theorem CR.later {w w' : World} {c : Cl} (h : CR w c) (hb : Below w.heap.size w w') : CR w' c := ⟨BL.RM.later h.1 hb, h.2.1.later hb, fun b k => Nat.lt_of_lt_of_le (h.2.2 b k) hb.size⟩
def EO (w : World) (e : En) : Prop := CR w e.was ∧ CR w e.now
theorem EO.later {w w' : World} {e : En} (h : EO w e) (hb : Below w.heap.size w w') : EO w' e := ⟨h.1.later hb, h.2.later hb⟩
/-- The lists of a cell lie elsewhere. -/
def CA (v : Value) (c : Cl) : Prop := ∀ b, v.ownBlock = some b → c.mv.ownBlock ≠ some b ∧ c.lv.ownBlock ≠ some b
/-- A sheet of one's own. -/
structure SH (w : World) (B : Nat) (v : Value) (E : List En) : Prop where
  own : w.ownsRow B 103 10 v E.length (ec E)
  ent : ∀ e ∈ E, EO w e
  ap : ∀ e ∈ E, CA v e.was ∧ CA v e.now
theorem SH.later {w w' : World} {B : Nat} {v : Value} {E : List En} (h : SH w B v E) (hb : Below w.heap.size w w') : SH w' B v E := ⟨owns_lat h.own hb, fun e he => (h.ent e he).later hb, h.ap⟩
theorem SH.slice {w : World} {B : Nat} {v : Value} {E : List En} (h : SH w B v E) : ∃ a cap, v = .slice a E.length cap := by
  rcases h.own.2 with ⟨rfl, h0⟩ | ⟨g, cap, cur, rfl, _⟩
  · exact ⟨none, 0, by rw [h0]⟩
  · exact ⟨_, cap, rfl⟩
theorem SH.form {w : World} {B : Nat} {v : Value} {E : List En} (h : SH w B v E) (h0 : 0 < E.length) : ∃ g cap, v = .slice (some ⟨g, 0, none⟩) E.length cap ∧ B ≤ g ∧ g < w.heap.size ∧ E.length ≤ cap := by
  rcases h.own.2 with ⟨_, hn⟩ | ⟨g, cap, cur, rfl, hg, hh, hn, _⟩
  · omega
  · exact ⟨g, cap, rfl, hg, (Array.getElem?_eq_some_iff.1 hh).1, hn⟩
theorem SH.cells {w : World} {B g n cap : Nat} {E : List En} {j : Nat} {e : En} (h : SH w B (.slice (some ⟨g, 0, none⟩) n cap) E) (hj : E[j]? = some e) : w.cell? ⟨g, j * 10, none⟩ = some (.int .i64 e.k.1) ∧ w.cell? ⟨g, j * 10 + 1, none⟩ = some (.int .i64 e.k.2) ∧ w.cell? ⟨g, j * 10 + 2, none⟩ = some (.int .i64 e.was.av) ∧ w.cell? ⟨g, j * 10 + 3, none⟩ = some (e.was.mv) ∧ w.cell? ⟨g, j * 10 + 4, none⟩ = some (.int .i64 e.was.st) ∧ w.cell? ⟨g, j * 10 + 5, none⟩ = some (e.was.lv) ∧ w.cell? ⟨g, j * 10 + 6, none⟩ = some (.int .i64 e.now.av) ∧ w.cell? ⟨g, j * 10 + 7, none⟩ = some (e.now.mv) ∧ w.cell? ⟨g, j * 10 + 8, none⟩ = some (.int .i64 e.now.st) ∧ w.cell? ⟨g, j * 10 + 9, none⟩ = some (e.now.lv) := by
  have hl : E.length = n := by
    rcases h.own.2 with ⟨hv, _⟩ | ⟨g', cap', cur, hv, _⟩
    · cases hv
    · injection hv with e1 e2 e3
      exact e2.symm
  subst hl
  have hjl := (List.getElem?_eq_some_iff.1 hj).1
  have hc : ∀ i, i < 10 → w.cell? ⟨g, j * 10 + i, none⟩ = e.vs[i]? := fun i hi => (World.ownsRow.cellAt h.own (j * 10 + i) (by omega)).trans (ec_at hj hi)
  exact ⟨hc 0 (by decide), hc 1 (by decide), hc 2 (by decide), hc 3 (by decide), hc 4 (by decide), hc 5 (by decide), hc 6 (by decide), hc 7 (by decide), hc 8 (by decide), hc 9 (by decide)⟩
theorem SH.froz {w : World} {B g n cap : Nat} {E : List En} (h : SH w B (.slice (some ⟨g, 0, none⟩) n cap) E) (j : Nat) : w.frozen? ⟨g, j, none⟩ = false := by
  have hl : E.length = n := by
    rcases h.own.2 with ⟨hv, _⟩ | ⟨g', cap', cur, hv, _⟩
    · cases hv
    · injection hv with e1 e2 e3
      exact e2.symm
  subst hl
  exact World.ownsRow.frozenAt h.own j
theorem rmM_kept {w w' : World} {v : Value} {L : List BL.Mk} (h : BL.RM w v L) (hs : w.heap.size ≤ w'.heap.size) (hb : ∀ b, v.ownBlock = some b → b < w.heap.size → w'.heap[b]? = w.heap[b]?) : BL.RM w' v L := by
  obtain ⟨a, cap, hv, hc, h2⟩ := h
  refine ⟨a, cap, hv, hc, ?_⟩
  rcases h2 with h2 | ⟨b, off, ha, hlt, hcs⟩
  · exact .inl h2
  · refine .inr ⟨b, off, ha, Nat.lt_of_lt_of_le hlt hs, fun j p hj => ?_⟩
    have e := hb b (by rw [hv, ha]; rfl) hlt
    obtain ⟨c0, c1⟩ := hcs j p hj
    exact ⟨(World.cell?_of_block e).trans c0, (World.cell?_of_block e).trans c1⟩
theorem rmL_kept {w w' : World} {v : Value} {L : List LG.El} (h : LG.RM w v L) (hs : w.heap.size ≤ w'.heap.size) (hb : ∀ b, v.ownBlock = some b → b < w.heap.size → w'.heap[b]? = w.heap[b]?) : LG.RM w' v L := by
  obtain ⟨a, cap, hv, hc, h2⟩ := h
  refine ⟨a, cap, hv, hc, ?_⟩
  rcases h2 with h2 | ⟨b, off, ha, hlt, hcs⟩
  · exact .inl h2
  · refine .inr ⟨b, off, ha, Nat.lt_of_lt_of_le hlt hs, fun j p hj => ?_⟩
    have e := hb b (by rw [hv, ha]; rfl) hlt
    obtain ⟨c0, c1, c2, c3, c4⟩ := hcs j p hj
    exact ⟨(World.cell?_of_block e).trans c0, (World.cell?_of_block e).trans c1, (World.cell?_of_block e).trans c2, (World.cell?_of_block e).trans c3, (World.cell?_of_block e).trans c4⟩
theorem CR.kept {w w' : World} {c : Cl} (h : CR w c) (hs : w.heap.size ≤ w'.heap.size) (hb : ∀ b, c.mv.ownBlock = some b ∨ c.lv.ownBlock = some b → b < w.heap.size → w'.heap[b]? = w.heap[b]?) : CR w' c :=
  ⟨rmM_kept h.1 hs (fun b e => hb b (.inl e)), rmL_kept h.2.1 hs (fun b e => hb b (.inr e)), fun b k => Nat.lt_of_lt_of_le (h.2.2 b k) hs⟩
theorem SH.len {w : World} {B g n cap : Nat} {E : List En} (h : SH w B (.slice (some ⟨g, 0, none⟩) n cap) E) : E.length = n := by
  rcases h.own.2 with ⟨hv, _⟩ | ⟨g', cap', cur, hv, _⟩
  · cases hv
  · injection hv with e1 e2 e3
    exact e2.symm
/-- The sheet's block alone has changed. -/
theorem CR.grown {w w' : World} {g n cap : Nat} {c : Cl} (h : CR w c) (ha : CA (.slice (some ⟨g, 0, none⟩) n cap) c) (hg : w.grownBy w' (some g)) : CR w' c :=
  h.kept hg.size (fun b hb hlt => hg.block b hlt (fun e2 => by
    injection e2 with e2
    subst e2
    exact hb.elim (ha _ rfl).1 (ha _ rfl).2))
theorem SH.turned {w w' : World} {B g n cap : Nat} {E' : List En} (hg : w.grownBy w' (some g)) (ho : w'.ownsRow B 103 10 (.slice (some ⟨g, 0, none⟩) n cap) E'.length (ec E'))
    (hE : ∀ e ∈ E', EO w e ∧ CA (.slice (some ⟨g, 0, none⟩) n cap) e.was ∧ CA (.slice (some ⟨g, 0, none⟩) n cap) e.now) : SH w' B (.slice (some ⟨g, 0, none⟩) n cap) E' :=
  ⟨ho, fun e he => ⟨(hE e he).1.1.grown (hE e he).2.1 hg, (hE e he).1.2.grown (hE e he).2.2 hg⟩, fun e he => (hE e he).2⟩
/-- An entry's cell is turned: two neighbouring cells are stored. -/
theorem SH.two {w : World} {B g cap : Nat} {E : List En} (h : SH w B (.slice (some ⟨g, 0, none⟩) E.length cap) E) {i : Nat} {e : En} (hi : E[i]? = some e) (c : Cl) (j : Nat) (u0 u1 : Value) (hj : j + 1 < 10) (hv : (e.vs.set j u0).set (j + 1) u1 = ({ e with now := c } : En).vs) (hc : CR w c) (ha : CA (.slice (some ⟨g, 0, none⟩) E.length cap) c) :
    SH ((w.setCell ⟨g, i * 10 + j, none⟩ u0).setCell ⟨g, i * 10 + j + 1, none⟩ u1) B (.slice (some ⟨g, 0, none⟩) E.length cap) (E.set i { e with now := c }) ∧ w.grownBy ((w.setCell ⟨g, i * 10 + j, none⟩ u0).setCell ⟨g, i * 10 + j + 1, none⟩ u1) (some g) := by
  have hil := (List.getElem?_eq_some_iff.1 hi).1
  obtain ⟨s0, g0⟩ := h.own.stored (i * 10 + j) u0
  obtain ⟨s1, g1⟩ := s0.stored (i * 10 + (j + 1)) u1
  have hg := grown_trans g0 g1
  have e1 : ((ec E).set (i * 10 + j) u0).set (i * 10 + (j + 1)) u1 = ec (E.set i { e with now := c }) := by
    have hm : (E.map En.vs)[i]? = some e.vs := by rw [List.getElem?_map, hi]; rfl
    rw [ec_flat, ec_flat, cat_set _ i j e.vs u0 vs_len hm (by omega)]
    have hl2 : ∀ x ∈ (E.map En.vs).set i (e.vs.set j u0), x.length = 10 := fun x hx => by
      rcases List.mem_or_eq_of_mem_set hx with hx | hx
      · exact vs_len x hx
      · rw [hx, List.length_set]; rfl
    rw [cat_set _ i (j + 1) (e.vs.set j u0) u1 hl2 (List.getElem?_set_self (by simpa using hil)) hj, List.set_set, hv, List.map_set]
  refine ⟨SH.turned hg ?_ (fun x hx => ?_), hg⟩
  · rw [List.length_set, ← e1]
    exact s1
  · rcases List.mem_or_eq_of_mem_set hx with hx | hx
    · exact ⟨h.ent x hx, h.ap x hx⟩
    · subst hx
      have hm := List.mem_of_getElem? hi
      exact ⟨⟨(h.ent e hm).1, hc⟩, (h.ap e hm).1, ha⟩
/-- One cell is stored. -/
theorem SH.one {w : World} {B g cap : Nat} {E : List En} (h : SH w B (.slice (some ⟨g, 0, none⟩) E.length cap) E) {i : Nat} {e : En} (hi : E[i]? = some e) (c : Cl) (j : Nat) (u0 : Value) (hj : j < 10) (hv : e.vs.set j u0 = ({ e with now := c } : En).vs) (hc : CR w c) (ha : CA (.slice (some ⟨g, 0, none⟩) E.length cap) c) :
    SH (w.setCell ⟨g, i * 10 + j, none⟩ u0) B (.slice (some ⟨g, 0, none⟩) E.length cap) (E.set i { e with now := c }) ∧ w.grownBy (w.setCell ⟨g, i * 10 + j, none⟩ u0) (some g) := by
  obtain ⟨s0, g0⟩ := h.own.stored (i * 10 + j) u0
  have e1 : (ec E).set (i * 10 + j) u0 = ec (E.set i { e with now := c }) := by
    have hm : (E.map En.vs)[i]? = some e.vs := by rw [List.getElem?_map, hi]; rfl
    rw [ec_flat, ec_flat, cat_set _ i j e.vs u0 vs_len hm hj, hv, List.map_set]
  refine ⟨SH.turned g0 ?_ (fun x hx => ?_), g0⟩
  · rw [List.length_set, ← e1]
    exact s0
  · rcases List.mem_or_eq_of_mem_set hx with hx | hx
    · exact ⟨h.ent x hx, h.ap x hx⟩
    · subst hx
      have hm := List.mem_of_getElem? hi
      exact ⟨⟨(h.ent e hm).1, hc⟩, (h.ap e hm).1, ha⟩
theorem below_grow (W : World) (q : Nat) (os : Array Obj) : Below W.heap.size W (grow (W.drewN q) os) :=
  ⟨rfl, rfl, rfl, by simp [grow, World.drewN], fun b hb => by simp [grow, World.drewN, Array.getElem?_append_left hb]⟩
theorem compareB (x y : Ky) (W : World) : Calls Tryz.prog 32 #[.agg #[.int .i64 x.1, .int .i64 x.2], .agg #[.int .i64 y.1, .int .i64 y.2]] W fun e w' => e = .returned (.int .i64 (cfK x y)) ∧ Below W.heap.size W w' :=
  (compareK_any x y W).mono fun e w' ⟨he, q, os, hw⟩ => ⟨he, by rw [hw]; exact below_grow W q os⟩
theorem cf_lt {x y : Ky} (h : ltK x y) : cfK x y < 0 := by
  have := lt_cf x y
  rw [decide_eq_true h] at this
  simpa [ltOf] using this
theorem cf_nlt {x y : Ky} (h : ¬ ltK x y) : ¬ cfK x y < 0 := by
  have := lt_cf x y
  rw [decide_eq_false h] at this
  simpa [ltOf] using this
theorem cf_self (x : Ky) : cfK x x = 0 := by unfold cfK orI; rw [sgn_eq rfl, if_pos rfl, sgn_eq rfl]
set_option maxRecDepth 100000 in
set_option maxHeartbeats 1000000 in
theorem at1_any (e : En) (k : Ky) (w : World) : Calls Tryz.prog 112 #[.agg #[.int .i64 e.k.1, .int .i64 e.k.2, .int .i64 e.was.av, e.was.mv, .int .i64 e.was.st, e.was.lv, .int .i64 e.now.av, e.now.mv, .int .i64 e.now.st, e.now.lv], .agg #[.int .i64 k.1, .int .i64 k.2]] w fun r w' => r = .returned (.int .i64 (cfK e.k k)) ∧ Below w.heap.size w w' := by
  have B0 := hide (two_below w (.cells #[.int .i64 e.k.1, .int .i64 e.k.2, .int .i64 e.was.av, e.was.mv, .int .i64 e.was.st, e.was.lv, .int .i64 e.now.av, e.now.mv, .int .i64 e.now.st, e.now.lv] 103) (.cells #[.int .i64 k.1, .int .i64 k.2] 39))
  obtain ⟨n1, n2⟩ := two_new w (.cells #[.int .i64 e.k.1, .int .i64 e.k.2, .int .i64 e.was.av, e.was.mv, .int .i64 e.was.st, e.was.lv, .int .i64 e.now.av, e.now.mv, .int .i64 e.now.st, e.now.lv] 103) (.cells #[.int .i64 k.1, .int .i64 k.2] 39)
  have x0 : ((w.alloc (.cells #[.int .i64 e.k.1, .int .i64 e.k.2, .int .i64 e.was.av, e.was.mv, .int .i64 e.was.st, e.was.lv, .int .i64 e.now.av, e.now.mv, .int .i64 e.now.st, e.now.lv] 103)).alloc (.cells #[.int .i64 k.1, .int .i64 k.2] 39)).cell? ⟨w.heap.size, 0, none⟩ = some (.int .i64 e.k.1) := by rw [cell_of_row _ _ 0 _ _ _ n1]; rfl
  have x1 : ((w.alloc (.cells #[.int .i64 e.k.1, .int .i64 e.k.2, .int .i64 e.was.av, e.was.mv, .int .i64 e.was.st, e.was.lv, .int .i64 e.now.av, e.now.mv, .int .i64 e.now.st, e.now.lv] 103)).alloc (.cells #[.int .i64 k.1, .int .i64 k.2] 39)).cell? ⟨w.heap.size, 1, none⟩ = some (.int .i64 e.k.2) := by rw [cell_of_row _ _ 1 _ _ _ n1]; rfl
  obtain ⟨y0, y1⟩ := pair_cells n2 rfl
  have HC := hide (compareB e.k k ((w.alloc (.cells #[.int .i64 e.k.1, .int .i64 e.k.2, .int .i64 e.was.av, e.was.mv, .int .i64 e.was.st, e.was.lv, .int .i64 e.now.av, e.now.mv, .int .i64 e.now.st, e.now.lv] 103)).alloc (.cells #[.int .i64 k.1, .int .i64 k.2] 39)))
  clear n1 n2
  go_enter Tryz.func112, Tryz.ntmps112
  go_wp2_with fail
  refine HC.out.mono ?_
  rintro r w1 ⟨rfl, hb⟩
  have B1 := hide (B0.out.trans (hb.mono B0.out.size))
  clear hb
  go_wp2_with fail
  go_ret
  exact ⟨rfl, B1.out⟩
/-- The keys of a sheet. -/
def eks (E : List En) : List Ky := E.map (·.k)
theorem eks_at {E : List En} {j : Nat} {e : En} (h : E[j]? = some e) : (eks E)[j]? = some e.k := by unfold eks; rw [List.getElem?_map, h]; rfl
theorem inc_at {L : List Ky} (h : Inc L) {i j : Nat} {a b : Ky} (ha : L[i]? = some a) (hb : L[j]? = some b) (hij : i < j) : ltK a b := by
  obtain ⟨hi, rfl⟩ := List.getElem?_eq_some_iff.1 ha
  obtain ⟨hj, rfl⟩ := List.getElem?_eq_some_iff.1 hb
  exact List.pairwise_iff_getElem.1 h i j hi hj hij
set_option maxRecDepth 100000 in
set_option maxHeartbeats 4000000 in
theorem searchE_any (v : Value) (B : Nat) (E : List En) (i : Nat) (e : En) (w : World) (hS : SH w B v E) (hinc : Inc (eks E)) (hi : E[i]? = some e) (h1 : E.length ≤ 1000000) :
    Calls Tryz.prog 111 #[v, .agg #[.int .i64 e.k.1, .int .i64 e.k.2], .func (Fn.func 112) #[] #[]] w fun r w' => r = .returned (.tuple #[.int .i64 (i : Int), .bool true]) ∧ Below w.heap.size w w' := by
  have hil := (List.getElem?_eq_some_iff.1 hi).1
  obtain ⟨g, cap, rfl, _, hgl, _⟩ := hS.form (by omega)
  have HS := hide hS
  have HI := hide hinc
  have HE := hide hi
  have NK := hide (alloc_new w (.cells #[.int .i64 e.k.1, .int .i64 e.k.2] 39))
  have B0 := hide ((Below.refl w.heap.size w).alloc (Nat.le_refl _) (.cells #[.int .i64 e.k.1, .int .i64 e.k.2] 39))
  clear hS hinc hi
  go_enter Tryz.func111, Tryz.ntmps111
  go_wp2_with fail
  generalize w.alloc (.cells #[.int .i64 e.k.1, .int .i64 e.k.2] 39) = W0 at NK B0 ⊢
  have HSW := hide (HS.out.later B0.out)
  obtain ⟨gk, hgk⟩ : ∃ g, w.heap.size = g := ⟨_, rfl⟩
  rw [hgk] at NK ⊢
  clear HS hgk
  go_loopw [9, 10] (fun i' j wr => ∃ x y : Nat, i' = .int .i64 (x : Int) ∧ j = .int .i64 (y : Int) ∧ x ≤ i ∧ i ≤ y ∧ y ≤ E.length ∧ Hid (Below W0.heap.size W0 wr)) (fun i j _ => (intOf j).toNat - (intOf i).toNat)
  case atStart => exact ⟨0, E.length, rfl, rfl, Nat.zero_le _, by omega, Nat.le_refl _, hide (Below.refl _ _)⟩
  case round =>
    obtain ⟨x, y, rfl, rfl, h2, h3, h4, HB⟩ := hrel
    by_cases hab : x < y
    · have hd1 : decide ((x : Int) < (y : Int)) = true := by rw [decide_eq_true_eq]; omega
      have w1 : wrap64 ((x : Int) + (y : Int)) = (x : Int) + (y : Int) := by unfold wrap64; omega
      obtain ⟨h, eh⟩ : ∃ h : Nat, (h : Int) = ((x : Int) + (y : Int)) / 2 := ⟨(x + y) / 2, by omega⟩
      have h5 : x ≤ h := by omega
      have h6 : h < y := by omega
      have hlt : h < E.length := by omega
      obtain ⟨a, ha⟩ : ∃ p, E[h]? = some p := ⟨_, List.getElem?_eq_getElem hlt⟩
      have hcs := (HSW.out.later HB.out).cells ha
      have hk := pair_cells (blk_later NK.out HB.out) rfl
      have HC := hide (fun X : Gr wr => at1_any a e.k X.1)
      have k0 : (0 : Int) ≤ (h : Int) := by omega
      have k1 : (h : Int) < (E.length : Int) := by omega
      have HA := hide ha
      have z0 : ∀ X : Gr wr, X.1.cell? ⟨g, h * 10, none⟩ = some (.int .i64 a.k.1) := fun X => (X.2.cell (p := ⟨g, _, none⟩) (World.block_lt_of_cell? _ _ hcs.1)).trans hcs.1
      have z1 : ∀ X : Gr wr, X.1.cell? ⟨g, h * 10 + 1, none⟩ = some (.int .i64 a.k.2) := fun X => (X.2.cell (p := ⟨g, _, none⟩) (World.block_lt_of_cell? _ _ hcs.2.1)).trans hcs.2.1
      have z2 : ∀ X : Gr wr, X.1.cell? ⟨g, h * 10 + 2, none⟩ = some (.int .i64 a.was.av) := fun X => (X.2.cell (p := ⟨g, _, none⟩) (World.block_lt_of_cell? _ _ hcs.2.2.1)).trans hcs.2.2.1
      have z3 : ∀ X : Gr wr, X.1.cell? ⟨g, h * 10 + 3, none⟩ = some (a.was.mv) := fun X => (X.2.cell (p := ⟨g, _, none⟩) (World.block_lt_of_cell? _ _ hcs.2.2.2.1)).trans hcs.2.2.2.1
      have z4 : ∀ X : Gr wr, X.1.cell? ⟨g, h * 10 + 4, none⟩ = some (.int .i64 a.was.st) := fun X => (X.2.cell (p := ⟨g, _, none⟩) (World.block_lt_of_cell? _ _ hcs.2.2.2.2.1)).trans hcs.2.2.2.2.1
      have z5 : ∀ X : Gr wr, X.1.cell? ⟨g, h * 10 + 5, none⟩ = some (a.was.lv) := fun X => (X.2.cell (p := ⟨g, _, none⟩) (World.block_lt_of_cell? _ _ hcs.2.2.2.2.2.1)).trans hcs.2.2.2.2.2.1
      have z6 : ∀ X : Gr wr, X.1.cell? ⟨g, h * 10 + 6, none⟩ = some (.int .i64 a.now.av) := fun X => (X.2.cell (p := ⟨g, _, none⟩) (World.block_lt_of_cell? _ _ hcs.2.2.2.2.2.2.1)).trans hcs.2.2.2.2.2.2.1
      have z7 : ∀ X : Gr wr, X.1.cell? ⟨g, h * 10 + 7, none⟩ = some (a.now.mv) := fun X => (X.2.cell (p := ⟨g, _, none⟩) (World.block_lt_of_cell? _ _ hcs.2.2.2.2.2.2.2.1)).trans hcs.2.2.2.2.2.2.2.1
      have z8 : ∀ X : Gr wr, X.1.cell? ⟨g, h * 10 + 8, none⟩ = some (.int .i64 a.now.st) := fun X => (X.2.cell (p := ⟨g, _, none⟩) (World.block_lt_of_cell? _ _ hcs.2.2.2.2.2.2.2.2.1)).trans hcs.2.2.2.2.2.2.2.2.1
      have z9 : ∀ X : Gr wr, X.1.cell? ⟨g, h * 10 + 9, none⟩ = some (a.now.lv) := fun X => (X.2.cell (p := ⟨g, _, none⟩) (World.block_lt_of_cell? _ _ hcs.2.2.2.2.2.2.2.2.2)).trans hcs.2.2.2.2.2.2.2.2.2
      have y0 : ∀ X : Gr wr, X.1.cell? ⟨gk, 0, none⟩ = some (.int .i64 e.k.1) := fun X => (X.2.cell (p := ⟨gk, _, none⟩) (World.block_lt_of_cell? _ _ hk.1)).trans hk.1
      have y1 : ∀ X : Gr wr, X.1.cell? ⟨gk, 1, none⟩ = some (.int .i64 e.k.2) := fun X => (X.2.cell (p := ⟨gk, _, none⟩) (World.block_lt_of_cell? _ _ hk.2)).trans hk.2
      clear hcs hk ha
      go_upto_region 5 with fail
      rw [← eh]
      clear w1 eh
      by_cases hN : h < i
      · have hc := cf_lt (inc_at HI.out (eks_at HA.out) (eks_at HE.out) hN)
        obtain ⟨c, ec⟩ : ∃ c, cfK a.k e.k = c := ⟨_, rfl⟩
        rw [ec] at HC hc
        have hcd : decide (c < 0) = true := decide_eq_true hc
        clear ec hc
        have HG0 := hide ((Below.refl wr.heap.size wr).drew)
        haveI : Nonempty (Gr wr) := ⟨⟨_, HG0.out⟩⟩
        refine region_class (C := fun w' => ∃ X : Gr wr, w' = X.1) (by kernel_rfl) (by kernel_rfl) ⟨⟨_, HG0.out⟩, rfl⟩ ?_
        repeat (first
          | go_big_quiet_skip
          | (go_big_quiet_want; (go_big_quiet_op; first
              | go_big_quiet_on
              | (apply Exists.intro; refine ⟨fun X => ?_, ?_⟩; (go_at_call 112; exact X.call (HC.out X)); go_big_quiet_on))))
        refine wpQuiet_nil ?_
        rintro w8 ⟨X8, rfl⟩
        obtain ⟨w8, hx8⟩ := X8
        dsimp only
        have HB8 := hide (HB.out.trans (hx8.mono HB.out.size))
        clear z0 z1 z2 z3 z4 z5 z6 z7 z8 z9 y0 y1 hx8 HC HG0 this HB
        go_wp2_with fail
        go_roundw
        case rel => exact ⟨h + 1, y, by go_num, rfl, by omega, h3, h4, HB8⟩
        case measure => simp [intOf]; omega
      · have hc : ¬ cfK a.k e.k < 0 := cf_nlt (fun hl => by
          rcases Nat.lt_or_eq_of_le (Nat.le_of_not_lt hN) with k | k
          · exact ltK_asym hl (inc_at HI.out (eks_at HE.out) (eks_at HA.out) k)
          · subst k
            have := HA.out.symm.trans HE.out
            injection this with this
            subst this
            exact ltK_irr _ hl)
        obtain ⟨c, ec⟩ : ∃ c, cfK a.k e.k = c := ⟨_, rfl⟩
        rw [ec] at HC hc
        have hcd : decide (c < 0) = false := decide_eq_false hc
        clear ec hc
        have HG0 := hide ((Below.refl wr.heap.size wr).drew)
        haveI : Nonempty (Gr wr) := ⟨⟨_, HG0.out⟩⟩
        refine region_class (C := fun w' => ∃ X : Gr wr, w' = X.1) (by kernel_rfl) (by kernel_rfl) ⟨⟨_, HG0.out⟩, rfl⟩ ?_
        repeat (first
          | go_big_quiet_skip
          | (go_big_quiet_want; (go_big_quiet_op; first
              | go_big_quiet_on
              | (apply Exists.intro; refine ⟨fun X => ?_, ?_⟩; (go_at_call 112; exact X.call (HC.out X)); go_big_quiet_on))))
        refine wpQuiet_nil ?_
        rintro w8 ⟨X8, rfl⟩
        obtain ⟨w8, hx8⟩ := X8
        dsimp only
        have HB8 := hide (HB.out.trans (hx8.mono HB.out.size))
        clear z0 z1 z2 z3 z4 z5 z6 z7 z8 z9 y0 y1 hx8 HC HG0 this HB
        go_wp2_with fail
        go_roundw
        case rel => exact ⟨x, h, rfl, rfl, h2, by omega, by omega, HB8⟩
        case measure => simp [intOf]; omega
    · have hd1 : decide ((x : Int) < (y : Int)) = false := by rw [decide_eq_false_iff_not]; omega
      have e1 : x = i := by omega
      subst e1
      have hcs := (HSW.out.later HB.out).cells HE.out
      have hk := pair_cells (blk_later NK.out HB.out) rfl
      have HC := hide (fun X : Gr wr => at1_any e e.k X.1)
      rw [cf_self] at HC
      have k0 : (0 : Int) ≤ (x : Int) := by omega
      have k1 : (x : Int) < (E.length : Int) := by omega
      have hd2 : decide ((x : Int) < (E.length : Int)) = true := by rw [decide_eq_true_eq]; omega
      have z0 : ∀ X : Gr wr, X.1.cell? ⟨g, x * 10, none⟩ = some (.int .i64 e.k.1) := fun X => (X.2.cell (p := ⟨g, _, none⟩) (World.block_lt_of_cell? _ _ hcs.1)).trans hcs.1
      have z1 : ∀ X : Gr wr, X.1.cell? ⟨g, x * 10 + 1, none⟩ = some (.int .i64 e.k.2) := fun X => (X.2.cell (p := ⟨g, _, none⟩) (World.block_lt_of_cell? _ _ hcs.2.1)).trans hcs.2.1
      have z2 : ∀ X : Gr wr, X.1.cell? ⟨g, x * 10 + 2, none⟩ = some (.int .i64 e.was.av) := fun X => (X.2.cell (p := ⟨g, _, none⟩) (World.block_lt_of_cell? _ _ hcs.2.2.1)).trans hcs.2.2.1
      have z3 : ∀ X : Gr wr, X.1.cell? ⟨g, x * 10 + 3, none⟩ = some (e.was.mv) := fun X => (X.2.cell (p := ⟨g, _, none⟩) (World.block_lt_of_cell? _ _ hcs.2.2.2.1)).trans hcs.2.2.2.1
      have z4 : ∀ X : Gr wr, X.1.cell? ⟨g, x * 10 + 4, none⟩ = some (.int .i64 e.was.st) := fun X => (X.2.cell (p := ⟨g, _, none⟩) (World.block_lt_of_cell? _ _ hcs.2.2.2.2.1)).trans hcs.2.2.2.2.1
      have z5 : ∀ X : Gr wr, X.1.cell? ⟨g, x * 10 + 5, none⟩ = some (e.was.lv) := fun X => (X.2.cell (p := ⟨g, _, none⟩) (World.block_lt_of_cell? _ _ hcs.2.2.2.2.2.1)).trans hcs.2.2.2.2.2.1
      have z6 : ∀ X : Gr wr, X.1.cell? ⟨g, x * 10 + 6, none⟩ = some (.int .i64 e.now.av) := fun X => (X.2.cell (p := ⟨g, _, none⟩) (World.block_lt_of_cell? _ _ hcs.2.2.2.2.2.2.1)).trans hcs.2.2.2.2.2.2.1
      have z7 : ∀ X : Gr wr, X.1.cell? ⟨g, x * 10 + 7, none⟩ = some (e.now.mv) := fun X => (X.2.cell (p := ⟨g, _, none⟩) (World.block_lt_of_cell? _ _ hcs.2.2.2.2.2.2.2.1)).trans hcs.2.2.2.2.2.2.2.1
      have z8 : ∀ X : Gr wr, X.1.cell? ⟨g, x * 10 + 8, none⟩ = some (.int .i64 e.now.st) := fun X => (X.2.cell (p := ⟨g, _, none⟩) (World.block_lt_of_cell? _ _ hcs.2.2.2.2.2.2.2.2.1)).trans hcs.2.2.2.2.2.2.2.2.1
      have z9 : ∀ X : Gr wr, X.1.cell? ⟨g, x * 10 + 9, none⟩ = some (e.now.lv) := fun X => (X.2.cell (p := ⟨g, _, none⟩) (World.block_lt_of_cell? _ _ hcs.2.2.2.2.2.2.2.2.2)).trans hcs.2.2.2.2.2.2.2.2.2
      have y0 : ∀ X : Gr wr, X.1.cell? ⟨gk, 0, none⟩ = some (.int .i64 e.k.1) := fun X => (X.2.cell (p := ⟨gk, _, none⟩) (World.block_lt_of_cell? _ _ hk.1)).trans hk.1
      have y1 : ∀ X : Gr wr, X.1.cell? ⟨gk, 1, none⟩ = some (.int .i64 e.k.2) := fun X => (X.2.cell (p := ⟨gk, _, none⟩) (World.block_lt_of_cell? _ _ hk.2)).trans hk.2
      clear hcs hk
      go_wp2_with fail
      have HG0 := hide ((Below.refl wr.heap.size wr).drew)
      haveI : Nonempty (Gr wr) := ⟨⟨_, HG0.out⟩⟩
      refine region_class (C := fun w' => ∃ X : Gr wr, w' = X.1) (by kernel_rfl) (by kernel_rfl) ⟨⟨_, HG0.out⟩, rfl⟩ ?_
      repeat (first
        | go_big_quiet_skip
        | (go_big_quiet_want; (go_big_quiet_op; first
            | go_big_quiet_on
            | (apply Exists.intro; refine ⟨fun X => ?_, ?_⟩; (go_at_call 112; exact X.call (HC.out X)); go_big_quiet_on))))
      refine wpQuiet_nil ?_
      rintro w8 ⟨X8, rfl⟩
      obtain ⟨w8, hx8⟩ := X8
      dsimp only
      have HB8 := hide (HB.out.trans (hx8.mono HB.out.size))
      clear z0 z1 z2 z3 z4 z5 z6 z7 z8 z9 y0 y1 hx8 HC HG0 this HB
      have HBF := hide (B0.out.trans (HB8.out.mono B0.out.size))
      go_wp2_with fail
      go_ret2
      exact ⟨rfl, HBF.out⟩
set_option maxRecDepth 100000 in
set_option maxHeartbeats 1000000 in
theorem at_any (B g cap : Nat) (E : List En) (i : Nat) (e : En) (w : World) (hS : SH w B (.slice (some ⟨g, 0, none⟩) E.length cap) E) (hinc : Inc (eks E)) (hi : E[i]? = some e) (h1 : E.length ≤ 1000000) :
    Calls Tryz.prog 78 #[.slice (some ⟨g, 0, none⟩) E.length cap, .agg #[.int .i64 e.k.1, .int .i64 e.k.2]] w fun r w' => r = .returned (.pointer (some ⟨g, i * 10 + 6, none⟩)) ∧ Below w.heap.size w w' := by
  have hil := (List.getElem?_eq_some_iff.1 hi).1
  have B0 := hide ((Below.refl w.heap.size w).alloc (Nat.le_refl _) (.cells #[.int .i64 e.k.1, .int .i64 e.k.2] 39))
  obtain ⟨y0, y1⟩ := pair_cells (alloc_new w (.cells #[.int .i64 e.k.1, .int .i64 e.k.2] 39)) rfl
  have HC := hide (searchE_any _ B E i e _ (hS.later B0.out) hinc hi h1)
  have k0 : (0 : Int) ≤ (i : Int) := by omega
  have k1 : (i : Int) < (E.length : Int) := by omega
  clear hS hinc hi
  go_enter Tryz.func78, Tryz.ntmps78
  go_wp2_with fail
  refine HC.out.mono ?_
  rintro r w1 ⟨rfl, hb⟩
  have B1 := hide (B0.out.trans (hb.mono B0.out.size))
  clear hb
  go_wp2_with fail
  go_ret
  exact ⟨rfl, B1.out⟩
end Go.Proofs.YtdjhbecbbmdimaaGreatDoor
namespace Go.Proofs.YtdjhbecbbmdimaaGreatDoor
open Go.RowKit

/-- A row that lies in new memory. -/
def Fsh (n : Nat) (w : World) (v : Value) : Prop := ∀ b, v.ownBlock = some b → n ≤ b ∧ b < w.heap.size
theorem Fsh.later {n : Nat} {w w' : World} {v : Value} (h : Fsh n w v) (hs : w.heap.size ≤ w'.heap.size) : Fsh n w' v := fun b hb => ⟨(h b hb).1, Nat.lt_of_lt_of_le (h b hb).2 hs⟩
theorem setB {w : World} {g : Nat} {cs cs' : Array Value} {t : TypeId} (h : w.heap[g]? = some (.cells cs t (0, 0))) (i : Nat) (v : Value) (hc : cs.setIfInBounds i v = cs') : (w.setCell ⟨g, i, none⟩ v).heap[g]? = some (.cells cs' t (0, 0)) := by
  rw [setCell_eq_setRow w g i cs t (0, 0) v h, setRow_heap _ _ _ _ _ _ h, hc]
theorem nofz {w : World} {g : Nat} {cs : Array Value} {t : TypeId} (h : w.heap[g]? = some (.cells cs t (0, 0))) (i : Nat) : w.frozen? ⟨g, i, none⟩ = false := by unfold World.frozen?; simp [h]
theorem four_cells {w : World} {o : Obj} {a b c d : Value} {t : TypeId} {g : Nat} (h : w.heap[g]? = some o) (ho : o = .cells #[a, b, c, d] t (0, 0)) : w.cell? ⟨g, 0, none⟩ = some a ∧ w.cell? ⟨g, 1, none⟩ = some b ∧ w.cell? ⟨g, 2, none⟩ = some c ∧ w.cell? ⟨g, 3, none⟩ = some d := by
  subst ho
  exact ⟨by rw [cell_of_row _ _ 0 _ _ _ h]; rfl, by rw [cell_of_row _ _ 1 _ _ _ h]; rfl, by rw [cell_of_row _ _ 2 _ _ _ h]; rfl, by rw [cell_of_row _ _ 3 _ _ _ h]; rfl⟩
theorem empty_own (w : World) (e : TypeId) (k : Nat) : (w.alloc (.cells #[] e)).ownsRow w.heap.size e k (.slice (some ⟨w.heap.size, 0, none⟩) 0 0) 0 [] :=
  ⟨by simp, .inr ⟨w.heap.size, 0, #[], rfl, Nat.le_refl _, alloc_new w _, Nat.le_refl _, by decide, by simp, by simp⟩⟩
set_option maxRecDepth 100000 in
set_option maxHeartbeats 1000000 in
theorem cloneM_any (v : Value) (L : List BL.Mk) (w : World) (h : BL.RM w v L) (hl : L.length ≤ 3518437208800) :
    Calls Tryz.prog 73 #[v] w fun e w' => ∃ v', e = .returned v' ∧ BL.RM w' v' L ∧ Fsh w.heap.size w' v' ∧ Below w.heap.size w w' := by
  have qT : ∀ (w : World) (a : Option Addr) (n c n' c' : Nat), (binOp .eql 58 (.slice a n c) (.slice none n' c')).run Tryz.prog w = .ok (.bool a.isNone) w := fun w a n c n' c' => Lib.run_eql_slice_nil w _ _ a n c n' c' Tryz.underlying58
  obtain ⟨a, cap, hv⟩ := BL.rm_lt h
  subst hv
  cases a with
  | none =>
    have hL : L = [] := by
      obtain ⟨a, cap', hv, _, h2⟩ := h
      injection hv with e1 e2 e3
      subst e1
      exact h2.resolve_right (fun ⟨b, off, h, _⟩ => by cases h)
    subst hL
    have HR : Hid (BL.RM w (.slice none 0 0) []) := hide ⟨none, 0, rfl, Nat.le_refl _, .inl rfl⟩
    have HF : Hid (Fsh w.heap.size w (.slice none 0 0)) := hide (fun b hb => by cases hb)
    clear h
    go_enter Tryz.func73, Tryz.ntmps73
    go_wp2_with fail
    go_ret
    exact ⟨_, rfl, HR.out, HF.out, Below.refl _ _⟩
  | some ad =>
    have b1 := (Below.refl w.heap.size w).alloc (Nat.le_refl _) (.cells #[] 142)
    have hE : BL.OM (w.alloc (.cells #[] 142)) w.heap.size (.slice (some ⟨w.heap.size, 0, none⟩) 0 0) [] := empty_own w _ _
    obtain ⟨v2, w2, hrun, hO, hg⟩ := BL.run_append_rm (w.alloc (.cells #[] 142)) w.heap.size 58 _ [] hE _ L (h.later b1) (by simp; omega) (by simp)
    rw [List.nil_append] at hO
    have HB := hide (b1.grown hg (by simp) (fun g e => (World.ownsRow.lt hE g e).1))
    have HR := hide (BL.OM.rm hO)
    have HF : Hid (Fsh w.heap.size w2 v2) := hide (fun b hb => World.ownsRow.lt hO b hb)
    obtain ⟨a2, c2, hv2⟩ := BL.rm_lt HR.out
    subst hv2
    have HRN := hide hrun
    clear h b1 hE hrun hO hg
    go_enter Tryz.func73, Tryz.ntmps73
    go_wp2_with (at_builtin; refine Lib.wpList_append_run _ rfl _ _ _ _ rfl _ _ rfl rfl _ _ HRN.out ?_)
    go_ret
    exact ⟨_, rfl, HR.out, HF.out, HB.out⟩
set_option maxRecDepth 100000 in
set_option maxHeartbeats 1000000 in
theorem cloneL_any (v : Value) (L : List LG.El) (w : World) (h : LG.RM w v L) (hl : L.length ≤ 3518437208800) :
    Calls Tryz.prog 74 #[v] w fun e w' => ∃ v', e = .returned v' ∧ LG.RM w' v' L ∧ Fsh w.heap.size w' v' ∧ Below w.heap.size w w' := by
  have qT : ∀ (w : World) (a : Option Addr) (n c n' c' : Nat), (binOp .eql 22 (.slice a n c) (.slice none n' c')).run Tryz.prog w = .ok (.bool a.isNone) w := fun w a n c n' c' => Lib.run_eql_slice_nil w _ _ a n c n' c' Tryz.underlying22
  obtain ⟨a, cap, hv⟩ := LG.rm_lt h
  subst hv
  cases a with
  | none =>
    have hL : L = [] := by
      obtain ⟨a, cap', hv, _, h2⟩ := h
      injection hv with e1 e2 e3
      subst e1
      exact h2.resolve_right (fun ⟨b, off, h, _⟩ => by cases h)
    subst hL
    have HR : Hid (LG.RM w (.slice none 0 0) []) := hide ⟨none, 0, rfl, Nat.le_refl _, .inl rfl⟩
    have HF : Hid (Fsh w.heap.size w (.slice none 0 0)) := hide (fun b hb => by cases hb)
    clear h
    go_enter Tryz.func74, Tryz.ntmps74
    go_wp2_with fail
    go_ret
    exact ⟨_, rfl, HR.out, HF.out, Below.refl _ _⟩
  | some ad =>
    have b1 := (Below.refl w.heap.size w).alloc (Nat.le_refl _) (.cells #[] 43)
    have hE : LG.OM (w.alloc (.cells #[] 43)) w.heap.size (.slice (some ⟨w.heap.size, 0, none⟩) 0 0) [] := empty_own w _ _
    obtain ⟨v2, w2, hrun, hO, hg⟩ := LG.run_append_rm (w.alloc (.cells #[] 43)) w.heap.size 22 _ [] hE _ L (h.later b1) (by simp; omega) (by simp)
    rw [List.nil_append] at hO
    have HB := hide (b1.grown hg (by simp) (fun g e => (World.ownsRow.lt hE g e).1))
    have HR := hide (LG.OM.rm hO)
    have HF : Hid (Fsh w.heap.size w2 v2) := hide (fun b hb => World.ownsRow.lt hO b hb)
    obtain ⟨a2, c2, hv2⟩ := LG.rm_lt HR.out
    subst hv2
    have HRN := hide hrun
    clear h b1 hE hrun hO hg
    go_enter Tryz.func74, Tryz.ntmps74
    go_wp2_with (at_builtin; refine Lib.wpList_append_run _ rfl _ _ _ _ rfl _ _ rfl rfl _ _ HRN.out ?_)
    go_ret
    exact ⟨_, rfl, HR.out, HF.out, HB.out⟩
set_option maxRecDepth 100000 in
set_option maxHeartbeats 2000000 in
theorem copied_any (av st : Int) (mv lv : Value) (ml : List BL.Mk) (ll : List LG.El) (w : World) (h1 : BL.RM w mv ml) (h2 : LG.RM w lv ll) (hm : ml.length ≤ 3518437208800) (hl : ll.length ≤ 3518437208800) :
    Calls Tryz.prog 48 #[.agg #[.int .i64 av, mv, .int .i64 st, lv]] w fun e w' => ∃ mv' lv', e = .returned (.agg #[.int .i64 av, mv', .int .i64 st, lv']) ∧ BL.RM w' mv' ml ∧ LG.RM w' lv' ll ∧ Fsh w.heap.size w' mv' ∧ Fsh w.heap.size w' lv' ∧ Below w.heap.size w w' := by
  obtain ⟨ma, mc, hmv⟩ := BL.rm_lt h1
  subst hmv
  obtain ⟨la, lc, hlv⟩ := LG.rm_lt h2
  subst hlv
  have B0 := hide (two_below w (.cells #[.int .i64 av, .slice ma ml.length mc, .int .i64 st, .slice la ll.length lc] 64) (.cells #[.int .i64 0, .slice none 0 0, .int .i64 0, .slice none 0 0] 64))
  have HM := hide (cloneM_any _ ml _ (h1.later B0.out) hm)
  have HL := hide (fun (W : World) (hb : Below w.heap.size w W) => cloneL_any _ ll W (h2.later hb) hl)
  have N0 := hide (two_new w (.cells #[.int .i64 av, .slice ma ml.length mc, .int .i64 st, .slice la ll.length lc] 64) (.cells #[.int .i64 0, .slice none 0 0, .int .i64 0, .slice none 0 0] 64))
  obtain ⟨x0, x1, x2, x3⟩ := four_cells N0.out.1 rfl
  clear h1 h2
  go_enter Tryz.func48, Tryz.ntmps48
  go_wp2_with fail
  refine HM.out.mono ?_
  rintro e w1 ⟨mv', rfl, hr1, hf1, hb⟩
  obtain ⟨ma', mc', hmv⟩ := BL.rm_lt hr1
  subst hmv
  have B1 := hide (B0.out.trans (hb.mono B0.out.size))
  have N1 := hide (And.intro (blk_later N0.out.1 hb) (blk_later N0.out.2 hb))
  have hsz : w.heap.size + 2 ≤ w1.heap.size := by have := hb.size; simp at this; omega
  clear x0 x1 x2 x3 hb HM
  obtain ⟨x0, x1, x2, x3⟩ := four_cells N1.out.1 rfl
  have fz := nofz N1.out.1 1
  obtain ⟨W1, hW1⟩ : ∃ x, w1.setCell ⟨w.heap.size, 1, none⟩ (.slice ma' ml.length mc') = x := ⟨_, rfl⟩
  have N2 := setB N1.out.1 1 (.slice ma' ml.length mc') rfl
  have N2r := (Below.heap_setCell w1 ⟨w.heap.size, 1, none⟩ (.slice ma' ml.length mc') (w.heap.size + 1) (by show w.heap.size + 1 ≠ w.heap.size; omega)).trans N1.out.2
  have B2 := B1.out.setCell (p := ⟨w.heap.size, 1, none⟩) (Nat.le_refl _) (.slice ma' ml.length mc')
  have hne : ∀ b, (Value.slice ma' ml.length mc').ownBlock = some b → w.heap.size + 2 ≤ b := fun b hb => by have := (hf1 b hb).1; simp at this; omega
  have hr2 : BL.RM (w1.setCell ⟨w.heap.size, 1, none⟩ (.slice ma' ml.length mc')) (.slice ma' ml.length mc') ml := hr1.kept (by simp) (fun b hb o => World.cell?_of_block (Below.heap_setCell w1 ⟨w.heap.size, 1, none⟩ (.slice ma' ml.length mc') b (by have := hne b hb; show b ≠ w.heap.size; omega)))
  rw [hW1] at N2 N2r B2 hr2
  have HN2 := hide (And.intro N2 N2r)
  have HB2 := hide B2
  have HR2 := hide hr2
  have HF1 : Hid (Fsh w.heap.size W1 (.slice ma' ml.length mc')) := hide (fun b hb => ⟨by have := hne b hb; omega, by rw [← hW1]; simpa using (hf1 b hb).2⟩)
  obtain ⟨y0, y1, y2, y3⟩ := four_cells N2 rfl
  have HNM := hide hne
  have HS2 : Hid (w.heap.size + 2 ≤ W1.heap.size) := hide (by rw [← hW1]; simpa using hsz)
  clear N2 N2r B2 hr2 hne hr1 hf1 hsz
  go_wp2_with fail
  refine (HL.out _ HB2.out).mono ?_
  rintro e w3 ⟨lv', rfl, hr3, hf3, hb⟩
  obtain ⟨la', lc', hlv⟩ := LG.rm_lt hr3
  subst hlv
  have B3 := hide (HB2.out.trans (hb.mono HB2.out.size))
  have N3 := hide (And.intro (blk_later HN2.out.1 hb) (blk_later HN2.out.2 hb))
  have hr4 := HR2.out.later hb
  clear x0 x1 x2 x3 y0 y1 y2 y3 hW1 fz
  obtain ⟨x0, x1, x2, x3⟩ := four_cells N3.out.1 rfl
  have fz := nofz N3.out.1 3
  obtain ⟨W3, hW3⟩ : ∃ x, w3.setCell ⟨w.heap.size, 3, none⟩ (.slice la' ll.length lc') = x := ⟨_, rfl⟩
  have N4 := setB N3.out.1 3 (.slice la' ll.length lc') rfl
  have N4r := (Below.heap_setCell w3 ⟨w.heap.size, 3, none⟩ (.slice la' ll.length lc') (w.heap.size + 1) (by show w.heap.size + 1 ≠ w.heap.size; omega)).trans N3.out.2
  have B4 := B3.out.setCell (p := ⟨w.heap.size, 3, none⟩) (Nat.le_refl _) (.slice la' ll.length lc')
  have hneL : ∀ b, (Value.slice la' ll.length lc').ownBlock = some b → w.heap.size + 2 ≤ b := fun b hb => by have := (hf3 b hb).1; have := HS2.out; omega
  have hneM : ∀ b, (Value.slice ma' ml.length mc').ownBlock = some b → w.heap.size + 2 ≤ b := HNM.out
  have kp : ∀ (W : World) (i : Nat) (u : Value) (b : Nat), w.heap.size + 2 ≤ b → (W.setCell ⟨w.heap.size, i, none⟩ u).heap[b]? = W.heap[b]? := fun W i u b hb => Below.heap_setCell W ⟨w.heap.size, i, none⟩ u b (by show b ≠ w.heap.size; omega)
  have kq : ∀ (W : World) (i : Nat) (u : Value) (b : Nat), w.heap.size + 2 ≤ b → (W.setCell ⟨w.heap.size + 1, i, none⟩ u).heap[b]? = W.heap[b]? := fun W i u b hb => Below.heap_setCell W ⟨w.heap.size + 1, i, none⟩ u b (by show b ≠ w.heap.size + 1; omega)
  have hr5 : BL.RM (w3.setCell ⟨w.heap.size, 3, none⟩ (.slice la' ll.length lc')) (.slice ma' ml.length mc') ml := hr4.kept (by simp) (fun b hb o => World.cell?_of_block (kp _ _ _ b (hneM b hb)))
  have hr6 : LG.RM (w3.setCell ⟨w.heap.size, 3, none⟩ (.slice la' ll.length lc')) (.slice la' ll.length lc') ll := hr3.kept (by simp) (fun b hb o => World.cell?_of_block (kp _ _ _ b (hneL b hb)))
  rw [hW3] at N4 N4r B4 hr5 hr6
  obtain ⟨V0, hV0⟩ : ∃ x, W3.setCell ⟨w.heap.size + 1, 0, none⟩ (.int .i64 av) = x := ⟨_, rfl⟩
  have M0 := setB N4r 0 (.int .i64 av) rfl
  have b0 := B4.setCell (p := ⟨w.heap.size + 1, 0, none⟩) (Nat.le_succ _) (.int .i64 av)
  have q0 := hr5.kept (w' := W3.setCell ⟨w.heap.size + 1, 0, none⟩ (.int .i64 av)) (by simp) (fun b hb o => World.cell?_of_block (kq _ _ _ b (hneM b hb)))
  have p0 := hr6.kept (w' := W3.setCell ⟨w.heap.size + 1, 0, none⟩ (.int .i64 av)) (by simp) (fun b hb o => World.cell?_of_block (kq _ _ _ b (hneL b hb)))
  rw [hV0] at M0 b0 q0 p0
  obtain ⟨V1, hV1⟩ : ∃ x, V0.setCell ⟨w.heap.size + 1, 1, none⟩ (.slice ma' ml.length mc') = x := ⟨_, rfl⟩
  have M1 := setB M0 1 (.slice ma' ml.length mc') rfl
  have b1 := b0.setCell (p := ⟨w.heap.size + 1, 1, none⟩) (Nat.le_succ _) (.slice ma' ml.length mc')
  have q1 := q0.kept (w' := V0.setCell ⟨w.heap.size + 1, 1, none⟩ (.slice ma' ml.length mc')) (by simp) (fun b hb o => World.cell?_of_block (kq _ _ _ b (hneM b hb)))
  have p1 := p0.kept (w' := V0.setCell ⟨w.heap.size + 1, 1, none⟩ (.slice ma' ml.length mc')) (by simp) (fun b hb o => World.cell?_of_block (kq _ _ _ b (hneL b hb)))
  rw [hV1] at M1 b1 q1 p1
  obtain ⟨V2, hV2⟩ : ∃ x, V1.setCell ⟨w.heap.size + 1, 2, none⟩ (.int .i64 st) = x := ⟨_, rfl⟩
  have M2 := setB M1 2 (.int .i64 st) rfl
  have b2 := b1.setCell (p := ⟨w.heap.size + 1, 2, none⟩) (Nat.le_succ _) (.int .i64 st)
  have q2 := q1.kept (w' := V1.setCell ⟨w.heap.size + 1, 2, none⟩ (.int .i64 st)) (by simp) (fun b hb o => World.cell?_of_block (kq _ _ _ b (hneM b hb)))
  have p2 := p1.kept (w' := V1.setCell ⟨w.heap.size + 1, 2, none⟩ (.int .i64 st)) (by simp) (fun b hb o => World.cell?_of_block (kq _ _ _ b (hneL b hb)))
  rw [hV2] at M2 b2 q2 p2
  obtain ⟨V3, hV3⟩ : ∃ x, V2.setCell ⟨w.heap.size + 1, 3, none⟩ (.slice la' ll.length lc') = x := ⟨_, rfl⟩
  have M3 := setB M2 3 (.slice la' ll.length lc') rfl
  have b3 := b2.setCell (p := ⟨w.heap.size + 1, 3, none⟩) (Nat.le_succ _) (.slice la' ll.length lc')
  have q3 := q2.kept (w' := V2.setCell ⟨w.heap.size + 1, 3, none⟩ (.slice la' ll.length lc')) (by simp) (fun b hb o => World.cell?_of_block (kq _ _ _ b (hneM b hb)))
  have p3 := p2.kept (w' := V2.setCell ⟨w.heap.size + 1, 3, none⟩ (.slice la' ll.length lc')) (by simp) (fun b hb o => World.cell?_of_block (kq _ _ _ b (hneL b hb)))
  rw [hV3] at M3 b3 q3 p3
  obtain ⟨y0, y1, y2, y3⟩ := four_cells N4 rfl
  obtain ⟨r0, r1, r2, r3⟩ := four_cells N4r rfl
  obtain ⟨s0, s1, s2, s3⟩ := four_cells M0 rfl
  obtain ⟨t0, t1, t2, t3⟩ := four_cells M1 rfl
  obtain ⟨u0, u1, u2, u3⟩ := four_cells M2 rfl
  obtain ⟨d0, d1, d2, d3⟩ := four_cells M3 rfl
  have g0 := nofz N4r 0
  have g1 := nofz M0 1
  have g2 := nofz M1 2
  have g3 := nofz M2 3
  have HQ := hide q3
  have HP := hide p3
  have HBF := hide b3
  have HFL : Hid (Fsh w.heap.size w3 (.slice la' ll.length lc')) := hide (fun b hb => ⟨by have := hneL b hb; omega, (hf3 b hb).2⟩)
  have HSZ : Hid (W1.heap.size ≤ w3.heap.size ∧ w3.heap.size ≤ V3.heap.size) := hide ⟨hb.size, by rw [← hV3, ← hV2, ← hV1, ← hV0, ← hW3]; simp⟩
  clear N4 N4r B4 hr3 hr4 hr5 hr6 kp kq hneL hneM M0 M1 M2 M3 b0 b1 b2 b3 q0 q1 q2 q3 p0 p1 p2 p3 hf3 hb
  go_wp2_with fail
  exact bodyPost_ret (v := .agg #[.int .i64 av, .slice ma' ml.length mc', .int .i64 st, .slice la' ll.length lc']) (by simp [results, Tryz.results48, go_sem, d0, d1, d2, d3]) rfl ⟨_, _, rfl, HQ.out, HP.out, HF1.out.later (Nat.le_trans HSZ.out.1 HSZ.out.2), HFL.out.later HSZ.out.2, HBF.out⟩
end Go.Proofs.YtdjhbecbbmdimaaGreatDoor
