/-
  My own text: LVM, LVN, LVO in one.
-/
import Derived.Test.YtcdhblfefpkjgaaDoorLVL
import Derived.Test.YtcdhblfefpkjgaaDoorBE1
import Derived.Test.YtcdhblfefpkjgaaDoorLW1
namespace Go.Proofs.YtcdhblfefpkjgaaDoor
open Go.RowKit

/-- A value put behind a row of rows: cells below the row's end stay. -/
theorem app_rows {w : World} {ops : Array Oper} {rest : List Oper} {o : Oper} {a : Act} {Q : Exit → Act → World → Prop} (hgd : o.guard = none) (s x : Operand)
    (ho : o.op = .call { callee := .builtin .append, args := #[s, x], argTypes := #[29, 29] }) (B : Nat) (v : Value) (l : List Value) (c : Value) (b : Nat) (hs : a.eval s = v) (hx : a.eval x = .slice (some ⟨b, 0, none⟩) 1 1)
    (hown : w.ownsRow B 41 1 v l.length l) (h1c : c.oneCell' = true) (hc : w.cell? ⟨b, 0, none⟩ = some c) (hB : B ≤ w.heap.size) (hsz : l.length + 1 ≤ 1000000)
    (h : ∀ v' w', w'.ownsRow B 41 1 v' (l ++ [c]).length (l ++ [c]) → Grew w v w' v' → (∀ P j u, j < l.length → w.cell? ⟨P, j, none⟩ = some u → w'.cell? ⟨P, j, none⟩ = some u) → wpList Tryd.prog ops Q rest (a.put o.dst v') w') : wpList Tryd.prog ops Q (o :: rest) a w := by
  obtain ⟨i0, hi, hz0, hz1, hz2⟩ := info_parts Tryd.infoRow
  have hm1 : l.length + 1 ≤ maxLen := Nat.le_trans hsz (by decide)
  have hm2 : (l.length + 1) * 24 ≤ 140737488355328 := Nat.le_trans (Nat.mul_le_mul_right 24 hsz) (by decide)
  have hnews : ∀ j u, ([c] : List Value)[j]? = some u → w.cell? ((⟨b, 0, none⟩ : Addr).add j) = some u := by
    intro j u hj
    match j, hj with
    | 0, hj => simp at hj; subst hj; simpa [Addr.add] using hc
  have h1 : ∀ u ∈ ([c] : List Value), u.oneCell' = true := by intro u hu; simp at hu; subst hu; exact h1c
  have hlen : (l ++ [c]).length = l.length + 1 := by simp
  have hfull : ∀ (ao : Option Addr) (cap : Nat), v = .slice ao l.length cap → (ao = none → l.length = 0 ∧ cap = 0) → (∀ q, ao = some q → ∀ j u, l[j]? = some u → w.cell? (q.add j) = some u) → cap < l.length + 1 → wpList Tryd.prog ops Q (o :: rest) a w := by
    intro ao cap hv hno hold hf
    refine wpList_append_grows w hgd s x 29 ho 41 i0 (.slice none 0 0) 1 24 Tryd.underlying29 hi hz0 hz1 hz2 rfl (by decide) ao l.length cap l (hs.trans hv) hno (by omega) hold ⟨b, 0, none⟩ 1 1 [c] hx rfl hnews h1 hf hm1 hm2 ?_
    intro v' w' hown' hg
    have hO : w'.ownsRow w.heap.size 41 1 v' (l ++ [c]).length (l ++ [c]) := by rw [hlen]; exact hown'
    exact h v' w' (owns_low hO hB) ⟨⟨hg.os, hg.tape, hg.output, hg.size, fun k hk _ => hg.block k hk (by intro e; cases e)⟩, fun g hg' => .inr (World.ownsRow.lt hO g hg').1⟩ (fun P j u hj hu => hg.cell hu (by intro e; cases e))
  rcases hown.2 with ⟨hv, h0⟩ | ⟨g, cap, cur, hv, hb, hh, hn2, hn3⟩
  · refine hfull none 0 (by rw [hv, h0]) (fun _ => ⟨h0, rfl⟩) (fun q hq => by cases hq) (by omega)
  · by_cases hroom : l.length + 1 ≤ cap
    · have hown2 := hown
      rw [hv] at hown2
      refine wpList_append_own_spare w hgd s x 29 ho B 41 i0 1 Tryd.underlying29 hi hz1 g l.length cap l (hs.trans hv) hown2 ⟨b, 0, none⟩ 1 1 [c] hx rfl hnews h1 hroom ?_
      intro w' hown' hg
      have hO : w'.ownsRow B 41 1 (.slice (some ⟨g, 0, none⟩) (l.length + 1) cap) (l ++ [c]).length (l ++ [c]) := by rw [hlen]; exact hown'
      refine h _ w' hO ⟨by rw [hv]; exact hg, fun g' hg' => .inl (by rw [hv]; exact hg')⟩ (fun P j u hj hu => ?_)
      by_cases e : P = g
      · subst e
        rw [World.ownsRow.cellAt hown2 j (by omega)] at hu
        rw [World.ownsRow.cellAt hown' j (by omega), List.getElem?_append_left hj]
        exact hu
      · exact hg.cell hu (by intro h2; exact e (Option.some.inj h2))
    · refine hfull (some ⟨g, 0, none⟩) cap hv (fun hq => by cases hq) (fun q hq => ?_) (by omega)
      cases hq
      exact World.ownsRow.cells hown (by rw [hv]; rfl)
/-- A literal row of one number. -/
def Lt (w : World) (u : Value) (x : Int) : Prop := ∃ q, u = .slice (some ⟨q, 0, none⟩) 1 1 ∧ w.heap[q]? = some (.cells #[.int .i64 x] 3 (0, 0))
theorem Lt.later {w w' : World} {u : Value} {x : Int} (h : Lt w u x) (hb : Below w.heap.size w w') : Lt w' u x := by
  obtain ⟨q, h1, h2⟩ := h
  exact ⟨q, h1, (hb.block q (Array.getElem?_eq_some_iff.1 h2).1).trans h2⟩
theorem Lt.other {w w' : World} {u : Value} {x : Int} {g : Nat} {c : Array Value} {f : Nat × Nat} (h : Lt w u x) (hg : w.heap[g]? = some (.cells c 41 f)) (hk : ∀ q, q < w.heap.size → q ≠ g → w'.heap[q]? = w.heap[q]?) : Lt w' u x := by
  obtain ⟨q, h1, h2⟩ := h
  refine ⟨q, h1, (hk q (Array.getElem?_eq_some_iff.1 h2).1 (fun e => ?_)).trans h2⟩
  rw [e, hg] at h2
  injection h2 with h2
  injection h2 with _ h2 _
  exact absurd h2 (by decide)
/-- Two rows of rows, each of its own; what the literals in them hold. -/
structure O2 (B : Nat) (w0 w : World) (va vb : Value) (XA XB : List Value) (PA PB : Nat → Option Int) : Prop where
  a : w.ownsRow B 41 1 va XA.length XA
  b : w.ownsRow B 41 1 vb XB.length XB
  ap : ∀ g, va.ownBlock = some g → vb.ownBlock = some g → False
  la : ∀ i x, PA i = some x → ∃ u, XA[i]? = some u ∧ Lt w u x
  lb : ∀ i x, PB i = some x → ∃ u, XB[i]? = some u ∧ Lt w u x
  low : Below B w0 w
  bs : B ≤ w.heap.size
theorem O2.symm {B : Nat} {w0 w : World} {va vb : Value} {XA XB : List Value} {PA PB : Nat → Option Int} (h : O2 B w0 w va vb XA XB PA PB) : O2 B w0 w vb va XB XA PB PA := ⟨h.b, h.a, fun g x y => h.ap g y x, h.lb, h.la, h.low, h.bs⟩
theorem O2.later {B : Nat} {w0 w w' : World} {va vb : Value} {XA XB : List Value} {PA PB : Nat → Option Int} (h : O2 B w0 w va vb XA XB PA PB) (hb : Below w.heap.size w w') : O2 B w0 w' va vb XA XB PA PB :=
  ⟨owns_lat h.a hb, owns_lat h.b hb, h.ap, fun i x e => by obtain ⟨u, h1, h2⟩ := h.la i x e; exact ⟨u, h1, h2.later hb⟩, fun i x e => by obtain ⟨u, h1, h2⟩ := h.lb i x e; exact ⟨u, h1, h2.later hb⟩, h.low.trans (hb.mono h.bs), Nat.le_trans h.bs hb.size⟩
def PQ (f : Nat → Int) (c : Int) (m j i : Nat) : Option Int := if i < m then some (f i) else if i < m + j then some c else none
theorem PQ_zero (f : Nat → Int) (c : Int) (i : Nat) : PQ f c 0 0 i = none := by unfold PQ; rw [if_neg (by omega), if_neg (by omega)]
/-- A place is written over. -/
theorem O2.setA {B : Nat} {w0 w : World} {g n cap : Nat} {vb : Value} {XA XB : List Value} {f : Nat → Int} {c : Int} {PB : Nat → Option Int} {j : Nat} (h : O2 B w0 w (.slice (some ⟨g, 0, none⟩) n cap) vb XA XB (PQ f c j 0) PB) (hj : j < XA.length) {u : Value} (hu : Lt w u (f j)) :
    O2 B w0 (w.setCell ⟨g, j, none⟩ u) (.slice (some ⟨g, 0, none⟩) n cap) vb (XA.set j u) XB (PQ f c (j + 1) 0) PB := by
  obtain ⟨_, ca, fa, hga⟩ := okind h.a g rfl
  have hk : ∀ q, q ≠ g → (w.setCell ⟨g, j, none⟩ u).heap[q]? = w.heap[q]? := fun q hq => Below.heap_setCell _ _ _ _ hq
  have hlow := World.ownsRow.lt h.a g rfl
  have hn : n = XA.length := by
    obtain ⟨a, c, e⟩ := owns_slice h.a
    injection e
  subst hn
  refine ⟨?_, ?_, h.ap, fun i x e => ?_, fun i x e => ?_, gb_below h.low (gb_set w g j u) hlow.1 h.bs, by have := (gb_set w g j u).size; exact Nat.le_trans h.bs this⟩
  · rw [List.length_set]; exact (World.ownsRow.stored h.a j u).1
  · exact owns_blk h.b fun q hq => hk q (fun e => h.ap g rfl (by rw [← e]; exact hq))
  · unfold PQ at e
    by_cases hi : i = j
    · subst hi
      rw [if_pos (by omega)] at e
      cases e
      exact ⟨u, List.getElem?_set_self hj, hu.other hga (fun q _ hq => hk q hq)⟩
    · have : i < j := by
        by_cases q : i < j
        · exact q
        · rw [if_neg (by omega), if_neg (by omega)] at e; cases e
      rw [if_pos (by omega)] at e
      obtain ⟨u2, h1, h2⟩ := h.la i x (by unfold PQ; rw [if_pos this]; exact e)
      exact ⟨u2, by rw [List.getElem?_set_ne (fun q => hi q.symm)]; exact h1, h2.other hga (fun q _ hq => hk q hq)⟩
  · obtain ⟨u2, h1, h2⟩ := h.lb i x e
    exact ⟨u2, h1, h2.other hga (fun q _ hq => hk q hq)⟩
/-- A row is longer. -/
theorem O2.pushA {B : Nat} {w0 w w' : World} {va va' vb : Value} {XA XB : List Value} {f : Nat → Int} {c : Int} {PB : Nat → Option Int} {m j : Nat} (h : O2 B w0 w va vb XA XB (PQ f c m j) PB) (hl : XA.length = m + j) {u : Value} (hu : Lt w u c)
    (ho : w'.ownsRow B 41 1 va' (XA ++ [u]).length (XA ++ [u])) (hg : Grew w va w' va') : O2 B w0 w' va' vb (XA ++ [u]) XB (PQ f c m (j + 1)) PB := by
  have hk : ∀ {u : Value} {x : Int}, Lt w u x → Lt w' u x := fun {u x} hu => by
    obtain ⟨q, h1, h2⟩ := hu
    refine ⟨q, h1, (hg.grown.block q (Array.getElem?_eq_some_iff.1 h2).1 (fun e => ?_)).trans h2⟩
    obtain ⟨_, ca, fa, hga⟩ := okind h.a q e.symm
    rw [hga] at h2
    injection h2 with h2
    injection h2 with _ h2 _
    exact absurd h2 (by decide)
  refine ⟨ho, owns_blk h.b fun q hq => hg.grown.block q (World.ownsRow.lt h.b q hq).2 (fun e => h.ap q e.symm hq), fun q h1 h2 => ?_, fun i x e => ?_, fun i x e => ?_, h.low.grown hg.grown h.bs (fun q hq => (World.ownsRow.lt h.a q hq).1), Nat.le_trans h.bs hg.grown.size⟩
  · rcases hg.lies q h1 with e | e
    · exact h.ap q e h2
    · have := (World.ownsRow.lt h.b q h2).2; omega
  · unfold PQ at e
    by_cases hi : i = m + j
    · subst hi
      rw [if_neg (by omega), if_pos (by omega)] at e
      cases e
      exact ⟨u, by rw [← hl]; simp, hk hu⟩
    · have hlt : i < m + j := by
        by_cases q : i < m
        · omega
        · by_cases q2 : i < m + (j + 1)
          · omega
          · rw [if_neg q, if_neg q2] at e; cases e
      obtain ⟨u2, h1, h2⟩ := h.la i x (by
        unfold PQ
        by_cases q : i < m
        · rw [if_pos q] at e ⊢; exact e
        · rw [if_neg q, if_pos (by omega)] at e; rw [if_neg q, if_pos hlt]; exact e)
      exact ⟨u2, by rw [List.getElem?_append_left (by omega)]; exact h1, hk h2⟩
  · obtain ⟨u2, h1, h2⟩ := h.lb i x e
    exact ⟨u2, h1, hk h2⟩
end Go.Proofs.YtcdhblfefpkjgaaDoor
namespace Go.Proofs.YtcdhblfefpkjgaaDoor
open Go.RowKit

def fA (i : Nat) : Int := (i : Int)
def fB (i : Nat) : Int := -(i : Int) - 1
theorem Lt.new (w : World) (x : Int) : Lt (w.alloc (.cells #[.int .i64 x] 3)) (.slice (some ⟨w.heap.size, 0, none⟩) 1 1) x := ⟨_, rfl, alloc_new w _⟩
theorem neg_up {j : Nat} (h : j ≤ 4096) : wrap64 (-(j : Int)) = -(j : Int) ∧ wrap64 (-(j : Int) - 1) = -(j : Int) - 1 := by unfold wrap64; omega
theorem own_base {w : World} {B n c : Nat} {a : Option Addr} {xs : List Value} (h : w.ownsRow B 41 1 (.slice a n c) xs.length xs) (hn : 0 < n) : ∃ g, a = some ⟨g, 0, none⟩ := by
  rcases h.2 with ⟨e1, e2⟩ | ⟨g, cap, cur, e1, _⟩
  · injection e1 with _ e1 _; omega
  · injection e1 with e1 _ _; exact ⟨g, e1⟩
theorem own_froz {w : World} {B n c g : Nat} {xs : List Value} (h : w.ownsRow B 41 1 (.slice (some ⟨g, 0, none⟩) n c) xs.length xs) (k : Nat) : w.frozen? ⟨g, k, none⟩ = false := by
  obtain ⟨a, c2, e⟩ := owns_slice h
  have hn : n = xs.length := by injection e
  subst hn
  exact World.ownsRow.frozenAt h k
theorem own_at {w : World} {B n c g : Nat} {xs : List Value} (h : w.ownsRow B 41 1 (.slice (some ⟨g, 0, none⟩) n c) xs.length xs) {k : Nat} {u : Value} (hk : xs[k]? = some u) : w.cell? ⟨g, k, none⟩ = some u := by
  obtain ⟨a, c2, e⟩ := owns_slice h
  have hn : n = xs.length := by injection e
  subst hn
  rw [World.ownsRow.cellAt h k (by have := (List.getElem?_eq_some_iff.1 hk).1; omega)]
  exact hk
/-- The cells of both rows. -/
def SeeB (aa ab : Option Addr) (Y Z : List Value) (w : World) : Prop := (∀ i u, Y[i]? = some u → ∃ g, aa = some ⟨g, 0, none⟩ ∧ w.cell? ⟨g, i, none⟩ = some u) ∧ (∀ i u, Z[i]? = some u → ∃ g, ab = some ⟨g, 0, none⟩ ∧ w.cell? ⟨g, i, none⟩ = some u)
theorem SeeB.later {aa ab : Option Addr} {Y Z : List Value} {w w' : World} (h : SeeB aa ab Y Z w) (hk : ∀ g i u, (i < Y.length ∨ i < Z.length) → w.cell? ⟨g, i, none⟩ = some u → w'.cell? ⟨g, i, none⟩ = some u) : SeeB aa ab Y Z w' :=
  ⟨fun i u hi => by obtain ⟨g, h1, h2⟩ := h.1 i u hi; exact ⟨g, h1, hk g i u (.inl (List.getElem?_eq_some_iff.1 hi).1) h2⟩, fun i u hi => by obtain ⟨g, h1, h2⟩ := h.2 i u hi; exact ⟨g, h1, hk g i u (.inr (List.getElem?_eq_some_iff.1 hi).1) h2⟩⟩
theorem both_at {B m ca cb : Nat} {w0 w : World} {aa ab : Option Addr} {Y Z : List Value} {PA PB : Nat → Option Int} (h : O2 B w0 w (.slice aa m ca) (.slice ab m cb) Y Z PA PB) (hY : Y.length = m) (hZ : Z.length = m) : SeeB aa ab Y Z w := by
  refine ⟨fun i u hi => ?_, fun i u hi => ?_⟩
  · obtain ⟨g, rfl⟩ := own_base h.a (by have := (List.getElem?_eq_some_iff.1 hi).1; omega)
    exact ⟨g, rfl, own_at h.a hi⟩
  · obtain ⟨g, rfl⟩ := own_base h.b (by have := (List.getElem?_eq_some_iff.1 hi).1; omega)
    exact ⟨g, rfl, own_at h.b hi⟩
theorem cell_two (w : World) (o : Obj) (u : Value) : ((w.alloc o).alloc (.cells #[u] 41)).cell? ⟨w.heap.size + 1, 0, none⟩ = some u := by
  have h := alloc_new (w.alloc o) (.cells #[u] 41)
  rw [show (w.alloc o).heap.size = w.heap.size + 1 by simp] at h
  exact cell_of_row _ _ 0 _ _ _ h
/-- What stands at place j of the rows that were written over. -/
theorem see5 {B m : Nat} {w0 w : World} {vg vh : Value} {aa ab : Option Addr} {Y Z G H : List Value} (h : O2 B w0 w vh vg H G (PQ fB (-77) m 20) (PQ fA 77 m 20)) (hH : H.take m = Z) (hG : G.take m = Y) (hS : SeeB aa ab Y Z w) {j : Nat} (hj : j < m) :
    ∃ ga gb qa qb, aa = some ⟨ga, 0, none⟩ ∧ ab = some ⟨gb, 0, none⟩ ∧ w.cell? ⟨ga, j, none⟩ = some (.slice (some ⟨qa, 0, none⟩) 1 1) ∧ w.cell? ⟨qa, 0, none⟩ = some (.int .i64 (j : Int)) ∧ w.cell? ⟨gb, j, none⟩ = some (.slice (some ⟨qb, 0, none⟩) 1 1) ∧ w.cell? ⟨qb, 0, none⟩ = some (.int .i64 (-(j : Int) - 1)) := by
  obtain ⟨ub, hb, qb, rfl, hqb⟩ := h.la j (fB j) (by unfold PQ; rw [if_pos hj])
  obtain ⟨ua, ha, qa, rfl, hqa⟩ := h.lb j (fA j) (by unfold PQ; rw [if_pos hj])
  obtain ⟨ga, ea, ca⟩ := hS.1 j _ (by rw [← hG, List.getElem?_take_of_lt hj]; exact ha)
  obtain ⟨gb, eb, cb⟩ := hS.2 j _ (by rw [← hH, List.getElem?_take_of_lt hj]; exact hb)
  exact ⟨ga, gb, qa, qb, ea, eb, ca, cell_of_row _ _ 0 _ _ _ hqa, cb, cell_of_row _ _ 0 _ _ _ hqb⟩
/-- What stands behind. -/
theorem see6 {B m mg mh cg ch : Nat} {w0 w : World} {ag ah : Option Addr} {G H : List Value} (h : O2 B w0 w (.slice ah mh ch) (.slice ag mg cg) H G (PQ fB (-77) m 20) (PQ fA 77 m 20)) (hg : mg = m + 20) (hh : mh = m + 20) {j : Nat} (hj : j < 20) :
    ∃ gg gh qg qh, ag = some ⟨gg, 0, none⟩ ∧ ah = some ⟨gh, 0, none⟩ ∧ w.cell? ⟨gg, m + j, none⟩ = some (.slice (some ⟨qg, 0, none⟩) 1 1) ∧ w.cell? ⟨qg, 0, none⟩ = some (.int .i64 77) ∧ w.cell? ⟨gh, m + j, none⟩ = some (.slice (some ⟨qh, 0, none⟩) 1 1) ∧ w.cell? ⟨qh, 0, none⟩ = some (.int .i64 (-77)) := by
  obtain ⟨ub, hb, qb, rfl, hqb⟩ := h.la (m + j) (-77) (by unfold PQ; rw [if_neg (by omega), if_pos (by omega)])
  obtain ⟨ua, ha, qa, rfl, hqa⟩ := h.lb (m + j) 77 (by unfold PQ; rw [if_neg (by omega), if_pos (by omega)])
  obtain ⟨gg, rfl⟩ := own_base h.b (by omega)
  obtain ⟨gh, rfl⟩ := own_base h.a (by omega)
  exact ⟨gg, gh, qa, qb, rfl, rfl, own_at h.b ha, cell_of_row _ _ 0 _ _ _ hqa, own_at h.a hb, cell_of_row _ _ 0 _ _ _ hqb⟩
theorem wrap_two {m j : Nat} (hm : m ≤ 4096) (hj : j < 20) : wrap64 ((m : Int) + (j : Int)) = ((m + j : Nat) : Int) := by unfold wrap64; omega
theorem few_rows {G : List Value} {m j : Nat} (h : G.length = m + j) (hm : m ≤ 4096) (hj : j < 20) : G.length + 1 ≤ 1000000 := by omega
theorem cell_blk {w : World} {g i : Nat} {u : Value} (h : w.cell? ⟨g, i, none⟩ = some u) : g < w.heap.size := by
  by_cases hg : g < w.heap.size
  · exact hg
  · rw [show w.cell? ⟨g, i, none⟩ = none by unfold World.cell?; rw [Array.getElem?_eq_none (by show w.heap.size ≤ g; omega)]] at h; cases h
set_option maxRecDepth 100000 in
set_option maxHeartbeats 4000000 in
theorem outer_any (B m : Nat) (w0 w : World) (va vb : Value) (XA XB : List Value) (h : O2 B w0 w va vb XA XB (PQ fA 77 0 0) (PQ fB (-77) 0 0)) (hA : XA.length = m) (hB : XB.length = m) (hm : m ≤ 4096) :
    Calls Tryd.prog 13 #[va, vb] w fun e w' => e = .returned (.bool true) ∧ Below B w0 w' := by
  obtain ⟨aa, ca, hva⟩ := owns_slice h.a
  obtain ⟨ab, cb, hvb⟩ := owns_slice h.b
  rw [hA] at hva
  rw [hB] at hvb
  subst hva
  subst hvb
  have HE0 := hide h
  have HN := hide (And.intro hA (And.intro hB hm))
  clear h hA hB hm
  go_enter Tryd.func13, Tryd.ntmps13
  go_wp2_with fail
  go_loopw [6] (fun i wr => ∃ (j : Nat) (Y : List Value), i = .int .i64 (j : Int) ∧ Hid (j ≤ m ∧ Y.length = m) ∧ Hid (O2 B w0 wr (.slice aa m ca) (.slice ab m cb) Y XB (PQ fA 77 j 0) (PQ fB (-77) 0 0))) (fun i _ => m - (intOf i).toNat)
  case atStart => exact ⟨0, XA, rfl, hide ⟨Nat.zero_le _, HN.out.1⟩, HE0⟩
  case round =>
    clear HE0
    obtain ⟨j, Y, rfl, HJ, HE0⟩ := hrel
    by_cases hjm : j < m
    · have wk := wrap_up hjm (Nat.le_trans HN.out.2.2 (by decide))
      have j0 : (0 : Int) ≤ (j : Int) := Int.natCast_nonneg _
      have j1 : (j : Int) < (m : Int) := Int.ofNat_lt.2 hjm
      obtain ⟨ga, rfl⟩ := own_base HE0.out.a (by omega)
      have hbA := (Below.refl wr.heap.size wr).alloc (Nat.le_refl _) (.cells #[.int .i64 (j : Int)] 3)
      have HE1 := hide (HE0.out.later hbA)
      have z2 := own_at HE1.out.a (k := j) (List.getElem?_eq_getElem (by rw [HJ.out.2]; exact hjm))
      have z3 := own_froz HE1.out.a j
      obtain ⟨D2, hD2⟩ : ∃ V, (wr.alloc (.cells #[.int .i64 (j : Int)] 3)).setCell ⟨ga, j, none⟩ (.slice (some ⟨wr.heap.size, 0, none⟩) 1 1) = V := ⟨_, rfl⟩
      have HE2 := hide (HE1.out.setA (by rw [HJ.out.2]; exact hjm) (u := .slice (some ⟨wr.heap.size, 0, none⟩) 1 1) (Lt.new wr (j : Int)))
      rw [hD2] at HE2
      clear HE0 HE1 hbA
      go_wp2_with fail
      go_roundw
      case rel => exact ⟨j + 1, _, iv_succ wk, hide ⟨hjm, by rw [List.length_set]; exact HJ.out.2⟩, HE2⟩
      case measure => exact meas_j wk hjm
    · have HE1 : Hid (∃ Y : List Value, Y.length = m ∧ O2 B w0 wr (.slice aa m ca) (.slice ab m cb) Y XB (PQ fA 77 m 0) (PQ fB (-77) 0 0)) := hide ⟨Y, HJ.out.2, by have h := HE0.out; rw [show j = m by have := HJ.out.1; omega] at h; exact h⟩
      obtain ⟨W1, hW1⟩ : ∃ W1, W1 = wr := ⟨wr, rfl⟩
      subst hW1
      clear HE0 HJ
      go_wp2_with fail
      go_loopw [7] (fun i wr => ∃ (j : Nat) (Y Z : List Value), i = .int .i64 (j : Int) ∧ Hid (j ≤ m ∧ Y.length = m ∧ Z.length = m) ∧ Hid (O2 B w0 wr (.slice ab m cb) (.slice aa m ca) Z Y (PQ fB (-77) j 0) (PQ fA 77 m 0))) (fun i _ => m - (intOf i).toNat)
      case atStart =>
        obtain ⟨Y, hY, hO⟩ := HE1.out
        exact ⟨0, Y, XB, rfl, hide ⟨Nat.zero_le _, hY, HN.out.2.1⟩, hide hO.symm⟩
      case round =>
        clear HE1
        obtain ⟨j, Y, Z, rfl, HJ, HE0⟩ := hrel
        by_cases hjm : j < m
        · have wk := wrap_up hjm (Nat.le_trans HN.out.2.2 (by decide))
          have j0 : (0 : Int) ≤ (j : Int) := Int.natCast_nonneg _
          have j1 : (j : Int) < (m : Int) := Int.ofNat_lt.2 hjm
          obtain ⟨n1, n2⟩ := neg_up (Nat.le_trans (Nat.le_of_lt hjm) HN.out.2.2)
          obtain ⟨gb, rfl⟩ := own_base HE0.out.a (by omega)
          have hbA := (Below.refl wr.heap.size wr).alloc (Nat.le_refl _) (.cells #[.int .i64 (-(j : Int) - 1)] 3)
          have HE1 := hide (HE0.out.later hbA)
          have z2 := own_at HE1.out.a (k := j) (List.getElem?_eq_getElem (by rw [HJ.out.2.2]; exact hjm))
          have z3 := own_froz HE1.out.a j
          obtain ⟨D2, hD2⟩ : ∃ V, (wr.alloc (.cells #[.int .i64 (-(j : Int) - 1)] 3)).setCell ⟨gb, j, none⟩ (.slice (some ⟨wr.heap.size, 0, none⟩) 1 1) = V := ⟨_, rfl⟩
          have HE2 := hide (HE1.out.setA (by rw [HJ.out.2.2]; exact hjm) (u := .slice (some ⟨wr.heap.size, 0, none⟩) 1 1) (Lt.new wr (-(j : Int) - 1)))
          rw [hD2] at HE2
          clear HE0 HE1 hbA
          go_wp2_with fail
          go_roundw
          case rel => exact ⟨j + 1, Y, _, iv_succ wk, hide ⟨hjm, HJ.out.2.1, by rw [List.length_set]; exact HJ.out.2.2⟩, HE2⟩
          case measure => exact meas_j wk hjm
        · have HE1 : Hid (Y.length = m ∧ Z.length = m ∧ O2 B w0 wr (.slice aa m ca) (.slice ab m cb) Y Z (PQ fA 77 m 0) (PQ fB (-77) m 0)) := hide ⟨HJ.out.2.1, HJ.out.2.2, by have h := HE0.out; rw [show j = m by have := HJ.out.1; omega] at h; exact h.symm⟩
          obtain ⟨W2, hW2⟩ : ∃ W2, W2 = wr := ⟨wr, rfl⟩
          subst hW2
          clear HE0 HJ
          have HYZ : Hid (Y.length = m ∧ Z.length = m) := hide ⟨HE1.out.1, HE1.out.2.1⟩
          have HCA : Hid ((∀ i u, Y[i]? = some u → ∃ g, aa = some ⟨g, 0, none⟩ ∧ W2.cell? ⟨g, i, none⟩ = some u) ∧ (∀ i u, Z[i]? = some u → ∃ g, ab = some ⟨g, 0, none⟩ ∧ W2.cell? ⟨g, i, none⟩ = some u)) := hide (both_at HE1.out.2.2 HE1.out.1 HE1.out.2.1)
          go_wp2_with fail
          go_loopw [8, 10] (fun vg i wr => ∃ (j : Nat) (G : List Value), i = .int .i64 (j : Int) ∧ Hid (j ≤ 20 ∧ G.length = m + j) ∧ Hid (O2 B w0 wr vg (.slice ab m cb) G Z (PQ fA 77 m j) (PQ fB (-77) m 0)) ∧ Hid (SeeB aa ab Y Z wr) ∧ Hid (G.take m = Y)) (fun _ i _ => 20 - (intOf i).toNat)
          case atStart => exact ⟨0, Y, rfl, hide ⟨Nat.zero_le _, HE1.out.1⟩, hide HE1.out.2.2, hide HCA.out, hide (List.take_of_length_le (Nat.le_of_eq HE1.out.1))⟩
          case round =>
            obtain ⟨j, G, rfl, HJ, HE0, HSE, HTK⟩ := hrel
            by_cases hj20 : j < 20
            · have wk := wrap_up (n := 20) hj20 (by decide)
              have j1 : (j : Int) < 20 := by omega
              obtain ⟨ag, cg, hu⟩ := owns_slice HE0.out.a
              obtain ⟨gl, hgl⟩ : ∃ gl, G.length = gl := ⟨_, rfl⟩
              rw [hgl] at hu
              subst hu
              have hbA := (Below.refl wr.heap.size wr).alloc (Nat.le_refl _) (.cells #[.int .i64 77] 3)
              have hbB := hbA.alloc hbA.size (.cells #[.slice (some ⟨wr.heap.size, 0, none⟩) 1 1] 41)
              have HE1 := hide (HE0.out.later hbB)
              have HLT := hide ((Lt.new wr 77).later ((Below.refl _ _).alloc (Nat.le_refl _) (.cells #[.slice (some ⟨wr.heap.size, 0, none⟩) 1 1] 41)))
              have HKP := hide (fun g i u (h : wr.cell? ⟨g, i, none⟩ = some u) => (hbB.cell (p := ⟨g, i, none⟩) (cell_blk h)).trans h)
              have HGL := hide hgl
              clear hbA hbB hgl
              go_wp2_with (at_builtin; refine app_rows rfl _ _ rfl B _ G (.slice (some ⟨wr.heap.size, 0, none⟩) 1 1) _ rfl rfl HE1.out.a rfl ?x2 ?x3 ?x4 ?_)
              case x2 => exact cell_two wr _ _
              case x3 => exact HE1.out.bs
              case x4 => exact few_rows HJ.out.2 HN.out.2.2 hj20
              intro v' w' hO' hg' hk'
              have HE2 := hide (HE1.out.pushA HJ.out.2 HLT.out (by rw [List.length_append]; exact hO') hg')
              have HSE2 : Hid (SeeB aa ab Y Z w') := hide (HSE.out.later fun g i u hi hc => hk' g i u (by rw [HJ.out.2]; rcases hi with hi | hi <;> (first | rw [HYZ.out.1] at hi | rw [HYZ.out.2] at hi) <;> omega) (HKP.out g i u hc))
              clear hO' hg' hk' HE1 HE0 HSE
              go_wp2_with fail
              go_roundw
              case rel => exact ⟨j + 1, _, by first | exact iv_succ wk | rfl, hide ⟨hj20, by rw [List.length_append, HJ.out.2]; rfl⟩, HE2, HSE2, hide (by rw [List.take_append_of_le_length (by rw [HJ.out.2]; omega)]; exact HTK.out)⟩
              case measure => first | exact meas_j wk hj20 | (simp [intOf]; omega)
            · have HE3 : Hid (∃ G : List Value, G.length = m + 20 ∧ G.take m = Y ∧ O2 B w0 wr (.slice ab m cb) u8 Z G (PQ fB (-77) m 0) (PQ fA 77 m 20)) := hide ⟨G, by have := HJ.out; omega, HTK.out, by have h := HE0.out; rw [show j = 20 by have := HJ.out.1; omega] at h; exact h.symm⟩
              have HSE2 := hide HSE.out
              obtain ⟨ag, cg, hu⟩ := owns_slice HE0.out.a
              obtain ⟨mg, hmg⟩ : ∃ mg, G.length = mg := ⟨_, rfl⟩
              rw [hmg] at hu
              have HMG : Hid (mg = m + 20) := hide (by rw [← hmg]; have := HJ.out; omega)
              subst hu
              obtain ⟨W3, hW3⟩ : ∃ W3, W3 = wr := ⟨wr, rfl⟩
              subst hW3
              clear HE0 HJ HSE HTK hmg HE1 HCA
              go_wp2_with fail
              go_loopw [9, 11] (fun vg i wr => ∃ (j : Nat) (G H : List Value), i = .int .i64 (j : Int) ∧ Hid (j ≤ 20 ∧ H.length = m + j ∧ G.length = m + 20) ∧ Hid (O2 B w0 wr vg (.slice ag mg cg) H G (PQ fB (-77) m j) (PQ fA 77 m 20)) ∧ Hid (SeeB aa ab Y Z wr) ∧ Hid (H.take m = Z ∧ G.take m = Y)) (fun _ i _ => 20 - (intOf i).toNat)
              case atStart =>
                obtain ⟨G, h1, h2, h3⟩ := HE3.out
                exact ⟨0, G, Z, rfl, hide ⟨Nat.zero_le _, HYZ.out.2, h1⟩, hide h3, HSE2, hide ⟨List.take_of_length_le (Nat.le_of_eq HYZ.out.2), h2⟩⟩
              case round =>
                clear HE3 HSE2
                obtain ⟨j, G, H, rfl, HJ, HE0, HSE, HTK⟩ := hrel
                by_cases hj20 : j < 20
                · have wk := wrap_up (n := 20) hj20 (by decide)
                  have j1 : (j : Int) < 20 := by omega
                  obtain ⟨ah, ch, hu⟩ := owns_slice HE0.out.a
                  obtain ⟨hl, hhl⟩ : ∃ hl, H.length = hl := ⟨_, rfl⟩
                  rw [hhl] at hu
                  subst hu
                  have hbA := (Below.refl wr.heap.size wr).alloc (Nat.le_refl _) (.cells #[.int .i64 (-77)] 3)
                  have hbB := hbA.alloc hbA.size (.cells #[.slice (some ⟨wr.heap.size, 0, none⟩) 1 1] 41)
                  have HE1 := hide (HE0.out.later hbB)
                  have HLT := hide ((Lt.new wr (-77)).later ((Below.refl _ _).alloc (Nat.le_refl _) (.cells #[.slice (some ⟨wr.heap.size, 0, none⟩) 1 1] 41)))
                  have HKP := hide (fun g i u (h : wr.cell? ⟨g, i, none⟩ = some u) => (hbB.cell (p := ⟨g, i, none⟩) (cell_blk h)).trans h)
                  clear hbA hbB hhl
                  go_wp2_with (at_builtin; refine app_rows rfl _ _ rfl B _ H (.slice (some ⟨wr.heap.size, 0, none⟩) 1 1) _ rfl rfl HE1.out.a rfl ?y2 ?y3 ?y4 ?_)
                  case y2 => exact cell_two wr _ _
                  case y3 => exact HE1.out.bs
                  case y4 => exact few_rows HJ.out.2.1 HN.out.2.2 hj20
                  intro v' w' hO' hg' hk'
                  have HE2 := hide (HE1.out.pushA HJ.out.2.1 HLT.out (by rw [List.length_append]; exact hO') hg')
                  have HSE2 : Hid (SeeB aa ab Y Z w') := hide (HSE.out.later fun g i u hi hc => hk' g i u (by rw [HJ.out.2.1]; rcases hi with hi | hi <;> (first | rw [HYZ.out.1] at hi | rw [HYZ.out.2] at hi) <;> omega) (HKP.out g i u hc))
                  clear hO' hg' hk' HE1 HE0 HSE
                  go_wp2_with fail
                  go_roundw
                  case rel => exact ⟨j + 1, G, _, by first | exact iv_succ wk | rfl, hide ⟨hj20, by rw [List.length_append, HJ.out.2.1]; rfl, HJ.out.2.2⟩, HE2, HSE2, hide ⟨by rw [List.take_append_of_le_length (by rw [HJ.out.2.1]; omega)]; exact HTK.out.1, HTK.out.2⟩⟩
                  case measure => first | exact meas_j wk hj20 | (simp [intOf]; omega)
                · have HE3 : Hid (H.length = m + 20 ∧ G.length = m + 20 ∧ H.take m = Z ∧ G.take m = Y ∧ O2 B w0 wr u9 (.slice ag mg cg) H G (PQ fB (-77) m 20) (PQ fA 77 m 20)) := hide ⟨by have := HJ.out; omega, HJ.out.2.2, HTK.out.1, HTK.out.2, by have h := HE0.out; rw [show j = 20 by have := HJ.out.1; omega] at h; exact h⟩
                  have HSE2 := hide HSE.out
                  obtain ⟨ah, ch, hu⟩ := owns_slice HE0.out.a
                  obtain ⟨mh, hmh⟩ : ∃ mh, H.length = mh := ⟨_, rfl⟩
                  rw [hmh] at hu
                  have HMH : Hid (mh = m + 20) := hide (by rw [← hmh]; have := HJ.out; omega)
                  subst hu
                  obtain ⟨W4, hW4⟩ : ∃ W4, W4 = wr := ⟨wr, rfl⟩
                  subst hW4
                  clear HE0 HJ HSE HTK hmh
                  go_wp2_with fail
                  go_loopw [12] (fun i wr => ∃ (j : Nat), i = .int .i64 (j : Int) ∧ Hid (j ≤ m) ∧ wr = W4) (fun i _ => m - (intOf i).toNat)
                  case atStart => exact ⟨0, rfl, hide (Nat.zero_le _), rfl⟩
                  case round =>
                    obtain ⟨j, rfl, HJ, hw⟩ := hrel
                    have hw' := hw.symm
                    subst hw'
                    clear hw
                    by_cases hjm : j < m
                    · obtain ⟨ga, gb, qa, qb, rfl, rfl, c1, c2, c3, c4⟩ := see5 HE3.out.2.2.2.2 HE3.out.2.2.1 HE3.out.2.2.2.1 HSE2.out hjm
                      have wk := wrap_up hjm (Nat.le_trans HN.out.2.2 (by decide))
                      obtain ⟨n1, n2⟩ := neg_up (Nat.le_trans (Nat.le_of_lt hjm) HN.out.2.2)
                      have j0 : (0 : Int) ≤ (j : Int) := Int.natCast_nonneg _
                      have j1 : (j : Int) < (m : Int) := Int.ofNat_lt.2 hjm
                      go_wp2_with fail
                      go_roundw
                      case rel => exact ⟨j + 1, iv_succ wk, hide hjm, by first | trivial | rfl⟩
                      case measure => exact meas_j wk hjm
                    · go_wp2_with fail
                      go_loopw [13] (fun i wr => ∃ (j : Nat), i = .int .i64 (j : Int) ∧ Hid (j ≤ 20) ∧ wr = W4) (fun i _ => 20 - (intOf i).toNat)
                      case atStart => exact ⟨0, rfl, hide (Nat.zero_le _), rfl⟩
                      case round =>
                        obtain ⟨j, rfl, HJ6, hw⟩ := hrel
                        have hw' := hw.symm
                        subst hw'
                        clear hw
                        by_cases hj20 : j < 20
                        · obtain ⟨gg, gh, qg, qh, rfl, rfl, c1, c2, c3, c4⟩ := see6 HE3.out.2.2.2.2 HMG.out HMH.out hj20
                          have wk := wrap_up (n := 20) hj20 (by decide)
                          have wt := wrap_two HN.out.2.2 hj20
                          have j1 : (j : Int) < 20 := by omega
                          have k0 : (0 : Int) ≤ ((m + j : Nat) : Int) := Int.natCast_nonneg _
                          have k1 : ((m + j : Nat) : Int) < (mg : Int) := by rw [HMG.out]; omega
                          have k2 : ((m + j : Nat) : Int) < (mh : Int) := by rw [HMH.out]; omega
                          go_wp2_with fail
                          go_roundw
                          case rel => exact ⟨j + 1, by first | exact iv_succ wk | rfl, hide hj20, by first | trivial | rfl⟩
                          case measure => first | exact meas_j wk hj20 | (simp [intOf]; omega)
                        · go_wp2_with fail
                          go_ret
                          exact ⟨rfl, HE3.out.2.2.2.2.low⟩
end Go.Proofs.YtcdhblfefpkjgaaDoor
namespace Go.Proofs.YtcdhblfefpkjgaaDoor
open Go.RowKit

theorem AnsR.rng {R : List (List UInt8)} {T : List (List Lk)} {pr : Nat → Int} {X : List (List Nat)} {b : Int × Int × Int} (h : AnsR R T pr X b) : 0 ≤ b.1 ∧ b.1 ≤ 24 := by
  cases h with
  | many h => exact ⟨by decide, by decide⟩
  | twice h x p hx hm ho => exact ⟨by show (0 : Int) ≤ 11; decide, by show (11 : Int) ≤ 24; decide⟩
  | link h ho x i l q no hl hq hr hw => dsimp only; rcases hw with ⟨_, e⟩ | ⟨_, _, e⟩ <;> omega
  | loop => exact ⟨by decide, by decide⟩
  | good => exact ⟨by decide, by decide⟩
theorem AnsR.few {R : List (List UInt8)} {T : List (List Lk)} {pr : Nat → Int} {X : List (List Nat)} {b : Int × Int × Int} (h : AnsR R T pr X b) : X.length ≤ 4096 := by
  cases h with
  | good h ho hr row hg hn hl =>
    rw [List.length_map, hl]
    exact Nat.le_trans (hsT_len _ _) (tooB_no h).1
  | _ => exact Nat.zero_le _
set_option maxRecDepth 100000 in
set_option maxHeartbeats 1000000 in
theorem told3_any (b : Int × Int × Int) (w : World) (h0 : 0 ≤ b.1) (h1 : b.1 ≤ 24) (hE : ErrType w) :
    Calls Tryd.prog 8 #[erR b, .int .i64 b.1, .int .i64 b.2.1, .int .i64 b.2.2] w fun e w' => e = .returned (.bool true) ∧ Below w.heap.size w w' := by
  obtain ⟨no, ln, k⟩ := b
  dsimp only at h0 h1 ⊢
  by_cases hc : no = 10 ∨ no = 11 ∨ no = 24
  · have HA := hide (at_fault no ln k w (by omega) h1 hE)
    rw [show erR (no, ln, k) = .iface 80 (.agg #[.int .i64 no, .int .i64 ln, .int .i64 k]) from if_pos hc]
    unfold fltV at HA
    clear h0 h1 hE
    obtain rfl | rfl | rfl := hc <;>
    · go_enter Tryd.func8, Tryd.ntmps8
      go_wp2_with fail
      refine HA.out.mono ?_
      rintro e w1 ⟨rfl, hb⟩
      have HB := hide hb
      clear hb
      go_wp2_with fail
      go_ret
      exact ⟨rfl, HB.out⟩
  · have HA := hide (plain_errV no no w h0 h1 hE)
    rw [show (no == no) = true by simp] at HA
    rw [show erR (no, ln, k) = errV no from if_neg hc]
    have e1 : (no == 10) = false := by rw [beq_eq_false_iff_ne]; omega
    have e2 : (no == 11) = false := by rw [beq_eq_false_iff_ne]; omega
    have e3 : (no == 24) = false := by rw [beq_eq_false_iff_ne]; omega
    generalize errV no = ev at *
    clear h0 h1 hE hc
    go_enter Tryd.func8, Tryd.ntmps8
    go_wp2_with fail
    refine HA.out.mono ?_
    rintro e w1 ⟨rfl, hb⟩
    have HB := hide hb
    clear hb
    go_wp2_with fail
    go_ret
    exact ⟨rfl, HB.out⟩
/-- Where the rows lie. -/
theorem RW.at {w : World} {B n cap : Nat} {a : Option Addr} {TL : List (Value × List Int)} (h : RW w B (.slice a n cap) TL) {k : Nat} {u : Value × List Int} (hk : TL[k]? = some u) : ∃ g, a = some ⟨g, 0, none⟩ ∧ g < w.heap.size ∧ w.cell? ⟨g, k, none⟩ = some u.1 := by
  have hlen : (TL.map (·.1)).length = TL.length := by simp
  have hr := h.row
  rw [← hlen] at hr
  obtain ⟨_, _, e⟩ := owns_slice hr
  have hn : n = (TL.map (·.1)).length := by injection e
  obtain ⟨g, rfl⟩ := own_base hr (by rw [hn, hlen]; have := (List.getElem?_eq_some_iff.1 hk).1; omega)
  exact ⟨g, rfl, (World.ownsRow.lt hr g rfl).2, own_at hr (by rw [List.getElem?_map, hk]; rfl)⟩
theorem snd_same {TO TW : List (Value × List Int)} (he : TO.map (·.2) = TW.map (·.2)) {k : Nat} {u : Value × List Int} (hu : TO[k]? = some u) : ∃ u', TW[k]? = some u' ∧ u'.2 = u.2 := by
  have h1 : (TO.map (·.2))[k]? = some u.2 := by rw [List.getElem?_map, hu]; rfl
  rw [he, List.getElem?_map] at h1
  cases hw : TW[k]? with
  | none => rw [hw] at h1; cases h1
  | some u' => rw [hw] at h1; exact ⟨u', rfl, Option.some.inj h1⟩
set_option maxRecDepth 100000 in
set_option maxHeartbeats 2000000 in
theorem sameRows_any (w : World) (B C : Nat) (va vb : Value) (TO TW : List (Value × List Int)) (hO : RW w B va TO) (hW : RW w C vb TW) (he : TO.map (·.2) = TW.map (·.2)) (hl : TO.length ≤ 4096) :
    Calls Tryd.prog 9 #[va, vb] w fun e w' => e = .returned (.bool true) ∧ Below w.heap.size w w' := by
  obtain ⟨n, hn⟩ : ∃ n, TO.length = n := ⟨_, rfl⟩
  have hn' : TW.length = n := by rw [← hn]; have := congrArg List.length he; simpa using this.symm
  obtain ⟨aa, cap, hva⟩ := owns_slice hO.row
  obtain ⟨ab, cap', hvb⟩ := owns_slice hW.row
  rw [hn] at hva
  rw [hn'] at hvb
  subst hva
  subst hvb
  have HO := hide hO
  have HW := hide hW
  have HE := hide he
  have HN := hide (And.intro hn hn')
  have HL : Hid (n ≤ 4096) := hide (by rw [← hn]; exact hl)
  clear hO hW he hn hn' hl
  have hne : ((n : Int) != (n : Int)) = false := by simp
  go_enter Tryd.func9, Tryd.ntmps9
  go_wp2_with fail
  go_loopw [5] (fun i wr => ∃ k : Nat, k ≤ n ∧ i = .int .i64 (k : Int) ∧ Hid (Below w.heap.size w wr)) (fun i _ => n - (intOf i).toNat)
  case atStart => exact ⟨0, Nat.zero_le _, rfl, hide (Below.refl _ _)⟩
  case round =>
    obtain ⟨k, hk, rfl, HB⟩ := hrel
    by_cases hlt : k < n
    · obtain ⟨u, hu⟩ : ∃ u, TO[k]? = some u := ⟨_, List.getElem?_eq_getElem (by rw [HN.out.1]; exact hlt)⟩
      obtain ⟨u', hu', hs⟩ := snd_same HE.out hu
      obtain ⟨g, rfl, hgl, hgc⟩ := HO.out.at hu
      obtain ⟨g', rfl, hgl', hgc'⟩ := HW.out.at hu'
      have z0 : wr.cell? ⟨g, k, none⟩ = some u.1 := (HB.out.cell (p := ⟨g, _, none⟩) hgl).trans hgc
      have y0 : wr.cell? ⟨g', k, none⟩ = some u'.1 := (HB.out.cell (p := ⟨g', _, none⟩) hgl').trans hgc'
      have HC := hide (fun W (hb : Below w.heap.size w W) => by
        have h1 := ((HO.out.own u (List.mem_of_getElem? hu)).later hb)
        have h2 := ((HW.out.own u' (List.mem_of_getElem? hu')).later hb)
        have := IN.sameM_any u.1 u'.1 u.2 u'.2 W (IN.OM.rb h1) (IN.OM.rb h2) (Nat.le_trans (HO.out.len u (List.mem_of_getElem? hu)) (by decide)) (Nat.le_trans (HW.out.len u' (List.mem_of_getElem? hu')) (by decide))
        rw [decide_eq_true hs.symm] at this
        exact this)
      obtain ⟨a1, h1⟩ : ∃ a, u.1 = a := ⟨_, rfl⟩
      obtain ⟨a2, h2⟩ : ∃ a, u'.1 = a := ⟨_, rfl⟩
      rw [h1] at z0 HC
      rw [h2] at y0 HC
      have wk := wrap_up hlt (Nat.le_trans HL.out (by decide))
      have i0 : (0 : Int) ≤ (k : Int) := Int.natCast_nonneg _
      have i1 : (k : Int) < (n : Int) := Int.ofNat_lt.2 hlt
      have HLT := hide hlt
      have HGL : Hid (g < wr.heap.size ∧ g' < wr.heap.size) := hide ⟨Nat.lt_of_lt_of_le hgl HB.out.size, Nat.lt_of_lt_of_le hgl' HB.out.size⟩
      clear hu hu' hs h1 h2 hgc hgc' hgl hgl'
      go_wp2_with fail
      replace HB := hide (HB.out.trans (((Below.refl wr.heap.size wr).drew).mono HB.out.size))
      replace HGL : Hid (g < wr.drew.heap.size ∧ g' < wr.drew.heap.size) := hide HGL.out
      have HC1 := hide (HC.out wr.drew HB.out)
      have hHeld : Hid (wr.drew.cell? ⟨g, k, none⟩ = some a1 ∧ wr.drew.cell? ⟨g', k, none⟩ = some a2) := hide ⟨z0, y0⟩
      refine s_begins (S := fun W => W.cell? ⟨g, k, none⟩ = some a1 ∧ W.cell? ⟨g', k, none⟩ = some a2) [] 10 #[false, false, false, false, false, false, false, false, false, false] (by kernel_rfl) (by kernel_rfl) (by kernel_rfl) ?_
      refine sk0 (v := ?_) 0 17 #[true, false, false, false, false, false, false, false, false, false] rfl rfl (by kernel_rfl) (by kernel_rfl) (by kernel_rfl) (by kernel_rfl) (fun _ _ _ h => h) (by kernel_rfl) (by rfl) ?hy (fun _ => hHeld.out) ?_
      case hy => intro W; first | (go_simp; done) | (go_simp; with_reducible rfl)
      simp only [List.setIfInBounds_toArray, List.set_cons_zero, List.set_cons_succ]
      refine sk0 (v := ?_) 1 18 #[true, true, false, false, false, false, false, false, false, false] rfl rfl (by kernel_rfl) (by kernel_rfl) (by kernel_rfl) (by kernel_rfl) (fun _ _ _ h => h) (by kernel_rfl) (by rfl) ?hy (fun _ => hHeld.out) ?_
      case hy => intro W; first | (go_simp; done) | (go_simp; with_reducible rfl)
      simp only [List.setIfInBounds_toArray, List.set_cons_zero, List.set_cons_succ]
      refine sk0 (v := ?_) 2 19 #[true, true, true, false, false, false, false, false, false, false] rfl rfl (by kernel_rfl) (by kernel_rfl) (by kernel_rfl) (by kernel_rfl) (fun _ _ _ h => h) (by kernel_rfl) (by rfl) ?hy (fun _ => hHeld.out) ?_
      case hy => intro W; first | (go_simp; done) | (go_simp; with_reducible rfl)
      simp only [List.setIfInBounds_toArray, List.set_cons_zero, List.set_cons_succ]
      refine sk1 (v := ?_) 3 20 #[true, true, true, true, false, false, false, false, false, false] rfl rfl (by kernel_rfl) (by kernel_rfl) (by kernel_rfl) (by kernel_rfl) (by kernel_rfl) (by kernel_rfl) (fun _ _ _ h => h) (by kernel_rfl) (by rfl) ?hy hHeld.out ?_
      case hy => rintro W ⟨e1, e2⟩; first | (go_simp; done) | (go_simp; with_reducible rfl)
      simp only [List.setIfInBounds_toArray, List.set_cons_zero, List.set_cons_succ]
      refine sk0 (v := ?_) 4 21 #[true, true, true, true, true, false, false, false, false, false] rfl rfl (by kernel_rfl) (by kernel_rfl) (by kernel_rfl) (by kernel_rfl) (fun _ _ _ h => h) (by kernel_rfl) (by rfl) ?hy (fun _ => hHeld.out) ?_
      case hy => intro W; first | (go_simp; done) | (go_simp; with_reducible rfl)
      simp only [List.setIfInBounds_toArray, List.set_cons_zero, List.set_cons_succ]
      refine sk0 (v := ?_) 5 22 #[true, true, true, true, true, true, false, false, false, false] rfl rfl (by kernel_rfl) (by kernel_rfl) (by kernel_rfl) (by kernel_rfl) (fun _ _ _ h => h) (by kernel_rfl) (by rfl) ?hy (fun _ => hHeld.out) ?_
      case hy => intro W; first | (go_simp; done) | (go_simp; with_reducible rfl)
      simp only [List.setIfInBounds_toArray, List.set_cons_zero, List.set_cons_succ]
      refine sk0 (v := ?_) 6 23 #[true, true, true, true, true, true, true, false, false, false] rfl rfl (by kernel_rfl) (by kernel_rfl) (by kernel_rfl) (by kernel_rfl) (fun _ _ _ h => h) (by kernel_rfl) (by rfl) ?hy (fun _ => hHeld.out) ?_
      case hy => intro W; first | (go_simp; done) | (go_simp; with_reducible rfl)
      simp only [List.setIfInBounds_toArray, List.set_cons_zero, List.set_cons_succ]
      refine sk1 (v := ?_) 7 24 #[true, true, true, true, true, true, true, true, false, false] rfl rfl (by kernel_rfl) (by kernel_rfl) (by kernel_rfl) (by kernel_rfl) (by kernel_rfl) (by kernel_rfl) (fun _ _ _ h => h) (by kernel_rfl) (by rfl) ?hy hHeld.out ?_
      case hy => rintro W ⟨e1, e2⟩; first | (go_simp; done) | (go_simp; with_reducible rfl)
      simp only [List.setIfInBounds_toArray, List.set_cons_zero, List.set_cons_succ]
      refine s_ready 8 #[true, true, true, true, true, true, true, true, true, false] rfl (by kernel_rfl) (by kernel_rfl) (by rfl) (fun K hK => ?_)
      go_simp
      refine HC1.out.mono ?_
      rintro e w2 ⟨rfl, b2⟩
      have HB2 := hide (HB.out.trans (b2.mono HB.out.size))
      have HS1 := hide (And.intro ((b2.cell (p := ⟨g, k, none⟩) HGL.out.1).trans hHeld.out.1) ((b2.cell (p := ⟨g', k, none⟩) HGL.out.2).trans hHeld.out.2))
      clear b2
      refine hK.out _ _ (fun _ => HS1.out) ?_
      clear hK K
      refine s_ready 9 #[true, true, true, true, true, true, true, true, true, true] rfl (by kernel_rfl) (by kernel_rfl) (by rfl) (fun K hK => ?_)
      go_simp
      refine hK.out _ _ (fun _ => HS1.out) ?_
      clear hK K
      refine s_done (by kernel_rfl) ?_ _
      clear HC1 z0 y0 HS1 hHeld
      go_wp2_with fail
      go_roundw
      case rel => exact ⟨k + 1, HLT.out, iv_succ wk, HB2⟩
      case measure => exact meas_j wk HLT.out
    · have e : k = n := by omega
      subst e
      go_wp2_with fail
      go_ret
      exact ⟨rfl, HB.out⟩
end Go.Proofs.YtcdhblfefpkjgaaDoor
