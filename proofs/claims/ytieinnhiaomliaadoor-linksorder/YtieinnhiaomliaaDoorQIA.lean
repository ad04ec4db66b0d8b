/-
  My own text: lists of numbers that were handed out have memory of their own (printed by mkrowI.py).
-/
import Derived.Test.YtieinnhiaomliaaDoorQIL
namespace Go.Proofs.YtieinnhiaomliaaDoor.IN
open Go.RowKit Go.Extern

theorem Tryd.infoBS : (Tryd.prog.info? 23).map (fun i => (i.zero, i.size, i.bytes)) = some (some (.slice none 0 0), 1, 24) := by kernel_rfl
/-- The marks of list k. -/
def mks (k n : Nat) : List Int := (List.range n).map fun i : Nat => mkB (k : Int) (i : Int)
theorem mks_len (k n : Nat) : (mks k n).length = n := by simp [mks]
theorem mks_at {k n j : Nat} (h : j < n) : (mks k n)[j]? = some (mkB (k : Int) (j : Int)) := by unfold mks; rw [List.getElem?_map, List.getElem?_range h]; rfl
theorem mks_succ (k n : Nat) : mks k (n + 1) = mks k n ++ [mkB (k : Int) (n : Int)] := by unfold mks; rw [List.range_succ]; simp

/-- A byte behind an own row: cells below the row's end stay. -/
theorem wp_append_kept {w : World} {ops : Array Oper} {rest : List Oper} {o : Oper} {a : Act} {Q : Exit → Act → World → Prop} (hgd : o.guard = none) (s x : Operand)
    (ho : o.op = .call { callee := .builtin .append, args := #[s, x], argTypes := #[23, 23] }) (B : Nat) (v : Value) (l : List Int) (c : Int) (b : Nat) (hs : a.eval s = v) (hx : a.eval x = .slice (some ⟨b, 0, none⟩) 1 1)
    (hown : OM w B v l) (hc : w.cell? ⟨b, 0, none⟩ = some (.int .i64 c)) (hB : B ≤ w.heap.size) (hsz : l.length + 1 ≤ 17592186044416)
    (h : ∀ v' w', OM w' B v' (l ++ [c]) → Grew w v w' v' → (∀ P j u, j < l.length → w.cell? ⟨P, j, none⟩ = some u → w'.cell? ⟨P, j, none⟩ = some u) → wpList Tryd.prog ops Q rest (a.put o.dst v') w') : wpList Tryd.prog ops Q (o :: rest) a w := by
  obtain ⟨i0, hi, hz0, hz1, hz2⟩ := info_parts Tryd.infoB
  have hnews : ∀ j u, ([Value.int .i64 c] : List Value)[j]? = some u → w.cell? ((⟨b, 0, none⟩ : Addr).add j) = some u := by
    intro j u hj
    match j, hj with
    | 0, hj => simp at hj; subst hj; simpa [Addr.add] using hc
  have h1 : ∀ u ∈ ([Value.int .i64 c] : List Value), u.oneCell' = true := by intro u hu; simp at hu; subst hu; rfl
  have hmc : mc (l ++ [c]) = mc l ++ [Value.int .i64 c] := by rw [mc_app]; rfl
  have hlen : (l ++ [c]).length = l.length + 1 := by simp
  have hfull : ∀ (ao : Option Addr) (cap : Nat), v = .slice ao l.length cap → (ao = none → l.length = 0 ∧ cap = 0) → (∀ q, ao = some q → ∀ j u, (mc l)[j]? = some u → w.cell? (q.add j) = some u) → cap < l.length + 1 → wpList Tryd.prog ops Q (o :: rest) a w := by
    intro ao cap hv hno hold hf
    refine wpList_append_grows w hgd s x 23 ho 3 i0 (.int .i64 0) 1 8 Tryd.underlying23 hi hz0 hz1 hz2 rfl (by decide) ao l.length cap (mc l) (hs.trans hv) hno (by rw [mc_len]; omega) hold ⟨b, 0, none⟩ 1 1 [.int .i64 c] hx rfl hnews h1 hf (by unfold maxLen; omega) (by omega) ?_
    intro v' w' hown' hg
    have hO : OM w' w.heap.size v' (l ++ [c]) := by unfold OM; rw [hlen, hmc]; exact hown'
    refine h v' w' (hO.base fun g hg' => ?_) ⟨⟨hg.os, hg.tape, hg.output, hg.size, fun k hk _ => hg.block k hk (by intro e; cases e)⟩, fun g hg' => .inr (World.ownsRow.lt hO g hg').1⟩ (fun P j u hj hu => hg.cell hu (by intro e; cases e))
    have := (World.ownsRow.lt hO g hg').1
    omega
  rcases hown.2 with ⟨hv, h0⟩ | ⟨g, cap, cur, hv, hb, hh, hn2, hn3⟩
  · refine hfull none 0 (by rw [hv, h0]) (fun _ => ⟨h0, rfl⟩) (fun q hq => by cases hq) (by omega)
  · by_cases hroom : l.length + 1 ≤ cap
    · have hown2 := hown
      unfold OM at hown2
      rw [hv] at hown2
      refine wpList_append_own_spare w hgd s x 23 ho B 3 i0 1 Tryd.underlying23 hi hz1 g l.length cap (mc l) (hs.trans hv) hown2 ⟨b, 0, none⟩ 1 1 [.int .i64 c] hx rfl hnews h1 hroom ?_
      intro w' hown' hg
      have hO : OM w' B (.slice (some ⟨g, 0, none⟩) (l.length + 1) cap) (l ++ [c]) := by unfold OM; rw [hlen, hmc]; exact hown'
      refine h _ w' hO ⟨by rw [hv]; exact hg, fun g' hg' => .inl (by rw [hv]; exact hg')⟩ (fun P j u hj hu => ?_)
      by_cases e : P = g
      · subst e
        rw [World.ownsRow.cellAt hown2 j (by omega)] at hu
        rw [World.ownsRow.cellAt hown' j (by omega), List.getElem?_append_left (by rw [mc_len]; exact hj)]
        exact hu
      · exact hg.cell hu (by intro h2; exact e (Option.some.inj h2))
    · refine hfull (some ⟨g, 0, none⟩) cap hv (fun hq => by cases hq) (fun q hq => ?_) (by omega)
      cases hq
      exact World.ownsRow.cells hown (by rw [hv]; rfl)

/-- Lists of bytes in a list at L, each with memory of its own. -/
structure AllB (w : World) (B L K : Nat) (av : Nat → Option Addr) (n c : Nat → Nat) (r : Nat → List Int) : Prop where
  lt : L < w.heap.size
  cells : ∀ k, k < K → w.cell? ⟨L, k, none⟩ = some (.slice (av k) (n k) (c k))
  own : ∀ k, k < K → OM w B (.slice (av k) (n k) (c k)) (r k)
  notL : ∀ k, k < K → (Value.slice (av k) (n k) (c k)).ownBlock ≠ some L
  apart : ∀ j k g, j < K → k < K → (Value.slice (av j) (n j) (c j)).ownBlock = some g → (Value.slice (av k) (n k) (c k)).ownBlock = some g → j = k
theorem AllB.len {w : World} {B L K : Nat} {av : Nat → Option Addr} {n c : Nat → Nat} {r : Nat → List Int} (h : AllB w B L K av n c r) {k : Nat} (hk : k < K) : (r k).length = n k := by
  obtain ⟨ad, cap, e⟩ := (h.own k hk).slice
  injection e with _ e2 _
  exact e2.symm
theorem AllB.at {w : World} {B L K : Nat} {av : Nat → Option Addr} {n c : Nat → Nat} {r : Nat → List Int} (h : AllB w B L K av n c r) {k i : Nat} (hk : k < K) (hi : i < n k) : ∃ P, av k = some ⟨P, 0, none⟩ ∧ B ≤ P ∧ P < w.heap.size ∧ P ≠ L := by
  have h1 := h.own k hk
  unfold OM at h1
  obtain ⟨g, cap, e, h2, h3⟩ := World.ownsRow.form h1 (by rw [h.len hk]; omega)
  have hn := h.notL k hk
  rw [e] at hn
  injection e with e1 e2 e3
  exact ⟨g, e1, h2, h3, fun e4 => hn (by rw [← e4]; rfl)⟩
theorem AllB.set {w : World} {B L K : Nat} {av : Nat → Option Addr} {n c : Nat → Nat} {r : Nat → List Int} (h : AllB w B L K av n c r) {k i P : Nat} (hk : k < K) (hi : i < n k) (hA : av k = some ⟨P, 0, none⟩) (x : Int) :
    AllB (w.setCell ⟨P, i, none⟩ (.int .i64 x)) B L K av n c (fun j => if j = k then (r k).set i x else r j) := by
  have h1 := h.own k hk
  have hl := h.len hk
  have hb : (Value.slice (av k) (n k) (c k)).ownBlock = some P := by rw [hA]; rfl
  unfold OM at h1
  rw [hA, hl] at h1
  obtain ⟨h2, h3⟩ := h1.stored i (.int .i64 x)
  refine ⟨by simpa using h.lt, fun j hj => h3.cell (h.cells j hj) (fun e => h.notL k hk (by rw [hb]; exact e.symm)), fun j hj => ?_, h.notL, h.apart⟩
  by_cases e : j = k
  · subst e
    rw [if_pos rfl]
    unfold OM
    rw [List.length_set, hl, mc_set, hA]
    exact h2
  · rw [if_neg e]
    exact ownsRow_setCell_other (h.own j hj) (fun e2 => e (h.apart j k P hj hk e2 hb)) _
theorem AllB.drew {w : World} {B L K : Nat} {av : Nat → Option Addr} {n c : Nat → Nat} {r : Nat → List Int} (h : AllB w B L K av n c r) : AllB w.drew B L K av n c r := ⟨h.lt, h.cells, h.own, h.notL, h.apart⟩
/-- The marks that are laid: all of the lists before k, i of list k. -/
def MkB (K : Nat) (n : Nat → Nat) (r : Nat → List Int) (k i : Nat) : Prop := ∀ j, j < K → ∀ m, m < n j → (j < k ∨ (j = k ∧ m < i)) → (r j)[m]? = some (mkB (j : Int) (m : Int))
theorem MkB.next {K : Nat} {n : Nat → Nat} {r : Nat → List Int} {k i : Nat} (h : MkB K n r k i) (hi : n k ≤ i) : MkB K n r (k + 1) 0 := by
  intro j hj m hm hl
  refine h j hj m hm ?_
  rcases hl with hl | hl
  · by_cases e : j = k
    · subst e; exact .inr ⟨rfl, by omega⟩
    · exact .inl (by omega)
  · omega
theorem MkB.set {K : Nat} {n : Nat → Nat} {r : Nat → List Int} {k i : Nat} (h : MkB K n r k i) (hl : (r k).length = n k) (hi : i < n k) : MkB K n (fun j => if j = k then (r k).set i (mkB (k : Int) (i : Int)) else r j) k (i + 1) := by
  intro j hj m hm hlt
  by_cases e : j = k
  · subst e
    simp only [if_true]
    by_cases e2 : m = i
    · subst e2
      rw [List.getElem?_set_self (by omega)]
    · rw [List.getElem?_set_ne (by omega)]
      exact h j hj m hm (.inr ⟨rfl, by omega⟩)
  · simp only [if_neg e]
    exact h j hj m hm (.inl (by omega))
theorem MkB.full {K : Nat} {n : Nat → Nat} {r : Nat → List Int} (h : MkB K n r K 0) {k : Nat} (hk : k < K) (hl : (r k).length = n k) : r k = mks k (n k) := by
  apply List.ext_getElem?
  intro m
  by_cases hm : m < n k
  · rw [h k hk m hm (.inl hk), mks_at hm]
  · rw [List.getElem?_eq_none (by omega), List.getElem?_eq_none (by rw [mks_len]; omega)]

/-- While the lists are grown: those grown, those still to grow, the old places. -/
structure GrB (w1 w2 : World) (B L K : Nat) (av : Nat → Option Addr) (n c : Nat → Nat) (gl : List Value) (k : Nat) : Prop where
  size : w1.heap.size ≤ w2.heap.size
  cells : ∀ j, j < K → w2.cell? ⟨L, j, none⟩ = some (.slice (av j) (n j) (c j))
  rest : ∀ j, k ≤ j → j < K → OM w2 B (.slice (av j) (n j) (c j)) (mks j (n j))
  marks : ∀ j, j < K → ∀ i, i < n j → ∀ P, av j = some ⟨P, 0, none⟩ → w2.cell? ⟨P, i, none⟩ = some (.int .i64 (mkB (j : Int) (i : Int)))
  done : ∀ j, j < k → ∃ g, gl[j]? = some g ∧ OM w2 B g (mks j (n j + 64)) ∧ ∀ b, g.ownBlock = some b → (Value.slice (av j) (n j) (c j)).ownBlock = some b ∨ w1.heap.size ≤ b
/-- What is known of the places. -/
structure PlB (w1 : World) (B L K : Nat) (av : Nat → Option Addr) (n c : Nat → Nat) : Prop where
  lt : L < w1.heap.size
  notL : ∀ k, k < K → (Value.slice (av k) (n k) (c k)).ownBlock ≠ some L
  apart : ∀ j k g, j < K → k < K → (Value.slice (av j) (n j) (c j)).ownBlock = some g → (Value.slice (av k) (n k) (c k)).ownBlock = some g → j = k
  below : ∀ k, k < K → ∀ g, (Value.slice (av k) (n k) (c k)).ownBlock = some g → B ≤ g ∧ g < w1.heap.size
  some : ∀ k, k < K → 0 < n k → ∃ P, av k = some ⟨P, 0, none⟩
theorem AllB.pl {w : World} {B L K : Nat} {av : Nat → Option Addr} {n c : Nat → Nat} {r : Nat → List Int} (h : AllB w B L K av n c r) : PlB w B L K av n c :=
  ⟨h.lt, h.notL, h.apart, fun k hk g hg => World.ownsRow.lt (h.own k hk) g hg, fun k hk hn => by obtain ⟨P, hP, _⟩ := h.at hk hn; exact ⟨P, hP⟩⟩
theorem AllB.gr {w : World} {B L K : Nat} {av : Nat → Option Addr} {n c : Nat → Nat} {r : Nat → List Int} (h : AllB w B L K av n c r) (hm : MkB K n r K 0) : GrB w w B L K av n c [] 0 := by
  refine ⟨Nat.le_refl _, h.cells, fun j _ hj => ?_, fun j hj i hi P hP => ?_, fun j hj => by omega⟩
  · rw [← hm.full hj (h.len hj)]; exact h.own j hj
  · have h1 := h.own j hj
    unfold OM at h1
    rw [hP, h.len hj] at h1
    rw [World.ownsRow.cellAt h1 i (by omega)]
    exact mc_at (hm j hj i hi (.inl hj))
/-- List k has been grown. -/
theorem GrB.step {w1 w2 w3 : World} {B L K : Nat} {av : Nat → Option Addr} {n c : Nat → Nat} {gl : List Value} {k : Nat} (hP : PlB w1 B L K av n c) (h : GrB w1 w2 B L K av n c gl k) (hk : k < K) (hl : gl.length = k) {g : Value}
    (ho : OM w3 B g (mks k (n k + 64))) (hg : Grew w2 (.slice (av k) (n k) (c k)) w3 g) (hm : ∀ i, i < n k → ∀ P, av k = some ⟨P, 0, none⟩ → w3.cell? ⟨P, i, none⟩ = some (.int .i64 (mkB (k : Int) (i : Int)))) : GrB w1 w3 B L K av n c (gl ++ [g]) (k + 1) := by
  refine ⟨Nat.le_trans h.size hg.grown.size, fun j hj => hg.grown.cell (h.cells j hj) (fun e => hP.notL k hk e.symm), fun j hkj hj => ?_, fun j hj i hi P hPj => ?_, fun j hj => ?_⟩
  · refine World.ownsRow.kept (h.rest j (by omega) hj) hg.grown ?_
    rcases e : (Value.slice (av j) (n j) (c j)).ownBlock with _ | b
    · exact .inl rfl
    · refine .inr (fun e2 => ?_)
      have := hP.apart j k b hj hk e e2.symm
      omega
  · by_cases e : j = k
    · subst e; exact hm i hi P hPj
    · refine hg.grown.cell (h.marks j hj i hi P hPj) (fun e2 => ?_)
      exact e (hP.apart j k P hj hk (by rw [hPj]; rfl) e2.symm)
  · by_cases e : j = k
    · subst e
      refine ⟨g, by rw [← hl]; simp, ho, fun b hb => ?_⟩
      rcases hg.lies b hb with h1 | h1
      · exact .inl h1
      · exact .inr (Nat.le_trans h.size h1)
    · obtain ⟨g', h1, h2, h3⟩ := h.done j (by omega)
      refine ⟨g', by rw [List.getElem?_append_left (by omega)]; exact h1, World.ownsRow.kept h2 hg.grown ?_, h3⟩
      rcases e2 : g'.ownBlock with _ | b
      · exact .inl rfl
      · refine .inr (fun e3 => ?_)
        rcases h3 b e2 with h4 | h4
        · exact e (hP.apart j k b (by omega) hk h4 e3.symm)
        · have := (hP.below k hk b e3.symm).2; omega
/-- Something else has grown. -/
theorem GrB.kept {w1 w2 w3 : World} {B L K : Nat} {av : Nat → Option Addr} {n c : Nat → Nat} {gl : List Value} {k : Nat} {row : Option Nat} (hP : PlB w1 B L K av n c) (h : GrB w1 w2 B L K av n c gl k) (hg : w2.grownBy w3 row) (hr : ∀ g, row = some g → w1.heap.size ≤ g ∧ ∃ cur fz, w2.heap[g]? = some (.cells cur 23 fz)) : GrB w1 w3 B L K av n c gl k := by
  have hne : ∀ v l, OM w2 B v l → v.ownBlock = none ∨ v.ownBlock ≠ row := by
    intro v l hv
    rcases e : v.ownBlock with _ | b
    · exact .inl rfl
    · refine .inr (fun e2 => ?_)
      obtain ⟨_, cu, fz, h1⟩ := hr b e2.symm
      obtain ⟨cu2, fz2, h2⟩ := hv.kind b e
      rw [h1] at h2
      injection h2 with h3
      injection h3 with _ h4 _
      exact absurd h4 (by decide)
  refine ⟨Nat.le_trans h.size hg.size, fun j hj => hg.cell (h.cells j hj) (fun e => ?_), fun j hkj hj => World.ownsRow.kept (h.rest j hkj hj) hg (hne _ _ (h.rest j hkj hj)), fun j hj i hi P hPj => hg.cell (h.marks j hj i hi P hPj) (fun e => ?_), fun j hj => ?_⟩
  · have := (hr L e.symm).1; have := hP.lt; omega
  · have := (hr P e.symm).1; have := (hP.below j hj P (by rw [hPj]; rfl)).2; omega
  · obtain ⟨g', h1, h2, h3⟩ := h.done j hj
    exact ⟨g', h1, World.ownsRow.kept h2 hg (hne _ _ h2), h3⟩
theorem ownsRow_kind {w : World} {B : Nat} {e : TypeId} {size : Nat} {v : Value} {n : Nat} {xs : List Value} (h : w.ownsRow B e size v n xs) : ∀ g, v.ownBlock = some g → ∃ c fz, w.heap[g]? = some (.cells c e fz) := by
  intro g hg
  rcases h.2 with ⟨rfl, _⟩ | ⟨g', cap, cur, rfl, hb, hh, h3⟩
  · cases hg
  · cases hg; exact ⟨cur, (0, 0), hh⟩
theorem grown_alloc (w : World) (o : Obj) : w.grownBy (w.alloc o) none := ⟨rfl, rfl, rfl, by simp, fun k hk _ => Below.heap_alloc _ _ _ hk⟩
theorem gs_kept {w1 w2 w3 : World} {B L K j : Nat} {av : Nat → Option Addr} {n c : Nat → Nat} {gs g : Value} {gl : List Value} (h : w2.ownsRow w1.heap.size 23 1 gs j gl) (hP : PlB w1 B L K av n c) (hj : j < K) (hg : Grew w2 (.slice (av j) (n j) (c j)) w3 g) : w3.ownsRow w1.heap.size 23 1 gs j gl := by
  refine World.ownsRow.kept h hg.grown ?_
  rcases e : gs.ownBlock with _ | b
  · exact .inl rfl
  · refine .inr fun e2 => ?_
    have h1 := (h.lt b e).1
    have h2 := (hP.below j hj b e2.symm).2
    omega
theorem gs_step {w1 w3 w5 : World} {B L K j m : Nat} {av : Nat → Option Addr} {n c : Nat → Nat} {gs : Value} {gl gl' : List Value} {o : Obj} (hP : PlB w1 B L K av n c) (h : GrB w1 w3 B L K av n c gl' m) (hO : w3.ownsRow w1.heap.size 23 1 gs j gl) (hg : (w3.alloc o).grownBy w5 gs.ownBlock) : GrB w1 w5 B L K av n c gl' m := by
  refine GrB.kept hP (GrB.kept hP h (grown_alloc w3 o) (fun g e => by cases e)) hg (fun g e => ?_)
  exact ⟨(World.ownsRow.lt (hO.alloc o) g e).1, ownsRow_kind (hO.alloc o) g e⟩
theorem gs_below {w w1 w2 w3 w5 : World} {B L K j : Nat} {av : Nat → Option Addr} {n c : Nat → Nat} {gs g : Value} {gl : List Value} {o : Obj} (hP : PlB w1 B L K av n c) (hj : j < K) (hB1 : B ≤ w1.heap.size) (h12 : w1.heap.size ≤ w2.heap.size) (hb : Below B w w2) (hW : Grew w2 (.slice (av j) (n j) (c j)) w3 g) (hO : w3.ownsRow w1.heap.size 23 1 gs j gl) (hg : (w3.alloc o).grownBy w5 gs.ownBlock) : Below B w w5 := by
  have h23 := hW.grown.size
  have h3 : Below B w w3 := hW.toBelow hb (by omega) (fun g e => (hP.below j hj g e).1)
  have h4 : Below B w (w3.alloc o) := h3.alloc (by omega) o
  refine h4.grown hg (by simp; omega) (fun g e => ?_)
  have := (World.ownsRow.lt (hO.alloc o) g e).1
  omega
theorem gs_sp {w w1 w2 w3 w5 : World} {K j : Nat} {av : Nat → Option Addr} {n c : Nat → Nat} {gs g : Value} {gl : List Value} {o : Obj} (hj : j < K) (h01 : w.heap.size ≤ w1.heap.size) (hb : Sp K av n c w w2) (hW : Grew w2 (.slice (av j) (n j) (c j)) w3 g) (hO : w3.ownsRow w1.heap.size 23 1 gs j gl) (hg : (w3.alloc o).grownBy w5 gs.ownBlock) : Sp K av n c w w5 := by
  have h2 := hb.size
  have h3 := hW.grown.size
  have h5 := hg.size
  have h4 : w3.heap.size ≤ (w3.alloc o).heap.size := by simp
  refine ⟨hg.os.trans (hW.grown.os.trans hb.os), hg.tape.trans (hW.grown.tape.trans hb.tape), hg.output.trans (hW.grown.output.trans hb.output), by omega, fun b hlt hn => ?_⟩
  have e1 := hb.block b hlt hn
  have e2 := hW.grown.block b (by omega) (fun e => hn j hj e.symm)
  have e3 : (w3.alloc o).heap[b]? = w3.heap[b]? := Below.heap_alloc _ _ _ (by omega)
  have e4 := hg.block b (by omega) (fun e => by
    have := (World.ownsRow.lt (hO.alloc o) b e.symm).1
    omega)
  rw [e4, e3, e2, e1]
theorem markInts_big (k i : Int) (w : World) (h1 : 0 ≤ k) (h2 : k ≤ 5864062014805) (h3 : -1125899906842624 ≤ i) (h4 : i ≤ 1125899906842624) :
    Calls Tryd.prog 26 #[.int .i64 k, .int .i64 i] w fun e w' => e = .returned (.int .i64 (mkB k i)) ∧ w' = w := by
  have HM : Hid (1000003 * (k + 1) + i = mkB k i) := rfl
  go_enter Tryd.func26, Tryd.ntmps26
  go_wp2
  go_ret
  exact ⟨ret_i (by rw [← HM.out]), rfl⟩
set_option maxRecDepth 100000 in
set_option maxHeartbeats 4000000 in
theorem apartInts_sp (B L K cL : Nat) (av : Nat → Option Addr) (n c : Nat → Nat) (r0 : Nat → List Int) (w : World) (hT : AllB w B L K av n c r0) (hN : ∀ k, n k ≤ 17592186044100) (hK : K ≤ 5864062014805) (hcL : K ≤ cL) (hBw : B ≤ w.heap.size) :
    Calls Tryd.prog 11 #[.slice (some ⟨L, 0, none⟩) K cL] w fun e w' => e = .returned (.bool true) ∧ Sp K av n c w w' := by
  obtain ⟨i2, hi2, hza2, hzb2, hzc2⟩ := info_parts Tryd.infoBS
  have HN := hide hN
  have HT := hide hT
  clear hT hN
  go_enter Tryd.func11, Tryd.ntmps11
  go_wp2_with fail
  go_loopw [3] (fun i wr => ∃ (k : Nat) (r : Nat → List Int), k ≤ K ∧ i = .int .i64 k ∧ Hid (AllB wr B L K av n c r) ∧ Hid (MkB K n r k 0) ∧ Sp K av n c w wr) (fun i _ => K - (intOf i).toNat)
  case atStart => exact ⟨0, r0, Nat.zero_le _, rfl, HT, hide (fun m _ j _ hl => by omega), Sp.refl _ _ _ _ _⟩
  case round =>
    clear HT
    obtain ⟨k, r, hk, rfl, HT, HM, hB⟩ := hrel
    by_cases hlt : k < K
    · have hn := HN.out k
      have hd : decide ((k : Int) < (K : Int)) = true := by rw [decide_eq_true_eq]; omega
      have hc := HT.out.cells k hlt
      go_wp2_with fail
      clear hc
      go_loopw [4] (fun i wr => ∃ (i' : Nat) (r : Nat → List Int), i' ≤ n k ∧ i = .int .i64 i' ∧ Hid (AllB wr B L K av n c r) ∧ Hid (MkB K n r k i') ∧ Sp K av n c w wr) (fun i _ => n k - (intOf i).toNat)
      case atStart => exact ⟨0, r, Nat.zero_le _, rfl, HT, HM, hB⟩
      case round =>
        clear HT HM hB
        obtain ⟨i, r, hi, rfl, HT, HM, hB⟩ := hrel
        have hc := HT.out.cells k hlt
        by_cases hil : i < n k
        · obtain ⟨P, hA, hP, hPl, hPL⟩ := HT.out.at hlt hil
          have HM' := hide (HM.out.set (HT.out.len hlt) hil)
          have HT' := hide (HT.out.set hlt hil hA (mkB (k : Int) (i : Int)))
          have hrow := HT.out.own k hlt
          unfold OM at hrow
          rw [HT.out.len hlt, hA] at hrow
          rw [hA] at hc
          obtain ⟨x, hx⟩ := some_at (l := r k) (k := i) (by rw [HT.out.len hlt]; exact hil)
          have hcell := (World.ownsRow.cellAt hrow i (by omega)).trans (mc_at hx)
          have hfz := World.ownsRow.frozenAt hrow i
          have HA := hide hA
          clear hA hrow hx
          go_wp2_with fail
          go_region_with (go_at_call 26; refine (markInts_big _ _ _ (by omega) (by omega) (by omega) (by omega)).mono ?_; rintro e w' ⟨rfl, rfl⟩)
          all_goals
            go_wp2_with fail
            go_roundw
            case rel => exact ⟨i + 1, _, by omega, by go_num, hide HT'.out.drew, hide HM'.out, (hB.set hlt HA.out i _).drew⟩
            case measure => simp [intOf]; omega
        · have hi' : i = n k := by omega
          subst hi'
          go_wp2_with fail
          go_roundw
          case rel => exact ⟨k + 1, r, by omega, by go_num, HT, hide (HM.out.next (Nat.le_refl _)), hB⟩
          case measure => simp [intOf]; omega
    · have hk' : k = K := by omega
      subst hk'
      obtain ⟨w1, hw1⟩ : ∃ x, x = wr := ⟨_, rfl⟩
      subst hw1
      have HB1 := hide hB
      have HP := hide HT.out.pl
      have HG0 := hide (HT.out.gr HM.out)
      have hB1s : B ≤ w1.heap.size := Nat.le_trans hBw hB.size
      have h01 : w.heap.size ≤ w1.heap.size := hB.size
      clear hlt hk HM hB HT
      go_wp2_with fail
      go_loopw [5, 6] (fun gs kk w2 => ∃ (j : Nat) (gl : List Value), j ≤ k ∧ kk = .int .i64 j ∧ Hid (w2.ownsRow w1.heap.size 23 1 gs j gl) ∧ Hid (GrB w1 w2 B L k av n c gl j) ∧ Sp k av n c w w2) (fun _ i _ => k - (intOf i).toNat)
      case atStart => exact ⟨0, [], Nat.zero_le _, rfl, hide (World.ownsRow_nil w1 w1.heap.size 23 1), HG0, HB1.out⟩
      case round =>
        clear HG0
        obtain ⟨w2, hw2⟩ : ∃ x, x = wr := ⟨_, rfl⟩
        subst hw2
        obtain ⟨j, gl, hj, rfl, HO, HG, hB⟩ := hrel
        by_cases hlt : j < k
        · have hn := HN.out j
          have hd : decide ((j : Int) < (k : Int)) = true := by rw [decide_eq_true_eq]; omega
          have hc := HG.out.cells j hlt
          have hLt : L < w2.heap.size := Nat.lt_of_lt_of_le HP.out.lt HG.out.size
          go_wp2_with fail
          clear hc
          go_loopw [7, 8] (fun g i w3 => ∃ i' : Nat, i' ≤ 64 ∧ i = .int .i64 i' ∧ Hid (OM w3 B g (mks j (n j + i'))) ∧ Hid (Grew w2 (.slice (av j) (n j) (c j)) w3 g) ∧ Hid (∀ i, i < n j → ∀ P, av j = some ⟨P, 0, none⟩ → w3.cell? ⟨P, i, none⟩ = some (.int .i64 (mkB (j : Int) (i : Int))))) (fun _ i _ => 64 - (intOf i).toNat)
          case atStart => exact ⟨0, Nat.zero_le _, rfl, hide (HG.out.rest j (Nat.le_refl _) hlt), hide (Grew.refl _ _), hide (HG.out.marks j hlt)⟩
          case round =>
            obtain ⟨w3, hw3⟩ : ∃ x, x = wr := ⟨_, rfl⟩
            subst hw3
            obtain ⟨i, hi, rfl, HD, HW, HOld⟩ := hrel
            have hc3 := HW.out.grown.cell (HG.out.cells j hlt) (fun e => HP.out.notL j hlt e.symm)
            by_cases hil : i < 64
            · obtain ⟨m, hm⟩ : ∃ m : Int, Hid (mkB (j : Int) ((n j : Int) + (i : Int)) = m) := ⟨_, hide rfl⟩
              have HS := hide (mks_succ j (n j + i))
              rw [Int.natCast_add, hm.out] at HS
              have HMK := hide (fun W : World => markInts_big (j : Int) ((n j : Int) + (i : Int)) W (by omega) (by omega) (by omega) (by omega))
              rw [hm.out] at HMK
              have hws := HW.out.grown.size
              have hw2s := HG.out.size
              have hBs : B ≤ w3.heap.size := by omega
              go_wp2_with (first
                | (go_at_call 26; refine (HMK.out _).mono ?_; rintro e w' ⟨rfl, hw⟩; obtain rfl := hw.symm)
                | (at_builtin; refine wp_append_kept rfl _ _ rfl B _ (mks j (n j + i)) m _ rfl rfl (World.ownsRow.alloc HD.out _) ?c1 ?c2 ?c3 ?_)
                | go_in)
              case c1 => simp
              case c2 => simp; omega
              case c3 => rw [mks_len]; omega
              intro v' w4 hown' hgrew hkeep
              have HR : Hid (OM w4 B v' (mks j (n j + (i + 1)))) := by
                show OM _ _ _ _
                rw [← Nat.add_assoc, HS.out]
                exact hown'
              have hbl : Below w3.heap.size w3 (w3.alloc (.cells #[.int .i64 m] 3)) := (Below.refl _ _).alloc (Nat.le_refl _) _
              have HW4 := hide (HW.out.trans (Grew.ofBelow hbl hgrew))
              have HOld4 : Hid (∀ i, i < n j → ∀ P, av j = some ⟨P, 0, none⟩ → w4.cell? ⟨P, i, none⟩ = some (.int .i64 (mkB (j : Int) (i : Int)))) := by
                intro i' hi' P hP
                refine hkeep P i' _ (by rw [mks_len]; omega) ?_
                have h1 := HOld.out i' hi' P hP
                rw [hbl.cell (p := ⟨P, i', none⟩) (World.block_lt_of_cell? w3 _ h1)]
                exact h1
              clear hown' hgrew hkeep hbl HD HW HOld
              go_wp2
              go_roundw
              case rel => exact ⟨i + 1, by omega, by go_num, HR, HW4, HOld4⟩
              case measure => simp [intOf]; omega
            · have hi' : i = 64 := by omega
              subst hi'
              have hgl : gl.length = j := by have h := HO.out.1; omega
              have HG3 := hide (HG.out.step HP.out hlt hgl HD.out HW.out HOld.out)
              have hOg := gs_kept HO.out HP.out hlt HW.out
              have HOg := hide hOg
              have HE : Hid (∀ (o : Obj) (w5 : World), _) := hide (fun o w5 => gs_sp (o := o) (w5 := w5) hlt h01 hB HW.out hOg)
              have hD := HD.out
              unfold OM at hD
              rw [mks_len] at hD
              obtain ⟨q, cq, rfl, _, _⟩ := World.ownsRow.form hD (by omega)
              have hs3 : w1.heap.size ≤ w3.heap.size := Nat.le_trans HG.out.size HW.out.grown.size
              clear hD HD HW HOld HG HO hc3
              go_wp2_with (first
                | (at_builtin; refine wpList_append_own _ rfl _ _ 36 rfl w1.heap.size 23 i2 (.slice none 0 0) 1 24 Tryd.underlying36 hi2 hza2 hzb2 hzc2 rfl (by decide) _ _ _ rfl (hOg.alloc _) ⟨_, 0, none⟩ 1 1 [.slice (some ⟨q, 0, none⟩) (n j + 64) cq] rfl rfl ?e1 ?e2 ?e3 ?e4 ?e5 ?_)
                | go_in)
              case e1 =>
                intro j u hj
                match j, hj with
                | 0, hj => simp at hj; subst hj; simp [Addr.add]
              case e2 => intro u hu; simp at hu; subst hu; rfl
              case e3 => unfold maxLen; omega
              case e4 => omega
              case e5 => simp; omega
              intro v' w5 hO5 hg5 _
              have hB5 := HE.out _ _ hg5
              have HG5 := hide (gs_step HP.out HG3.out HOg.out hg5)
              have HO5 := hide hO5
              clear hO5 hg5 hOg HG3 HE
              go_wp2
              go_roundw
              case rel => exact ⟨j + 1, _, by omega, by go_num, HO5, HG5, hB5⟩
              case measure => simp [intOf]; omega
        · have hj' : j = k := by omega
          subst hj'
          have HGc : Hid (∀ gs, w2.ownsRow w1.heap.size 23 1 gs j gl → 0 < j → ∃ q cq, gs = .slice (some ⟨q, 0, none⟩) j cq ∧ ∀ m, m < j → ∃ p c, w2.cell? ⟨q, m, none⟩ = some (.slice (some ⟨p, 0, none⟩) (n m + 64) c) ∧ ∀ i, i < n m + 64 → w2.cell? ⟨p, i, none⟩ = some (.int .i64 (mkB (m : Int) (i : Int)))) := by
            intro gs hgs h0
            obtain ⟨q, cq, rfl, _, _⟩ := hgs.form h0
            refine ⟨q, cq, rfl, fun m hm => ?_⟩
            obtain ⟨g, h1, h2, _⟩ := HG.out.done m hm
            unfold OM at h2
            rw [mks_len] at h2
            obtain ⟨p, c, rfl, _, _⟩ := h2.form (by omega)
            refine ⟨p, c, ?_, fun i hi => ?_⟩
            · rw [World.ownsRow.cellAt hgs m (by omega)]; exact h1
            · rw [World.ownsRow.cellAt h2 i (by omega)]
              exact mc_at (mks_at hi)
          have HM2 : Hid (∀ m, m < j → ∀ i, i < n m → ∃ P, av m = some ⟨P, 0, none⟩ ∧ w2.cell? ⟨P, i, none⟩ = some (.int .i64 (mkB (m : Int) (i : Int)))) := by
            intro m hm i hi
            obtain ⟨P, hP⟩ := HP.out.some m hm (by omega)
            exact ⟨P, hP, HG.out.marks m hm i hi P hP⟩
          have HC2 := hide HG.out.cells
          have HBe := hide hB
          have HX := hide (HGc.out _ HO.out)
          clear HGc HG HO HP hlt hj hB HB1
          go_wp2_with fail
          go_loop [9] (fun i => ∃ k : Nat, k ≤ j ∧ i = .int .i64 k) (fun i => j - (intOf i).toNat)
          case atStart => exact ⟨0, Nat.zero_le _, rfl⟩
          case round =>
            obtain ⟨k, hk, rfl⟩ := hrel
            by_cases hlt : k < j
            · have hn := HN.out k
              have hd : decide ((k : Int) < (j : Int)) = true := by rw [decide_eq_true_eq]; omega
              have hc := HC2.out k hlt
              obtain ⟨q, cq, rfl, hq⟩ := HX.out (by omega)
              obtain ⟨p, cp, hp, hpc⟩ := hq k hlt
              have HPC := hide hpc
              clear hpc hq HX
              go_wp2_with fail
              go_loop [10] (fun i => ∃ i' : Nat, i' ≤ n k + 64 ∧ i = .int .i64 i') (fun i => n k + 64 - (intOf i).toNat)
              case atStart => exact ⟨0, Nat.zero_le _, rfl⟩
              case round =>
                obtain ⟨i, hi, rfl⟩ := hrel
                by_cases hil : i < n k + 64
                · have hpi := HPC.out i hil
                  have HMK := hide (fun W : World => markInts_big (k : Int) (i : Int) W (by omega) (by omega) (by omega) (by omega))
                  by_cases hin : i < n k
                  · obtain ⟨P, hA, hPi⟩ := HM2.out k hlt i hin
                    obtain ⟨m, hm⟩ : ∃ m : Int, Hid ((mkB (k : Int) (i : Int)) = m) := ⟨_, hide rfl⟩
                    rw [hm.out] at HMK hpi hPi
                    rw [hA] at hc
                    clear hA
                    go_wp2_with (first
                      | (go_at_call 26; refine (HMK.out _).mono ?_; rintro e w' ⟨rfl, rfl⟩)
                      | go_in)
                    exact ⟨⟨i + 1, by omega, by go_num⟩, by simp [intOf]; omega⟩
                  · obtain ⟨m, hm⟩ : ∃ m : Int, Hid ((mkB (k : Int) (i : Int)) = m) := ⟨_, hide rfl⟩
                    rw [hm.out] at HMK hpi
                    go_wp2_with (first
                      | (go_at_call 26; refine (HMK.out _).mono ?_; rintro e w' ⟨rfl, rfl⟩)
                      | go_in)
                    exact ⟨⟨i + 1, by omega, by go_num⟩, by simp [intOf]; omega⟩
                · have hi' : i = n k + 64 := by omega
                  subst hi'
                  go_wp2_with fail
                  exact ⟨⟨k + 1, by omega, by go_num⟩, by simp [intOf]; omega⟩
            · have hd : decide ((k : Int) < (j : Int)) = false := by rw [decide_eq_false_iff_not]; omega
              go_wp2_with fail
              go_ret
              exact ⟨rfl, HBe.out⟩
theorem apartInts_any (B L K cL : Nat) (av : Nat → Option Addr) (n c : Nat → Nat) (r0 : Nat → List Int) (w : World) (hT : AllB w B L K av n c r0) (hN : ∀ k, n k ≤ 17592186044100) (hK : K ≤ 5864062014805) (hcL : K ≤ cL) (hBw : B ≤ w.heap.size) :
    Calls Tryd.prog 11 #[.slice (some ⟨L, 0, none⟩) K cL] w fun e w' => e = .returned (.bool true) ∧ Below B w w' := by
  refine (apartInts_sp B L K cL av n c r0 w hT hN hK hcL hBw).mono fun e w' hh => ?_
  obtain ⟨h1, h2⟩ := hh
  refine ⟨h1, h2.os, h2.tape, h2.output, h2.size, fun b hb => h2.block b (by omega) (fun k hk e => ?_)⟩
  have := (World.ownsRow.lt (hT.own k hk) b e).1
  omega
theorem apartBytes_nil (w : World) : Calls Tryd.prog 11 #[.slice none 0 0] w fun e w' => e = .returned (.bool true) ∧ w' = w := by
  go_enter Tryd.func11, Tryd.ntmps11
  go_wp2_with fail
  go_loop [3] (fun i => i = .int .i64 0) (fun _ => 0)
  case atStart => rfl
  case round =>
    subst hrel
    go_wp2_with fail
    go_loop [5, 6] (fun g i => g = .slice none 0 0 ∧ i = .int .i64 0) (fun _ _ => 0)
    case atStart => exact ⟨rfl, rfl⟩
    case round =>
      obtain ⟨rfl, rfl⟩ := hrel
      go_wp2_with fail
      go_loop [9] (fun i => i = .int .i64 0) (fun _ => 0)
      case atStart => rfl
      case round =>
        subst hrel
        go_wp2_with fail
        go_ret
        exact ⟨rfl, rfl⟩
end Go.Proofs.YtieinnhiaomliaaDoor.IN
