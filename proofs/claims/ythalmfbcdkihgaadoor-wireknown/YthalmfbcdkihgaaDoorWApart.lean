/-
  My own text: lists of bytes that were handed out have memory of their own.
-/
import Derived.Test.YthalmfbcdkihgaaDoorWS2
import Derived.Deep.DeepAppendRoom
import Derived.ArgAppend
import Derived.OneCell
import Derived.Deep.RegionWith
namespace Go.Proofs.YthalmfbcdkihgaaDoor
open Go.RowKit Go.Extern

theorem Tryd.infoBS : (Tryd.prog.info? 29).map (fun i => (i.zero, i.size, i.bytes)) = some (some (.slice none 0 0), 1, 24) := by kernel_rfl
/-- The marks of list k. -/
def mks (k n : Nat) : List UInt8 := (List.range n).map fun i : Nat => mkB (k : Int) (i : Int)
theorem mks_len (k n : Nat) : (mks k n).length = n := by simp [mks]
theorem mks_at {k n j : Nat} (h : j < n) : (mks k n)[j]? = some (mkB (k : Int) (j : Int)) := by unfold mks; rw [List.getElem?_map, List.getElem?_range h]; rfl
theorem mks_succ (k n : Nat) : mks k (n + 1) = mks k n ++ [mkB (k : Int) (n : Int)] := by unfold mks; rw [List.range_succ]; simp

/-- A byte behind an own row: cells below the row's end stay. -/
theorem wp_append_kept {w : World} {ops : Array Oper} {rest : List Oper} {o : Oper} {a : Act} {Q : Exit → Act → World → Prop} (hgd : o.guard = none) (s x : Operand)
    (ho : o.op = .call { callee := .builtin .append, args := #[s, x], argTypes := #[29, 29] }) (B : Nat) (v : Value) (l : List UInt8) (c : UInt8) (b : Nat) (hs : a.eval s = v) (hx : a.eval x = .slice (some ⟨b, 0, none⟩) 1 1)
    (hown : Own w B v l) (hc : w.cell? ⟨b, 0, none⟩ = some (.int .u8 (c.toNat : Int))) (hB : B ≤ w.heap.size) (hsz : l.length + 1 ≤ 140737488355328)
    (h : ∀ v' w', Own w' B v' (l ++ [c]) → Grew w v w' v' → (∀ P j u, j < l.length → w.cell? ⟨P, j, none⟩ = some u → w'.cell? ⟨P, j, none⟩ = some u) → wpList Tryd.prog ops Q rest (a.put o.dst v') w') : wpList Tryd.prog ops Q (o :: rest) a w := by
  obtain ⟨i0, hi, hz0, hz1, hz2⟩ := info_parts Tryd.infoB
  have hnews : ∀ j u, ([Value.int .u8 (c.toNat : Int)] : List Value)[j]? = some u → w.cell? ((⟨b, 0, none⟩ : Addr).add j) = some u := by
    intro j u hj
    match j, hj with
    | 0, hj => simp at hj; subst hj; simpa [Addr.add] using hc
  have h1 : ∀ u ∈ ([Value.int .u8 (c.toNat : Int)] : List Value), u.oneCell' = true := by intro u hu; simp at hu; subst hu; rfl
  have hbv : bv (l ++ [c]) = bv l ++ [Value.int .u8 (c.toNat : Int)] := by rw [bv_app]; rfl
  have hlen : (l ++ [c]).length = l.length + 1 := by simp
  have hfull : ∀ (ao : Option Addr) (cap : Nat), v = .slice ao l.length cap → (ao = none → l.length = 0 ∧ cap = 0) → (∀ q, ao = some q → ∀ j u, (bv l)[j]? = some u → w.cell? (q.add j) = some u) → cap < l.length + 1 → wpList Tryd.prog ops Q (o :: rest) a w := by
    intro ao cap hv hno hold hf
    refine wpList_append_grows w hgd s x 29 ho 5 i0 (.int .u8 0) 1 1 Tryd.underlying29 hi hz0 hz1 hz2 rfl (by decide) ao l.length cap (bv l) (hs.trans hv) hno (by rw [bv_len]; omega) hold ⟨b, 0, none⟩ 1 1 [.int .u8 (c.toNat : Int)] hx rfl hnews h1 hf (by unfold maxLen; omega) (by omega) ?_
    intro v' w' hown' hg
    have hO : Own w' w.heap.size v' (l ++ [c]) := by unfold Own; rw [hlen, hbv]; exact hown'
    refine h v' w' (hO.base fun g hg' => ?_) ⟨⟨hg.os, hg.tape, hg.output, hg.size, fun k hk _ => hg.block k hk (by intro e; cases e)⟩, fun g hg' => .inr (World.ownsRow.lt hO g hg').1⟩ (fun P j u hj hu => hg.cell hu (by intro e; cases e))
    have := (World.ownsRow.lt hO g hg').1
    omega
  rcases hown.2 with ⟨hv, h0⟩ | ⟨g, cap, cur, hv, hb, hh, hn2, hn3⟩
  · refine hfull none 0 (by rw [hv, h0]) (fun _ => ⟨h0, rfl⟩) (fun q hq => by cases hq) (by omega)
  · by_cases hroom : l.length + 1 ≤ cap
    · have hown2 := hown
      unfold Own at hown2
      rw [hv] at hown2
      refine wpList_append_own_spare w hgd s x 29 ho B 5 i0 1 Tryd.underlying29 hi hz1 g l.length cap (bv l) (hs.trans hv) hown2 ⟨b, 0, none⟩ 1 1 [.int .u8 (c.toNat : Int)] hx rfl hnews h1 hroom ?_
      intro w' hown' hg
      have hO : Own w' B (.slice (some ⟨g, 0, none⟩) (l.length + 1) cap) (l ++ [c]) := by unfold Own; rw [hlen, hbv]; exact hown'
      refine h _ w' hO ⟨by rw [hv]; exact hg, fun g' hg' => .inl (by rw [hv]; exact hg')⟩ (fun P j u hj hu => ?_)
      by_cases e : P = g
      · subst e
        rw [World.ownsRow.cellAt hown2 j (by omega)] at hu
        rw [World.ownsRow.cellAt hown' j (by omega), List.getElem?_append_left (by rw [bv_len]; exact hj)]
        exact hu
      · exact hg.cell hu (by intro h2; exact e (Option.some.inj h2))
    · refine hfull (some ⟨g, 0, none⟩) cap hv (fun hq => by cases hq) (fun q hq => ?_) (by omega)
      cases hq
      exact World.ownsRow.cells hown (by rw [hv]; rfl)

/-- Lists of bytes in a list at L, each with memory of its own. -/
structure AllB (w : World) (B L K : Nat) (av : Nat → Option Addr) (n c : Nat → Nat) (r : Nat → List UInt8) : Prop where
  lt : L < w.heap.size
  cells : ∀ k, k < K → w.cell? ⟨L, k, none⟩ = some (.slice (av k) (n k) (c k))
  own : ∀ k, k < K → Own w B (.slice (av k) (n k) (c k)) (r k)
  notL : ∀ k, k < K → (Value.slice (av k) (n k) (c k)).ownBlock ≠ some L
  apart : ∀ j k g, j < K → k < K → (Value.slice (av j) (n j) (c j)).ownBlock = some g → (Value.slice (av k) (n k) (c k)).ownBlock = some g → j = k
theorem AllB.len {w : World} {B L K : Nat} {av : Nat → Option Addr} {n c : Nat → Nat} {r : Nat → List UInt8} (h : AllB w B L K av n c r) {k : Nat} (hk : k < K) : (r k).length = n k := by
  obtain ⟨ad, cap, e⟩ := (h.own k hk).slice
  injection e with _ e2 _
  exact e2.symm
theorem AllB.at {w : World} {B L K : Nat} {av : Nat → Option Addr} {n c : Nat → Nat} {r : Nat → List UInt8} (h : AllB w B L K av n c r) {k i : Nat} (hk : k < K) (hi : i < n k) : ∃ P, av k = some ⟨P, 0, none⟩ ∧ B ≤ P ∧ P < w.heap.size ∧ P ≠ L := by
  have h1 := h.own k hk
  unfold Own at h1
  obtain ⟨g, cap, e, h2, h3⟩ := World.ownsRow.form h1 (by rw [h.len hk]; omega)
  have hn := h.notL k hk
  rw [e] at hn
  injection e with e1 e2 e3
  exact ⟨g, e1, h2, h3, fun e4 => hn (by rw [← e4]; rfl)⟩
theorem AllB.set {w : World} {B L K : Nat} {av : Nat → Option Addr} {n c : Nat → Nat} {r : Nat → List UInt8} (h : AllB w B L K av n c r) {k i P : Nat} (hk : k < K) (hi : i < n k) (hA : av k = some ⟨P, 0, none⟩) (x : UInt8) :
    AllB (w.setCell ⟨P, i, none⟩ (.int .u8 (x.toNat : Int))) B L K av n c (fun j => if j = k then (r k).set i x else r j) := by
  have h1 := h.own k hk
  have hl := h.len hk
  have hb : (Value.slice (av k) (n k) (c k)).ownBlock = some P := by rw [hA]; rfl
  unfold Own at h1
  rw [hA, hl] at h1
  obtain ⟨h2, h3⟩ := h1.stored i (.int .u8 (x.toNat : Int))
  refine ⟨by simpa using h.lt, fun j hj => h3.cell (h.cells j hj) (fun e => h.notL k hk (by rw [hb]; exact e.symm)), fun j hj => ?_, h.notL, h.apart⟩
  by_cases e : j = k
  · subst e
    rw [if_pos rfl]
    unfold Own
    rw [List.length_set, hl, bv_set, hA]
    exact h2
  · rw [if_neg e]
    exact ownsRow_setCell_other (h.own j hj) (fun e2 => e (h.apart j k P hj hk e2 hb)) _
theorem AllB.drew {w : World} {B L K : Nat} {av : Nat → Option Addr} {n c : Nat → Nat} {r : Nat → List UInt8} (h : AllB w B L K av n c r) : AllB w.drew B L K av n c r := ⟨h.lt, h.cells, h.own, h.notL, h.apart⟩
/-- The marks that are laid: all of the lists before k, i of list k. -/
def MkB (K : Nat) (n : Nat → Nat) (r : Nat → List UInt8) (k i : Nat) : Prop := ∀ j, j < K → ∀ m, m < n j → (j < k ∨ (j = k ∧ m < i)) → (r j)[m]? = some (mkB (j : Int) (m : Int))
theorem MkB.next {K : Nat} {n : Nat → Nat} {r : Nat → List UInt8} {k i : Nat} (h : MkB K n r k i) (hi : n k ≤ i) : MkB K n r (k + 1) 0 := by
  intro j hj m hm hl
  refine h j hj m hm ?_
  rcases hl with hl | hl
  · by_cases e : j = k
    · subst e; exact .inr ⟨rfl, by omega⟩
    · exact .inl (by omega)
  · omega
theorem MkB.set {K : Nat} {n : Nat → Nat} {r : Nat → List UInt8} {k i : Nat} (h : MkB K n r k i) (hl : (r k).length = n k) (hi : i < n k) : MkB K n (fun j => if j = k then (r k).set i (mkB (k : Int) (i : Int)) else r j) k (i + 1) := by
  intro j hj m hm hlt
  by_cases e : j = k
  · subst e
    simp only [if_true]
    by_cases e2 : m = i
    · subst e2
      rw [List.getElem?_set_self (by omega)]
    · rw [List.getElem?_set_ne (by omega)]
      exact h j hj m hm (.inr ⟨rfl, by omega⟩)
  · simp only [if_neg e]
    exact h j hj m hm (.inl (by omega))
theorem MkB.full {K : Nat} {n : Nat → Nat} {r : Nat → List UInt8} (h : MkB K n r K 0) {k : Nat} (hk : k < K) (hl : (r k).length = n k) : r k = mks k (n k) := by
  apply List.ext_getElem?
  intro m
  by_cases hm : m < n k
  · rw [h k hk m hm (.inl hk), mks_at hm]
  · rw [List.getElem?_eq_none (by omega), List.getElem?_eq_none (by rw [mks_len]; omega)]

/-- While the lists are grown: those grown, those still to grow, the old places. -/
structure GrB (w1 w2 : World) (B L K : Nat) (av : Nat → Option Addr) (n c : Nat → Nat) (gl : List Value) (k : Nat) : Prop where
  size : w1.heap.size ≤ w2.heap.size
  cells : ∀ j, j < K → w2.cell? ⟨L, j, none⟩ = some (.slice (av j) (n j) (c j))
  rest : ∀ j, k ≤ j → j < K → Own w2 B (.slice (av j) (n j) (c j)) (mks j (n j))
  marks : ∀ j, j < K → ∀ i, i < n j → ∀ P, av j = some ⟨P, 0, none⟩ → w2.cell? ⟨P, i, none⟩ = some (.int .u8 ((mkB (j : Int) (i : Int)).toNat : Int))
  done : ∀ j, j < k → ∃ g, gl[j]? = some g ∧ Own w2 B g (mks j (n j + 64)) ∧ ∀ b, g.ownBlock = some b → (Value.slice (av j) (n j) (c j)).ownBlock = some b ∨ w1.heap.size ≤ b
/-- What is known of the places. -/
structure PlB (w1 : World) (B L K : Nat) (av : Nat → Option Addr) (n c : Nat → Nat) : Prop where
  lt : L < w1.heap.size
  notL : ∀ k, k < K → (Value.slice (av k) (n k) (c k)).ownBlock ≠ some L
  apart : ∀ j k g, j < K → k < K → (Value.slice (av j) (n j) (c j)).ownBlock = some g → (Value.slice (av k) (n k) (c k)).ownBlock = some g → j = k
  below : ∀ k, k < K → ∀ g, (Value.slice (av k) (n k) (c k)).ownBlock = some g → B ≤ g ∧ g < w1.heap.size
  some : ∀ k, k < K → 0 < n k → ∃ P, av k = some ⟨P, 0, none⟩
theorem AllB.pl {w : World} {B L K : Nat} {av : Nat → Option Addr} {n c : Nat → Nat} {r : Nat → List UInt8} (h : AllB w B L K av n c r) : PlB w B L K av n c :=
  ⟨h.lt, h.notL, h.apart, fun k hk g hg => World.ownsRow.lt (h.own k hk) g hg, fun k hk hn => by obtain ⟨P, hP, _⟩ := h.at hk hn; exact ⟨P, hP⟩⟩
theorem AllB.gr {w : World} {B L K : Nat} {av : Nat → Option Addr} {n c : Nat → Nat} {r : Nat → List UInt8} (h : AllB w B L K av n c r) (hm : MkB K n r K 0) : GrB w w B L K av n c [] 0 := by
  refine ⟨Nat.le_refl _, h.cells, fun j _ hj => ?_, fun j hj i hi P hP => ?_, fun j hj => by omega⟩
  · rw [← hm.full hj (h.len hj)]; exact h.own j hj
  · have h1 := h.own j hj
    unfold Own at h1
    rw [hP, h.len hj] at h1
    rw [World.ownsRow.cellAt h1 i (by omega)]
    exact bv_at (hm j hj i hi (.inl hj))
/-- List k has been grown. -/
theorem GrB.step {w1 w2 w3 : World} {B L K : Nat} {av : Nat → Option Addr} {n c : Nat → Nat} {gl : List Value} {k : Nat} (hP : PlB w1 B L K av n c) (h : GrB w1 w2 B L K av n c gl k) (hk : k < K) (hl : gl.length = k) {g : Value}
    (ho : Own w3 B g (mks k (n k + 64))) (hg : Grew w2 (.slice (av k) (n k) (c k)) w3 g) (hm : ∀ i, i < n k → ∀ P, av k = some ⟨P, 0, none⟩ → w3.cell? ⟨P, i, none⟩ = some (.int .u8 ((mkB (k : Int) (i : Int)).toNat : Int))) : GrB w1 w3 B L K av n c (gl ++ [g]) (k + 1) := by
  refine ⟨Nat.le_trans h.size hg.grown.size, fun j hj => hg.grown.cell (h.cells j hj) (fun e => hP.notL k hk e.symm), fun j hkj hj => ?_, fun j hj i hi P hPj => ?_, fun j hj => ?_⟩
  · refine World.ownsRow.kept (h.rest j (by omega) hj) hg.grown ?_
    rcases e : (Value.slice (av j) (n j) (c j)).ownBlock with _ | b
    · exact .inl rfl
    · refine .inr (fun e2 => ?_)
      have := hP.apart j k b hj hk e e2.symm
      omega
  · by_cases e : j = k
    · subst e; exact hm i hi P hPj
    · refine hg.grown.cell (h.marks j hj i hi P hPj) (fun e2 => ?_)
      exact e (hP.apart j k P hj hk (by rw [hPj]; rfl) e2.symm)
  · by_cases e : j = k
    · subst e
      refine ⟨g, by rw [← hl]; simp, ho, fun b hb => ?_⟩
      rcases hg.lies b hb with h1 | h1
      · exact .inl h1
      · exact .inr (Nat.le_trans h.size h1)
    · obtain ⟨g', h1, h2, h3⟩ := h.done j (by omega)
      refine ⟨g', by rw [List.getElem?_append_left (by omega)]; exact h1, World.ownsRow.kept h2 hg.grown ?_, h3⟩
      rcases e2 : g'.ownBlock with _ | b
      · exact .inl rfl
      · refine .inr (fun e3 => ?_)
        rcases h3 b e2 with h4 | h4
        · exact e (hP.apart j k b (by omega) hk h4 e3.symm)
        · have := (hP.below k hk b e3.symm).2; omega
/-- Something else has grown. -/
theorem GrB.kept {w1 w2 w3 : World} {B L K : Nat} {av : Nat → Option Addr} {n c : Nat → Nat} {gl : List Value} {k : Nat} {row : Option Nat} (hP : PlB w1 B L K av n c) (h : GrB w1 w2 B L K av n c gl k) (hg : w2.grownBy w3 row) (hr : ∀ g, row = some g → w1.heap.size ≤ g ∧ ∃ cur fz, w2.heap[g]? = some (.cells cur 29 fz)) : GrB w1 w3 B L K av n c gl k := by
  have hne : ∀ v l, Own w2 B v l → v.ownBlock = none ∨ v.ownBlock ≠ row := by
    intro v l hv
    rcases e : v.ownBlock with _ | b
    · exact .inl rfl
    · refine .inr (fun e2 => ?_)
      obtain ⟨_, cu, fz, h1⟩ := hr b e2.symm
      obtain ⟨cu2, fz2, h2⟩ := hv.kind b e
      rw [h1] at h2
      injection h2 with h3
      injection h3 with _ h4 _
      exact absurd h4 (by decide)
  refine ⟨Nat.le_trans h.size hg.size, fun j hj => hg.cell (h.cells j hj) (fun e => ?_), fun j hkj hj => World.ownsRow.kept (h.rest j hkj hj) hg (hne _ _ (h.rest j hkj hj)), fun j hj i hi P hPj => hg.cell (h.marks j hj i hi P hPj) (fun e => ?_), fun j hj => ?_⟩
  · have := (hr L e.symm).1; have := hP.lt; omega
  · have := (hr P e.symm).1; have := (hP.below j hj P (by rw [hPj]; rfl)).2; omega
  · obtain ⟨g', h1, h2, h3⟩ := h.done j hj
    exact ⟨g', h1, World.ownsRow.kept h2 hg (hne _ _ h2), h3⟩
theorem ownsRow_kind {w : World} {B : Nat} {e : TypeId} {size : Nat} {v : Value} {n : Nat} {xs : List Value} (h : w.ownsRow B e size v n xs) : ∀ g, v.ownBlock = some g → ∃ c fz, w.heap[g]? = some (.cells c e fz) := by
  intro g hg
  rcases h.2 with ⟨rfl, _⟩ | ⟨g', cap, cur, rfl, hb, hh, h3⟩
  · cases hg
  · cases hg; exact ⟨cur, (0, 0), hh⟩
theorem grown_alloc (w : World) (o : Obj) : w.grownBy (w.alloc o) none := ⟨rfl, rfl, rfl, by simp, fun k hk _ => Below.heap_alloc _ _ _ hk⟩
theorem gs_kept {w1 w2 w3 : World} {B L K j : Nat} {av : Nat → Option Addr} {n c : Nat → Nat} {gs g : Value} {gl : List Value} (h : w2.ownsRow w1.heap.size 29 1 gs j gl) (hP : PlB w1 B L K av n c) (hj : j < K) (hg : Grew w2 (.slice (av j) (n j) (c j)) w3 g) : w3.ownsRow w1.heap.size 29 1 gs j gl := by
  refine World.ownsRow.kept h hg.grown ?_
  rcases e : gs.ownBlock with _ | b
  · exact .inl rfl
  · refine .inr fun e2 => ?_
    have h1 := (h.lt b e).1
    have h2 := (hP.below j hj b e2.symm).2
    omega
theorem gs_step {w1 w3 w5 : World} {B L K j m : Nat} {av : Nat → Option Addr} {n c : Nat → Nat} {gs : Value} {gl gl' : List Value} {o : Obj} (hP : PlB w1 B L K av n c) (h : GrB w1 w3 B L K av n c gl' m) (hO : w3.ownsRow w1.heap.size 29 1 gs j gl) (hg : (w3.alloc o).grownBy w5 gs.ownBlock) : GrB w1 w5 B L K av n c gl' m := by
  refine GrB.kept hP (GrB.kept hP h (grown_alloc w3 o) (fun g e => by cases e)) hg (fun g e => ?_)
  exact ⟨(World.ownsRow.lt (hO.alloc o) g e).1, ownsRow_kind (hO.alloc o) g e⟩
theorem gs_below {w w1 w2 w3 w5 : World} {B L K j : Nat} {av : Nat → Option Addr} {n c : Nat → Nat} {gs g : Value} {gl : List Value} {o : Obj} (hP : PlB w1 B L K av n c) (hj : j < K) (hB1 : B ≤ w1.heap.size) (h12 : w1.heap.size ≤ w2.heap.size) (hb : Below B w w2) (hW : Grew w2 (.slice (av j) (n j) (c j)) w3 g) (hO : w3.ownsRow w1.heap.size 29 1 gs j gl) (hg : (w3.alloc o).grownBy w5 gs.ownBlock) : Below B w w5 := by
  have h23 := hW.grown.size
  have h3 : Below B w w3 := hW.toBelow hb (by omega) (fun g e => (hP.below j hj g e).1)
  have h4 : Below B w (w3.alloc o) := h3.alloc (by omega) o
  refine h4.grown hg (by simp; omega) (fun g e => ?_)
  have := (World.ownsRow.lt (hO.alloc o) g e).1
  omega
end Go.Proofs.YthalmfbcdkihgaaDoor
