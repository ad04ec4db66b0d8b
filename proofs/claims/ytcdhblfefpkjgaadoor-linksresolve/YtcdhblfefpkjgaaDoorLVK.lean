/-
  My own text: QIA, LVJ, LVK in one.
-/
import Derived.Test.YtcdhblfefpkjgaaDoorQIL
import Derived.Test.YtcdhblfefpkjgaaDoorLVG
import Derived.Test.YtcdhblfefpkjgaaDoorLQ2
import Derived.Test.YtcdhblfefpkjgaaDoorLQ3
namespace Go.Proofs.YtcdhblfefpkjgaaDoor.IN
open Go.RowKit Go.Extern

theorem Tryd.infoBS : (Tryd.prog.info? 41).map (fun i => (i.zero, i.size, i.bytes)) = some (some (.slice none 0 0), 1, 24) := by kernel_rfl
/-- The marks of list k. -/
def mks (k n : Nat) : List Int := (List.range n).map fun i : Nat => mkB (k : Int) (i : Int)
theorem mks_len (k n : Nat) : (mks k n).length = n := by simp [mks]
theorem mks_at {k n j : Nat} (h : j < n) : (mks k n)[j]? = some (mkB (k : Int) (j : Int)) := by unfold mks; rw [List.getElem?_map, List.getElem?_range h]; rfl
theorem mks_succ (k n : Nat) : mks k (n + 1) = mks k n ++ [mkB (k : Int) (n : Int)] := by unfold mks; rw [List.range_succ]; simp

/-- A byte behind an own row: cells below the row's end stay. -/
theorem wp_append_kept {w : World} {ops : Array Oper} {rest : List Oper} {o : Oper} {a : Act} {Q : Exit → Act → World → Prop} (hgd : o.guard = none) (s x : Operand)
    (ho : o.op = .call { callee := .builtin .append, args := #[s, x], argTypes := #[41, 41] }) (B : Nat) (v : Value) (l : List Int) (c : Int) (b : Nat) (hs : a.eval s = v) (hx : a.eval x = .slice (some ⟨b, 0, none⟩) 1 1)
    (hown : OM w B v l) (hc : w.cell? ⟨b, 0, none⟩ = some (.int .i64 c)) (hB : B ≤ w.heap.size) (hsz : l.length + 1 ≤ 17592186044416)
    (h : ∀ v' w', OM w' B v' (l ++ [c]) → Grew w v w' v' → (∀ P j u, j < l.length → w.cell? ⟨P, j, none⟩ = some u → w'.cell? ⟨P, j, none⟩ = some u) → wpList Tryd.prog ops Q rest (a.put o.dst v') w') : wpList Tryd.prog ops Q (o :: rest) a w := by
  obtain ⟨i0, hi, hz0, hz1, hz2⟩ := info_parts Tryd.infoB
  have hnews : ∀ j u, ([Value.int .i64 c] : List Value)[j]? = some u → w.cell? ((⟨b, 0, none⟩ : Addr).add j) = some u := by
    intro j u hj
    match j, hj with
    | 0, hj => simp at hj; subst hj; simpa [Addr.add] using hc
  have h1 : ∀ u ∈ ([Value.int .i64 c] : List Value), u.oneCell' = true := by intro u hu; simp at hu; subst hu; rfl
  have hmc : mc (l ++ [c]) = mc l ++ [Value.int .i64 c] := by rw [mc_app]; rfl
  have hlen : (l ++ [c]).length = l.length + 1 := by simp
  have hfull : ∀ (ao : Option Addr) (cap : Nat), v = .slice ao l.length cap → (ao = none → l.length = 0 ∧ cap = 0) → (∀ q, ao = some q → ∀ j u, (mc l)[j]? = some u → w.cell? (q.add j) = some u) → cap < l.length + 1 → wpList Tryd.prog ops Q (o :: rest) a w := by
    intro ao cap hv hno hold hf
    refine wpList_append_grows w hgd s x 41 ho 3 i0 (.int .i64 0) 1 8 Tryd.underlying41 hi hz0 hz1 hz2 rfl (by decide) ao l.length cap (mc l) (hs.trans hv) hno (by rw [mc_len]; omega) hold ⟨b, 0, none⟩ 1 1 [.int .i64 c] hx rfl hnews h1 hf (by unfold maxLen; omega) (by omega) ?_
    intro v' w' hown' hg
    have hO : OM w' w.heap.size v' (l ++ [c]) := by unfold OM; rw [hlen, hmc]; exact hown'
    refine h v' w' (hO.base fun g hg' => ?_) ⟨⟨hg.os, hg.tape, hg.output, hg.size, fun k hk _ => hg.block k hk (by intro e; cases e)⟩, fun g hg' => .inr (World.ownsRow.lt hO g hg').1⟩ (fun P j u hj hu => hg.cell hu (by intro e; cases e))
    have := (World.ownsRow.lt hO g hg').1
    omega
  rcases hown.2 with ⟨hv, h0⟩ | ⟨g, cap, cur, hv, hb, hh, hn2, hn3⟩
  · refine hfull none 0 (by rw [hv, h0]) (fun _ => ⟨h0, rfl⟩) (fun q hq => by cases hq) (by omega)
  · by_cases hroom : l.length + 1 ≤ cap
    · have hown2 := hown
      unfold OM at hown2
      rw [hv] at hown2
      refine wpList_append_own_spare w hgd s x 41 ho B 3 i0 1 Tryd.underlying41 hi hz1 g l.length cap (mc l) (hs.trans hv) hown2 ⟨b, 0, none⟩ 1 1 [.int .i64 c] hx rfl hnews h1 hroom ?_
      intro w' hown' hg
      have hO : OM w' B (.slice (some ⟨g, 0, none⟩) (l.length + 1) cap) (l ++ [c]) := by unfold OM; rw [hlen, hmc]; exact hown'
      refine h _ w' hO ⟨by rw [hv]; exact hg, fun g' hg' => .inl (by rw [hv]; exact hg')⟩ (fun P j u hj hu => ?_)
      by_cases e : P = g
      · subst e
        rw [World.ownsRow.cellAt hown2 j (by omega)] at hu
        rw [World.ownsRow.cellAt hown' j (by omega), List.getElem?_append_left (by rw [mc_len]; exact hj)]
        exact hu
      · exact hg.cell hu (by intro h2; exact e (Option.some.inj h2))
    · refine hfull (some ⟨g, 0, none⟩) cap hv (fun hq => by cases hq) (fun q hq => ?_) (by omega)
      cases hq
      exact World.ownsRow.cells hown (by rw [hv]; rfl)

/-- Lists of bytes in a list at L, each with memory of its own. -/
structure AllB (w : World) (B L K : Nat) (av : Nat → Option Addr) (n c : Nat → Nat) (r : Nat → List Int) : Prop where
  lt : L < w.heap.size
  cells : ∀ k, k < K → w.cell? ⟨L, k, none⟩ = some (.slice (av k) (n k) (c k))
  own : ∀ k, k < K → OM w B (.slice (av k) (n k) (c k)) (r k)
  notL : ∀ k, k < K → (Value.slice (av k) (n k) (c k)).ownBlock ≠ some L
  apart : ∀ j k g, j < K → k < K → (Value.slice (av j) (n j) (c j)).ownBlock = some g → (Value.slice (av k) (n k) (c k)).ownBlock = some g → j = k
theorem AllB.len {w : World} {B L K : Nat} {av : Nat → Option Addr} {n c : Nat → Nat} {r : Nat → List Int} (h : AllB w B L K av n c r) {k : Nat} (hk : k < K) : (r k).length = n k := by
  obtain ⟨ad, cap, e⟩ := (h.own k hk).slice
  injection e with _ e2 _
  exact e2.symm
theorem AllB.at {w : World} {B L K : Nat} {av : Nat → Option Addr} {n c : Nat → Nat} {r : Nat → List Int} (h : AllB w B L K av n c r) {k i : Nat} (hk : k < K) (hi : i < n k) : ∃ P, av k = some ⟨P, 0, none⟩ ∧ B ≤ P ∧ P < w.heap.size ∧ P ≠ L := by
  have h1 := h.own k hk
  unfold OM at h1
  obtain ⟨g, cap, e, h2, h3⟩ := World.ownsRow.form h1 (by rw [h.len hk]; omega)
  have hn := h.notL k hk
  rw [e] at hn
  injection e with e1 e2 e3
  exact ⟨g, e1, h2, h3, fun e4 => hn (by rw [← e4]; rfl)⟩
theorem AllB.set {w : World} {B L K : Nat} {av : Nat → Option Addr} {n c : Nat → Nat} {r : Nat → List Int} (h : AllB w B L K av n c r) {k i P : Nat} (hk : k < K) (hi : i < n k) (hA : av k = some ⟨P, 0, none⟩) (x : Int) :
    AllB (w.setCell ⟨P, i, none⟩ (.int .i64 x)) B L K av n c (fun j => if j = k then (r k).set i x else r j) := by
  have h1 := h.own k hk
  have hl := h.len hk
  have hb : (Value.slice (av k) (n k) (c k)).ownBlock = some P := by rw [hA]; rfl
  unfold OM at h1
  rw [hA, hl] at h1
  obtain ⟨h2, h3⟩ := h1.stored i (.int .i64 x)
  refine ⟨by simpa using h.lt, fun j hj => h3.cell (h.cells j hj) (fun e => h.notL k hk (by rw [hb]; exact e.symm)), fun j hj => ?_, h.notL, h.apart⟩
  by_cases e : j = k
  · subst e
    rw [if_pos rfl]
    unfold OM
    rw [List.length_set, hl, mc_set, hA]
    exact h2
  · rw [if_neg e]
    exact ownsRow_setCell_other (h.own j hj) (fun e2 => e (h.apart j k P hj hk e2 hb)) _
theorem AllB.drew {w : World} {B L K : Nat} {av : Nat → Option Addr} {n c : Nat → Nat} {r : Nat → List Int} (h : AllB w B L K av n c r) : AllB w.drew B L K av n c r := ⟨h.lt, h.cells, h.own, h.notL, h.apart⟩
/-- The marks that are laid: all of the lists before k, i of list k. -/
def MkB (K : Nat) (n : Nat → Nat) (r : Nat → List Int) (k i : Nat) : Prop := ∀ j, j < K → ∀ m, m < n j → (j < k ∨ (j = k ∧ m < i)) → (r j)[m]? = some (mkB (j : Int) (m : Int))
theorem MkB.next {K : Nat} {n : Nat → Nat} {r : Nat → List Int} {k i : Nat} (h : MkB K n r k i) (hi : n k ≤ i) : MkB K n r (k + 1) 0 := by
  intro j hj m hm hl
  refine h j hj m hm ?_
  rcases hl with hl | hl
  · by_cases e : j = k
    · subst e; exact .inr ⟨rfl, by omega⟩
    · exact .inl (by omega)
  · omega
theorem MkB.set {K : Nat} {n : Nat → Nat} {r : Nat → List Int} {k i : Nat} (h : MkB K n r k i) (hl : (r k).length = n k) (hi : i < n k) : MkB K n (fun j => if j = k then (r k).set i (mkB (k : Int) (i : Int)) else r j) k (i + 1) := by
  intro j hj m hm hlt
  by_cases e : j = k
  · subst e
    simp only [if_true]
    by_cases e2 : m = i
    · subst e2
      rw [List.getElem?_set_self (by omega)]
    · rw [List.getElem?_set_ne (by omega)]
      exact h j hj m hm (.inr ⟨rfl, by omega⟩)
  · simp only [if_neg e]
    exact h j hj m hm (.inl (by omega))
theorem MkB.full {K : Nat} {n : Nat → Nat} {r : Nat → List Int} (h : MkB K n r K 0) {k : Nat} (hk : k < K) (hl : (r k).length = n k) : r k = mks k (n k) := by
  apply List.ext_getElem?
  intro m
  by_cases hm : m < n k
  · rw [h k hk m hm (.inl hk), mks_at hm]
  · rw [List.getElem?_eq_none (by omega), List.getElem?_eq_none (by rw [mks_len]; omega)]

/-- While the lists are grown: those grown, those still to grow, the old places. -/
structure GrB (w1 w2 : World) (B L K : Nat) (av : Nat → Option Addr) (n c : Nat → Nat) (gl : List Value) (k : Nat) : Prop where
  size : w1.heap.size ≤ w2.heap.size
  cells : ∀ j, j < K → w2.cell? ⟨L, j, none⟩ = some (.slice (av j) (n j) (c j))
  rest : ∀ j, k ≤ j → j < K → OM w2 B (.slice (av j) (n j) (c j)) (mks j (n j))
  marks : ∀ j, j < K → ∀ i, i < n j → ∀ P, av j = some ⟨P, 0, none⟩ → w2.cell? ⟨P, i, none⟩ = some (.int .i64 (mkB (j : Int) (i : Int)))
  done : ∀ j, j < k → ∃ g, gl[j]? = some g ∧ OM w2 B g (mks j (n j + 64)) ∧ ∀ b, g.ownBlock = some b → (Value.slice (av j) (n j) (c j)).ownBlock = some b ∨ w1.heap.size ≤ b
/-- What is known of the places. -/
structure PlB (w1 : World) (B L K : Nat) (av : Nat → Option Addr) (n c : Nat → Nat) : Prop where
  lt : L < w1.heap.size
  notL : ∀ k, k < K → (Value.slice (av k) (n k) (c k)).ownBlock ≠ some L
  apart : ∀ j k g, j < K → k < K → (Value.slice (av j) (n j) (c j)).ownBlock = some g → (Value.slice (av k) (n k) (c k)).ownBlock = some g → j = k
  below : ∀ k, k < K → ∀ g, (Value.slice (av k) (n k) (c k)).ownBlock = some g → B ≤ g ∧ g < w1.heap.size
  some : ∀ k, k < K → 0 < n k → ∃ P, av k = some ⟨P, 0, none⟩
theorem AllB.pl {w : World} {B L K : Nat} {av : Nat → Option Addr} {n c : Nat → Nat} {r : Nat → List Int} (h : AllB w B L K av n c r) : PlB w B L K av n c :=
  ⟨h.lt, h.notL, h.apart, fun k hk g hg => World.ownsRow.lt (h.own k hk) g hg, fun k hk hn => by obtain ⟨P, hP, _⟩ := h.at hk hn; exact ⟨P, hP⟩⟩
theorem AllB.gr {w : World} {B L K : Nat} {av : Nat → Option Addr} {n c : Nat → Nat} {r : Nat → List Int} (h : AllB w B L K av n c r) (hm : MkB K n r K 0) : GrB w w B L K av n c [] 0 := by
  refine ⟨Nat.le_refl _, h.cells, fun j _ hj => ?_, fun j hj i hi P hP => ?_, fun j hj => by omega⟩
  · rw [← hm.full hj (h.len hj)]; exact h.own j hj
  · have h1 := h.own j hj
    unfold OM at h1
    rw [hP, h.len hj] at h1
    rw [World.ownsRow.cellAt h1 i (by omega)]
    exact mc_at (hm j hj i hi (.inl hj))
/-- List k has been grown. -/
theorem GrB.step {w1 w2 w3 : World} {B L K : Nat} {av : Nat → Option Addr} {n c : Nat → Nat} {gl : List Value} {k : Nat} (hP : PlB w1 B L K av n c) (h : GrB w1 w2 B L K av n c gl k) (hk : k < K) (hl : gl.length = k) {g : Value}
    (ho : OM w3 B g (mks k (n k + 64))) (hg : Grew w2 (.slice (av k) (n k) (c k)) w3 g) (hm : ∀ i, i < n k → ∀ P, av k = some ⟨P, 0, none⟩ → w3.cell? ⟨P, i, none⟩ = some (.int .i64 (mkB (k : Int) (i : Int)))) : GrB w1 w3 B L K av n c (gl ++ [g]) (k + 1) := by
  refine ⟨Nat.le_trans h.size hg.grown.size, fun j hj => hg.grown.cell (h.cells j hj) (fun e => hP.notL k hk e.symm), fun j hkj hj => ?_, fun j hj i hi P hPj => ?_, fun j hj => ?_⟩
  · refine World.ownsRow.kept (h.rest j (by omega) hj) hg.grown ?_
    rcases e : (Value.slice (av j) (n j) (c j)).ownBlock with _ | b
    · exact .inl rfl
    · refine .inr (fun e2 => ?_)
      have := hP.apart j k b hj hk e e2.symm
      omega
  · by_cases e : j = k
    · subst e; exact hm i hi P hPj
    · refine hg.grown.cell (h.marks j hj i hi P hPj) (fun e2 => ?_)
      exact e (hP.apart j k P hj hk (by rw [hPj]; rfl) e2.symm)
  · by_cases e : j = k
    · subst e
      refine ⟨g, by rw [← hl]; simp, ho, fun b hb => ?_⟩
      rcases hg.lies b hb with h1 | h1
      · exact .inl h1
      · exact .inr (Nat.le_trans h.size h1)
    · obtain ⟨g', h1, h2, h3⟩ := h.done j (by omega)
      refine ⟨g', by rw [List.getElem?_append_left (by omega)]; exact h1, World.ownsRow.kept h2 hg.grown ?_, h3⟩
      rcases e2 : g'.ownBlock with _ | b
      · exact .inl rfl
      · refine .inr (fun e3 => ?_)
        rcases h3 b e2 with h4 | h4
        · exact e (hP.apart j k b (by omega) hk h4 e3.symm)
        · have := (hP.below k hk b e3.symm).2; omega
/-- Something else has grown. -/
theorem GrB.kept {w1 w2 w3 : World} {B L K : Nat} {av : Nat → Option Addr} {n c : Nat → Nat} {gl : List Value} {k : Nat} {row : Option Nat} (hP : PlB w1 B L K av n c) (h : GrB w1 w2 B L K av n c gl k) (hg : w2.grownBy w3 row) (hr : ∀ g, row = some g → w1.heap.size ≤ g ∧ ∃ cur fz, w2.heap[g]? = some (.cells cur 41 fz)) : GrB w1 w3 B L K av n c gl k := by
  have hne : ∀ v l, OM w2 B v l → v.ownBlock = none ∨ v.ownBlock ≠ row := by
    intro v l hv
    rcases e : v.ownBlock with _ | b
    · exact .inl rfl
    · refine .inr (fun e2 => ?_)
      obtain ⟨_, cu, fz, h1⟩ := hr b e2.symm
      obtain ⟨cu2, fz2, h2⟩ := hv.kind b e
      rw [h1] at h2
      injection h2 with h3
      injection h3 with _ h4 _
      exact absurd h4 (by decide)
  refine ⟨Nat.le_trans h.size hg.size, fun j hj => hg.cell (h.cells j hj) (fun e => ?_), fun j hkj hj => World.ownsRow.kept (h.rest j hkj hj) hg (hne _ _ (h.rest j hkj hj)), fun j hj i hi P hPj => hg.cell (h.marks j hj i hi P hPj) (fun e => ?_), fun j hj => ?_⟩
  · have := (hr L e.symm).1; have := hP.lt; omega
  · have := (hr P e.symm).1; have := (hP.below j hj P (by rw [hPj]; rfl)).2; omega
  · obtain ⟨g', h1, h2, h3⟩ := h.done j hj
    exact ⟨g', h1, World.ownsRow.kept h2 hg (hne _ _ h2), h3⟩
theorem ownsRow_kind {w : World} {B : Nat} {e : TypeId} {size : Nat} {v : Value} {n : Nat} {xs : List Value} (h : w.ownsRow B e size v n xs) : ∀ g, v.ownBlock = some g → ∃ c fz, w.heap[g]? = some (.cells c e fz) := by
  intro g hg
  rcases h.2 with ⟨rfl, _⟩ | ⟨g', cap, cur, rfl, hb, hh, h3⟩
  · cases hg
  · cases hg; exact ⟨cur, (0, 0), hh⟩
theorem grown_alloc (w : World) (o : Obj) : w.grownBy (w.alloc o) none := ⟨rfl, rfl, rfl, by simp, fun k hk _ => Below.heap_alloc _ _ _ hk⟩
theorem gs_kept {w1 w2 w3 : World} {B L K j : Nat} {av : Nat → Option Addr} {n c : Nat → Nat} {gs g : Value} {gl : List Value} (h : w2.ownsRow w1.heap.size 41 1 gs j gl) (hP : PlB w1 B L K av n c) (hj : j < K) (hg : Grew w2 (.slice (av j) (n j) (c j)) w3 g) : w3.ownsRow w1.heap.size 41 1 gs j gl := by
  refine World.ownsRow.kept h hg.grown ?_
  rcases e : gs.ownBlock with _ | b
  · exact .inl rfl
  · refine .inr fun e2 => ?_
    have h1 := (h.lt b e).1
    have h2 := (hP.below j hj b e2.symm).2
    omega
theorem gs_step {w1 w3 w5 : World} {B L K j m : Nat} {av : Nat → Option Addr} {n c : Nat → Nat} {gs : Value} {gl gl' : List Value} {o : Obj} (hP : PlB w1 B L K av n c) (h : GrB w1 w3 B L K av n c gl' m) (hO : w3.ownsRow w1.heap.size 41 1 gs j gl) (hg : (w3.alloc o).grownBy w5 gs.ownBlock) : GrB w1 w5 B L K av n c gl' m := by
  refine GrB.kept hP (GrB.kept hP h (grown_alloc w3 o) (fun g e => by cases e)) hg (fun g e => ?_)
  exact ⟨(World.ownsRow.lt (hO.alloc o) g e).1, ownsRow_kind (hO.alloc o) g e⟩
theorem gs_below {w w1 w2 w3 w5 : World} {B L K j : Nat} {av : Nat → Option Addr} {n c : Nat → Nat} {gs g : Value} {gl : List Value} {o : Obj} (hP : PlB w1 B L K av n c) (hj : j < K) (hB1 : B ≤ w1.heap.size) (h12 : w1.heap.size ≤ w2.heap.size) (hb : Below B w w2) (hW : Grew w2 (.slice (av j) (n j) (c j)) w3 g) (hO : w3.ownsRow w1.heap.size 41 1 gs j gl) (hg : (w3.alloc o).grownBy w5 gs.ownBlock) : Below B w w5 := by
  have h23 := hW.grown.size
  have h3 : Below B w w3 := hW.toBelow hb (by omega) (fun g e => (hP.below j hj g e).1)
  have h4 : Below B w (w3.alloc o) := h3.alloc (by omega) o
  refine h4.grown hg (by simp; omega) (fun g e => ?_)
  have := (World.ownsRow.lt (hO.alloc o) g e).1
  omega
theorem gs_sp {w w1 w2 w3 w5 : World} {K j : Nat} {av : Nat → Option Addr} {n c : Nat → Nat} {gs g : Value} {gl : List Value} {o : Obj} (hj : j < K) (h01 : w.heap.size ≤ w1.heap.size) (hb : Sp K av n c w w2) (hW : Grew w2 (.slice (av j) (n j) (c j)) w3 g) (hO : w3.ownsRow w1.heap.size 41 1 gs j gl) (hg : (w3.alloc o).grownBy w5 gs.ownBlock) : Sp K av n c w w5 := by
  have h2 := hb.size
  have h3 := hW.grown.size
  have h5 := hg.size
  have h4 : w3.heap.size ≤ (w3.alloc o).heap.size := by simp
  refine ⟨hg.os.trans (hW.grown.os.trans hb.os), hg.tape.trans (hW.grown.tape.trans hb.tape), hg.output.trans (hW.grown.output.trans hb.output), by omega, fun b hlt hn => ?_⟩
  have e1 := hb.block b hlt hn
  have e2 := hW.grown.block b (by omega) (fun e => hn j hj e.symm)
  have e3 : (w3.alloc o).heap[b]? = w3.heap[b]? := Below.heap_alloc _ _ _ (by omega)
  have e4 := hg.block b (by omega) (fun e => by
    have := (World.ownsRow.lt (hO.alloc o) b e.symm).1
    omega)
  rw [e4, e3, e2, e1]
theorem markInts_big (k i : Int) (w : World) (h1 : 0 ≤ k) (h2 : k ≤ 5864062014805) (h3 : -1125899906842624 ≤ i) (h4 : i ≤ 1125899906842624) :
    Calls Tryd.prog 35 #[.int .i64 k, .int .i64 i] w fun e w' => e = .returned (.int .i64 (mkB k i)) ∧ w' = w := by
  have HM : Hid (1000003 * (k + 1) + i = mkB k i) := rfl
  go_enter Tryd.func35, Tryd.ntmps35
  go_wp2
  go_ret
  exact ⟨ret_i (by rw [← HM.out]), rfl⟩
set_option maxRecDepth 100000 in
set_option maxHeartbeats 4000000 in
theorem apartInts_sp (B L K cL : Nat) (av : Nat → Option Addr) (n c : Nat → Nat) (r0 : Nat → List Int) (w : World) (hT : AllB w B L K av n c r0) (hN : ∀ k, n k ≤ 17592186044100) (hK : K ≤ 5864062014805) (hcL : K ≤ cL) (hBw : B ≤ w.heap.size) :
    Calls Tryd.prog 12 #[.slice (some ⟨L, 0, none⟩) K cL] w fun e w' => e = .returned (.bool true) ∧ Sp K av n c w w' := by
  obtain ⟨i2, hi2, hza2, hzb2, hzc2⟩ := info_parts Tryd.infoBS
  have HN := hide hN
  have HT := hide hT
  clear hT hN
  go_enter Tryd.func12, Tryd.ntmps12
  go_wp2_with fail
  go_loopw [3] (fun i wr => ∃ (k : Nat) (r : Nat → List Int), k ≤ K ∧ i = .int .i64 k ∧ Hid (AllB wr B L K av n c r) ∧ Hid (MkB K n r k 0) ∧ Sp K av n c w wr) (fun i _ => K - (intOf i).toNat)
  case atStart => exact ⟨0, r0, Nat.zero_le _, rfl, HT, hide (fun m _ j _ hl => by omega), Sp.refl _ _ _ _ _⟩
  case round =>
    clear HT
    obtain ⟨k, r, hk, rfl, HT, HM, hB⟩ := hrel
    by_cases hlt : k < K
    · have hn := HN.out k
      have hd : decide ((k : Int) < (K : Int)) = true := by rw [decide_eq_true_eq]; omega
      have hc := HT.out.cells k hlt
      go_wp2_with fail
      clear hc
      go_loopw [4] (fun i wr => ∃ (i' : Nat) (r : Nat → List Int), i' ≤ n k ∧ i = .int .i64 i' ∧ Hid (AllB wr B L K av n c r) ∧ Hid (MkB K n r k i') ∧ Sp K av n c w wr) (fun i _ => n k - (intOf i).toNat)
      case atStart => exact ⟨0, r, Nat.zero_le _, rfl, HT, HM, hB⟩
      case round =>
        clear HT HM hB
        obtain ⟨i, r, hi, rfl, HT, HM, hB⟩ := hrel
        have hc := HT.out.cells k hlt
        by_cases hil : i < n k
        · obtain ⟨P, hA, hP, hPl, hPL⟩ := HT.out.at hlt hil
          have HM' := hide (HM.out.set (HT.out.len hlt) hil)
          have HT' := hide (HT.out.set hlt hil hA (mkB (k : Int) (i : Int)))
          have hrow := HT.out.own k hlt
          unfold OM at hrow
          rw [HT.out.len hlt, hA] at hrow
          rw [hA] at hc
          obtain ⟨x, hx⟩ := some_at (l := r k) (k := i) (by rw [HT.out.len hlt]; exact hil)
          have hcell := (World.ownsRow.cellAt hrow i (by omega)).trans (mc_at hx)
          have hfz := World.ownsRow.frozenAt hrow i
          have HA := hide hA
          clear hA hrow hx
          go_wp2_with fail
          go_region_with (go_at_call 35; refine (markInts_big _ _ _ (by omega) (by omega) (by omega) (by omega)).mono ?_; rintro e w' ⟨rfl, rfl⟩)
          all_goals
            go_wp2_with fail
            go_roundw
            case rel => exact ⟨i + 1, _, by omega, by go_num, hide HT'.out.drew, hide HM'.out, (hB.set hlt HA.out i _).drew⟩
            case measure => simp [intOf]; omega
        · have hi' : i = n k := by omega
          subst hi'
          go_wp2_with fail
          go_roundw
          case rel => exact ⟨k + 1, r, by omega, by go_num, HT, hide (HM.out.next (Nat.le_refl _)), hB⟩
          case measure => simp [intOf]; omega
    · have hk' : k = K := by omega
      subst hk'
      obtain ⟨w1, hw1⟩ : ∃ x, x = wr := ⟨_, rfl⟩
      subst hw1
      have HB1 := hide hB
      have HP := hide HT.out.pl
      have HG0 := hide (HT.out.gr HM.out)
      have hB1s : B ≤ w1.heap.size := Nat.le_trans hBw hB.size
      have h01 : w.heap.size ≤ w1.heap.size := hB.size
      clear hlt hk HM hB HT
      go_wp2_with fail
      go_loopw [5, 6] (fun gs kk w2 => ∃ (j : Nat) (gl : List Value), j ≤ k ∧ kk = .int .i64 j ∧ Hid (w2.ownsRow w1.heap.size 41 1 gs j gl) ∧ Hid (GrB w1 w2 B L k av n c gl j) ∧ Sp k av n c w w2) (fun _ i _ => k - (intOf i).toNat)
      case atStart => exact ⟨0, [], Nat.zero_le _, rfl, hide (World.ownsRow_nil w1 w1.heap.size 41 1), HG0, HB1.out⟩
      case round =>
        clear HG0
        obtain ⟨w2, hw2⟩ : ∃ x, x = wr := ⟨_, rfl⟩
        subst hw2
        obtain ⟨j, gl, hj, rfl, HO, HG, hB⟩ := hrel
        by_cases hlt : j < k
        · have hn := HN.out j
          have hd : decide ((j : Int) < (k : Int)) = true := by rw [decide_eq_true_eq]; omega
          have hc := HG.out.cells j hlt
          have hLt : L < w2.heap.size := Nat.lt_of_lt_of_le HP.out.lt HG.out.size
          go_wp2_with fail
          clear hc
          go_loopw [7, 8] (fun g i w3 => ∃ i' : Nat, i' ≤ 64 ∧ i = .int .i64 i' ∧ Hid (OM w3 B g (mks j (n j + i'))) ∧ Hid (Grew w2 (.slice (av j) (n j) (c j)) w3 g) ∧ Hid (∀ i, i < n j → ∀ P, av j = some ⟨P, 0, none⟩ → w3.cell? ⟨P, i, none⟩ = some (.int .i64 (mkB (j : Int) (i : Int))))) (fun _ i _ => 64 - (intOf i).toNat)
          case atStart => exact ⟨0, Nat.zero_le _, rfl, hide (HG.out.rest j (Nat.le_refl _) hlt), hide (Grew.refl _ _), hide (HG.out.marks j hlt)⟩
          case round =>
            obtain ⟨w3, hw3⟩ : ∃ x, x = wr := ⟨_, rfl⟩
            subst hw3
            obtain ⟨i, hi, rfl, HD, HW, HOld⟩ := hrel
            have hc3 := HW.out.grown.cell (HG.out.cells j hlt) (fun e => HP.out.notL j hlt e.symm)
            by_cases hil : i < 64
            · obtain ⟨m, hm⟩ : ∃ m : Int, Hid (mkB (j : Int) ((n j : Int) + (i : Int)) = m) := ⟨_, hide rfl⟩
              have HS := hide (mks_succ j (n j + i))
              rw [Int.natCast_add, hm.out] at HS
              have HMK := hide (fun W : World => markInts_big (j : Int) ((n j : Int) + (i : Int)) W (by omega) (by omega) (by omega) (by omega))
              rw [hm.out] at HMK
              have hws := HW.out.grown.size
              have hw2s := HG.out.size
              have hBs : B ≤ w3.heap.size := by omega
              go_wp2_with (first
                | (go_at_call 35; refine (HMK.out _).mono ?_; rintro e w' ⟨rfl, hw⟩; obtain rfl := hw.symm)
                | (at_builtin; refine wp_append_kept rfl _ _ rfl B _ (mks j (n j + i)) m _ rfl rfl (World.ownsRow.alloc HD.out _) ?c1 ?c2 ?c3 ?_)
                | go_in)
              case c1 => simp
              case c2 => simp; omega
              case c3 => rw [mks_len]; omega
              intro v' w4 hown' hgrew hkeep
              have HR : Hid (OM w4 B v' (mks j (n j + (i + 1)))) := by
                show OM _ _ _ _
                rw [← Nat.add_assoc, HS.out]
                exact hown'
              have hbl : Below w3.heap.size w3 (w3.alloc (.cells #[.int .i64 m] 3)) := (Below.refl _ _).alloc (Nat.le_refl _) _
              have HW4 := hide (HW.out.trans (Grew.ofBelow hbl hgrew))
              have HOld4 : Hid (∀ i, i < n j → ∀ P, av j = some ⟨P, 0, none⟩ → w4.cell? ⟨P, i, none⟩ = some (.int .i64 (mkB (j : Int) (i : Int)))) := by
                intro i' hi' P hP
                refine hkeep P i' _ (by rw [mks_len]; omega) ?_
                have h1 := HOld.out i' hi' P hP
                rw [hbl.cell (p := ⟨P, i', none⟩) (World.block_lt_of_cell? w3 _ h1)]
                exact h1
              clear hown' hgrew hkeep hbl HD HW HOld
              go_wp2
              go_roundw
              case rel => exact ⟨i + 1, by omega, by go_num, HR, HW4, HOld4⟩
              case measure => simp [intOf]; omega
            · have hi' : i = 64 := by omega
              subst hi'
              have hgl : gl.length = j := by have h := HO.out.1; omega
              have HG3 := hide (HG.out.step HP.out hlt hgl HD.out HW.out HOld.out)
              have hOg := gs_kept HO.out HP.out hlt HW.out
              have HOg := hide hOg
              have HE : Hid (∀ (o : Obj) (w5 : World), _) := hide (fun o w5 => gs_sp (o := o) (w5 := w5) hlt h01 hB HW.out hOg)
              have hD := HD.out
              unfold OM at hD
              rw [mks_len] at hD
              obtain ⟨q, cq, rfl, _, _⟩ := World.ownsRow.form hD (by omega)
              have hs3 : w1.heap.size ≤ w3.heap.size := Nat.le_trans HG.out.size HW.out.grown.size
              clear hD HD HW HOld HG HO hc3
              go_wp2_with (first
                | (at_builtin; refine wpList_append_own _ rfl _ _ 29 rfl w1.heap.size 41 i2 (.slice none 0 0) 1 24 Tryd.underlying29 hi2 hza2 hzb2 hzc2 rfl (by decide) _ _ _ rfl (hOg.alloc _) ⟨_, 0, none⟩ 1 1 [.slice (some ⟨q, 0, none⟩) (n j + 64) cq] rfl rfl ?e1 ?e2 ?e3 ?e4 ?e5 ?_)
                | go_in)
              case e1 =>
                intro j u hj
                match j, hj with
                | 0, hj => simp at hj; subst hj; simp [Addr.add]
              case e2 => intro u hu; simp at hu; subst hu; rfl
              case e3 => unfold maxLen; omega
              case e4 => omega
              case e5 => simp; omega
              intro v' w5 hO5 hg5 _
              have hB5 := HE.out _ _ hg5
              have HG5 := hide (gs_step HP.out HG3.out HOg.out hg5)
              have HO5 := hide hO5
              clear hO5 hg5 hOg HG3 HE
              go_wp2
              go_roundw
              case rel => exact ⟨j + 1, _, by omega, by go_num, HO5, HG5, hB5⟩
              case measure => simp [intOf]; omega
        · have hj' : j = k := by omega
          subst hj'
          have HGc : Hid (∀ gs, w2.ownsRow w1.heap.size 41 1 gs j gl → 0 < j → ∃ q cq, gs = .slice (some ⟨q, 0, none⟩) j cq ∧ ∀ m, m < j → ∃ p c, w2.cell? ⟨q, m, none⟩ = some (.slice (some ⟨p, 0, none⟩) (n m + 64) c) ∧ ∀ i, i < n m + 64 → w2.cell? ⟨p, i, none⟩ = some (.int .i64 (mkB (m : Int) (i : Int)))) := by
            intro gs hgs h0
            obtain ⟨q, cq, rfl, _, _⟩ := hgs.form h0
            refine ⟨q, cq, rfl, fun m hm => ?_⟩
            obtain ⟨g, h1, h2, _⟩ := HG.out.done m hm
            unfold OM at h2
            rw [mks_len] at h2
            obtain ⟨p, c, rfl, _, _⟩ := h2.form (by omega)
            refine ⟨p, c, ?_, fun i hi => ?_⟩
            · rw [World.ownsRow.cellAt hgs m (by omega)]; exact h1
            · rw [World.ownsRow.cellAt h2 i (by omega)]
              exact mc_at (mks_at hi)
          have HM2 : Hid (∀ m, m < j → ∀ i, i < n m → ∃ P, av m = some ⟨P, 0, none⟩ ∧ w2.cell? ⟨P, i, none⟩ = some (.int .i64 (mkB (m : Int) (i : Int)))) := by
            intro m hm i hi
            obtain ⟨P, hP⟩ := HP.out.some m hm (by omega)
            exact ⟨P, hP, HG.out.marks m hm i hi P hP⟩
          have HC2 := hide HG.out.cells
          have HBe := hide hB
          have HX := hide (HGc.out _ HO.out)
          clear HGc HG HO HP hlt hj hB HB1
          go_wp2_with fail
          go_loop [9] (fun i => ∃ k : Nat, k ≤ j ∧ i = .int .i64 k) (fun i => j - (intOf i).toNat)
          case atStart => exact ⟨0, Nat.zero_le _, rfl⟩
          case round =>
            obtain ⟨k, hk, rfl⟩ := hrel
            by_cases hlt : k < j
            · have hn := HN.out k
              have hd : decide ((k : Int) < (j : Int)) = true := by rw [decide_eq_true_eq]; omega
              have hc := HC2.out k hlt
              obtain ⟨q, cq, rfl, hq⟩ := HX.out (by omega)
              obtain ⟨p, cp, hp, hpc⟩ := hq k hlt
              have HPC := hide hpc
              clear hpc hq HX
              go_wp2_with fail
              go_loop [10] (fun i => ∃ i' : Nat, i' ≤ n k + 64 ∧ i = .int .i64 i') (fun i => n k + 64 - (intOf i).toNat)
              case atStart => exact ⟨0, Nat.zero_le _, rfl⟩
              case round =>
                obtain ⟨i, hi, rfl⟩ := hrel
                by_cases hil : i < n k + 64
                · have hpi := HPC.out i hil
                  have HMK := hide (fun W : World => markInts_big (k : Int) (i : Int) W (by omega) (by omega) (by omega) (by omega))
                  by_cases hin : i < n k
                  · obtain ⟨P, hA, hPi⟩ := HM2.out k hlt i hin
                    obtain ⟨m, hm⟩ : ∃ m : Int, Hid ((mkB (k : Int) (i : Int)) = m) := ⟨_, hide rfl⟩
                    rw [hm.out] at HMK hpi hPi
                    rw [hA] at hc
                    clear hA
                    go_wp2_with (first
                      | (go_at_call 35; refine (HMK.out _).mono ?_; rintro e w' ⟨rfl, rfl⟩)
                      | go_in)
                    exact ⟨⟨i + 1, by omega, by go_num⟩, by simp [intOf]; omega⟩
                  · obtain ⟨m, hm⟩ : ∃ m : Int, Hid ((mkB (k : Int) (i : Int)) = m) := ⟨_, hide rfl⟩
                    rw [hm.out] at HMK hpi
                    go_wp2_with (first
                      | (go_at_call 35; refine (HMK.out _).mono ?_; rintro e w' ⟨rfl, rfl⟩)
                      | go_in)
                    exact ⟨⟨i + 1, by omega, by go_num⟩, by simp [intOf]; omega⟩
                · have hi' : i = n k + 64 := by omega
                  subst hi'
                  go_wp2_with fail
                  exact ⟨⟨k + 1, by omega, by go_num⟩, by simp [intOf]; omega⟩
            · have hd : decide ((k : Int) < (j : Int)) = false := by rw [decide_eq_false_iff_not]; omega
              go_wp2_with fail
              go_ret
              exact ⟨rfl, HBe.out⟩
theorem apartInts_any (B L K cL : Nat) (av : Nat → Option Addr) (n c : Nat → Nat) (r0 : Nat → List Int) (w : World) (hT : AllB w B L K av n c r0) (hN : ∀ k, n k ≤ 17592186044100) (hK : K ≤ 5864062014805) (hcL : K ≤ cL) (hBw : B ≤ w.heap.size) :
    Calls Tryd.prog 12 #[.slice (some ⟨L, 0, none⟩) K cL] w fun e w' => e = .returned (.bool true) ∧ Below B w w' := by
  refine (apartInts_sp B L K cL av n c r0 w hT hN hK hcL hBw).mono fun e w' hh => ?_
  obtain ⟨h1, h2⟩ := hh
  refine ⟨h1, h2.os, h2.tape, h2.output, h2.size, fun b hb => h2.block b (by omega) (fun k hk e => ?_)⟩
  have := (World.ownsRow.lt (hT.own k hk) b e).1
  omega
theorem apartBytes_nil (w : World) : Calls Tryd.prog 12 #[.slice none 0 0] w fun e w' => e = .returned (.bool true) ∧ w' = w := by
  go_enter Tryd.func12, Tryd.ntmps12
  go_wp2_with fail
  go_loop [3] (fun i => i = .int .i64 0) (fun _ => 0)
  case atStart => rfl
  case round =>
    subst hrel
    go_wp2_with fail
    go_loop [5, 6] (fun g i => g = .slice none 0 0 ∧ i = .int .i64 0) (fun _ _ => 0)
    case atStart => exact ⟨rfl, rfl⟩
    case round =>
      obtain ⟨rfl, rfl⟩ := hrel
      go_wp2_with fail
      go_loop [9] (fun i => i = .int .i64 0) (fun _ => 0)
      case atStart => rfl
      case round =>
        subst hrel
        go_wp2_with fail
        go_ret
        exact ⟨rfl, rfl⟩
end Go.Proofs.YtcdhblfefpkjgaaDoor.IN
namespace Go.Proofs.YtcdhblfefpkjgaaDoor
open Go.RowKit

theorem om_other {w w' : World} {B C : Nat} {v : Value} {n : Nat} {cs : List Value} {u : Value} {K : List Int} (hu : IN.OM w C u K) (hT : w.ownsRow B 41 1 v n cs) (hg : w.grownBy w' v.ownBlock) : IN.OM w' C u K := by
  refine owns_blk hu (fun g hgu => hg.block g (World.ownsRow.lt hu g hgu).2 (fun e => ?_))
  obtain ⟨_, c1, f1, h1⟩ := okind hT g e.symm
  obtain ⟨_, c2, f2, h2⟩ := okind hu g hgu
  rw [h1] at h2
  injection h2 with h2
  injection h2 with _ h2 _
  exact absurd h2 (by decide)
theorem results_tmp4 {fn : Func} {t u v x : Tmp} (h : fn.results = #[.tmp t, .tmp u, .tmp v, .tmp x]) (tmps : Array Value) (P : Program) (w : World) :
    (results fn tmps).run P w = .ok (.tuple #[tmps.getD t undef, tmps.getD u undef, tmps.getD v undef, tmps.getD x undef]) w := by
  simp [results, h]
theorem owns_low {w : World} {B B' : Nat} {e : TypeId} {k : Nat} {v : Value} {n : Nat} {xs : List Value} (h : w.ownsRow B e k v n xs) (hB : B' ≤ B) : w.ownsRow B' e k v n xs := by
  refine ⟨h.1, ?_⟩
  rcases h.2 with h2 | ⟨g, cap, cur, hv, hg, h3⟩
  · exact .inl h2
  · exact .inr ⟨g, cap, cur, hv, Nat.le_trans hB hg, h3⟩
theorem RW.low {w : World} {B B' : Nat} {v : Value} {TL : List (Value × List Int)} (h : RW w B v TL) (hB : B' ≤ B) : RW w B' v TL := ⟨owns_low h.row hB, fun u hu => owns_low (h.own u hu) hB, h.ap, h.len⟩
/-- A row is put behind. -/
theorem RW.push {w w' : World} {B : Nat} {v v' a : Value} {TL : List (Value × List Int)} {L : List Int} (h : RW w B v TL) (hO : IN.OM w B a L) (hd : ∀ u ∈ TL, ∀ g, u.1.ownBlock = some g → a.ownBlock = some g → False)
    (ho : w'.ownsRow B 41 1 v' (TL.length + 1) (TL.map (·.1) ++ [a])) (hg : w.grownBy w' v.ownBlock) (hl : L.length ≤ 4096) : RW w' B v' (TL ++ [(a, L)]) := by
  have mem : ∀ u, u ∈ TL ++ [(a, L)] → u ∈ TL ∨ u = (a, L) := fun u hu => by simpa using hu
  refine ⟨by rw [List.length_append, List.map_append]; exact ho, fun u hu => ?_, fun i j u u' g hi hj h1 h2 => ?_, fun u hu => ?_⟩
  · rcases mem u hu with hu | hu
    · exact om_other (h.own u hu) h.row hg
    · rw [hu]; exact om_other hO h.row hg
  · have cs : ∀ (i : Nat) (u : Value × List Int), (TL ++ [(a, L)])[i]? = some u → (TL[i]? = some u) ∨ (i = TL.length ∧ u = (a, L)) := fun i u hi => by
      by_cases hlt : i < TL.length
      · rw [List.getElem?_append_left hlt] at hi; exact .inl hi
      · have := (List.getElem?_eq_some_iff.1 hi).1
        have e : i = TL.length := by simp at this; omega
        subst e
        simp at hi
        exact .inr ⟨rfl, hi.symm⟩
    rcases cs i u hi with hi | ⟨e1, rfl⟩
    · rcases cs j u' hj with hj | ⟨e2, rfl⟩
      · exact h.ap i j u u' g hi hj h1 h2
      · exact (hd u (List.mem_of_getElem? hi) g h1 h2).elim
    · rcases cs j u' hj with hj | ⟨e2, rfl⟩
      · exact (hd u' (List.mem_of_getElem? hj) g h2 h1).elim
      · omega
  · rcases mem u hu with hu | hu
    · exact h.len u hu
    · rw [hu]; exact hl
/-- The rows of the first so many things of an order. -/
def fL (hd : Nat → Nat) (n : Nat) (row : List Nat) : List (List Int) := ((row.filter fun x => decide (hd x = x)).map (memT hd n)).map ni
theorem fL_snoc (hd : Nat → Nat) (n : Nat) (row : List Nat) (x : Nat) : fL hd n (row ++ [x]) = if hd x = x then fL hd n row ++ [ni (memT hd n x)] else fL hd n row := by
  unfold fL
  by_cases h : hd x = x
  · rw [if_pos h, List.filter_append, List.map_append, List.map_append]; simp [h]
  · rw [if_neg h, List.filter_append]; simp [h]
theorem take_snoc {row : List Nat} {i x : Nat} (h : row[i]? = some x) : row.take (i + 1) = row.take i ++ [x] := by rw [List.take_add_one, h]; rfl
theorem fL_len (hd : Nat → Nat) (n : Nat) (row : List Nat) : (fL hd n row).length ≤ row.length := by unfold fL; simp; exact List.length_filter_le _ _
theorem memT_len (hd : Nat → Nat) (n x : Nat) : (memT hd n x).length ≤ n := by unfold memT; exact Nat.le_trans (List.length_filter_le _ _) (by rw [List.length_range]; exact Nat.le_refl _)
/-- What the document's lists answers. -/
inductive LsA (n : Nat) (E : List (Nat × Nat)) (pr : Nat → Int) (hd : Nat → Nat) : List (List Int) → Int → Prop
  | loop (row : List Nat) (hg : Gr' n E pr row) (hn : ∀ y, ¬ Av n E row y) (hl : row.length ≠ n) : LsA n E pr hd [] 12
  | good (row : List Nat) (hg : Gr' n E pr row) (hn : ∀ y, ¬ Av n E row y) (hl : row.length = n) : LsA n E pr hd (fL hd n row) 0
set_option maxRecDepth 100000 in
set_option maxHeartbeats 4000000 in
theorem rlists_any (n : Nat) (hv ev pv : Value) (HD : List Nat) (hd : Nat → Nat) (L : List (Int × Int)) (pr : Nat → Int) (w : World) (hH : IN.RM w hv (ni HD)) (hHl : HD.length = n) (hHd : ∀ x, x < n → HD[x]? = some (hd x)) (ho : HdOk hd n) (hE : TW.RM w ev L) (hl : L.length ≤ 1000000) (hn : n ≤ 4096) (hall : ∀ (j : Nat) (p : Int × Int), L[j]? = some p → namB (n : Int) p = true) (hp : PB w pv n pr) :
    Calls Tryd.prog 20 #[hv, ev, pv] w fun e w' => Below w.heap.size w w' ∧ ∃ (vo : Value) (X : List (List Int)) (no : Int) (TL : List (Value × List Int)), e = .returned (.tuple #[vo, .int .i64 no, .int .i64 0, .int .i64 0]) ∧ LsA n (pn L) pr hd X no ∧ RW w' w.heap.size vo TL ∧ TL.map (·.2) = X := by
  have H1 := hide (rorder_any n ev pv L pr w hE (by omega) hn hall hp)
  have HH := hide (And.intro hHl hHd)
  have HO := hide ho
  have HN := hide hn
  have HRM := hide hH
  obtain ⟨gh, ah, ch, rfl, _, hrh⟩ := hH
  have HR := hide hrh
  obtain ⟨ea, ec, rfl⟩ := TW.rm_lt hE
  obtain ⟨pa, pc, rfl, _, _⟩ := hp.is
  rw [ni_len, hHl]
  obtain ⟨le, hle⟩ : ∃ le, L.length = le := ⟨_, rfl⟩
  rw [hle] at H1 ⊢
  clear hHl hHd ho hE hl hn hall hp hrh hle
  go_enter Tryd.func20, Tryd.ntmps20
  go_wp2_with fail
  refine H1.out.mono ?_
  rintro e w1 ⟨va, okv, l, rfl, hA, hOl, hb1⟩
  obtain ⟨row, hG, hAv, rfl, hlr⟩ := hA.is
  have HB1 := hide hb1
  have HG := hide hG
  have HAV := hide hAv
  have HOL := hide hOl
  have HLR := hide hlr
  obtain ⟨aa, ca, hva⟩ := IN.OM.slice hOl
  subst hva
  clear H1 hA hG hAv hOl hlr hb1
  by_cases hrl : row.length = n
  · have HRL := hide hrl
    have hdd : decide (row.length = n) = true := decide_eq_true hrl
    have hlr2 : l = row := by rw [HLR.out, if_pos hrl]
    subst hlr2
    rw [hdd]
    rw [ni_len, hrl]
    clear hdd hrl HLR
    have HRW0 := hide (RW.nil w1 w1.heap.size)
    go_wp2_with fail
    go_loopw [12, 13] (fun vo i wr => ∃ (j : Nat) (TL : List (Value × List Int)), i = .int .i64 (j : Int) ∧ Hid (j ≤ n ∧ TL.map (·.2) = fL hd n (l.take j)) ∧ Hid (RW wr w1.heap.size vo TL) ∧ Hid (Below w1.heap.size w1 wr)) (fun _ i _ => n - (intOf i).toNat)
    case atStart => exact ⟨0, [], rfl, hide ⟨Nat.zero_le _, rfl⟩, HRW0, hide (Below.refl _ _)⟩
    case round =>
      clear HRW0
      obtain ⟨j, TL, rfl, HJ, HRW, HB⟩ := hrel
      by_cases hlt : j < n
      · obtain ⟨x, hx⟩ : ∃ x, l[j]? = some x := ⟨_, List.getElem?_eq_getElem (by rw [HRL.out]; exact hlt)⟩
        have hxn : x < n := HG.out.low.2 x (List.mem_of_getElem? hx)
        have hhx := HH.out.2 x hxn
        have HJ2 := hide (take_snoc hx)
        have HX := hide (And.intro hx hxn)
        obtain ⟨ba, rfl⟩ : ∃ ba, aa = some ⟨ba, 0, none⟩ := by
          rcases HOL.out.2 with ⟨e1, e2⟩ | ⟨g2, cap, cur, e1, _⟩
          · rw [ni_len, HRL.out] at e2; omega
          · injection e1 with e1 _ _; exact ⟨g2, e1⟩
        obtain ⟨offh, rfl, hgh, hch⟩ := HR.out.resolve_left (fun e => by
          have := congrArg List.length e
          rw [ni_len, HH.out.1] at this
          simp at this; omega)
        have HC : Hid (∀ W, Below w1.heap.size w1 W → ∀ k, k < n → W.cell? ⟨gh, offh + k, none⟩ = some (.int .i64 ((hd k : Nat) : Int))) := hide (fun W hb k hk => by
          have h1 := hch k ((hd k : Nat) : Int) (ni_at (HH.out.2 k hk))
          exact ((HB1.out.trans (hb.mono HB1.out.size)).cell (p := ⟨gh, offh + k, none⟩) hgh).trans h1)
        have HC0 : Hid (∀ W, Below w1.heap.size w1 W → W.cell? ⟨ba, j, none⟩ = some (.int .i64 ((x : Nat) : Int))) := hide (fun W hb => by
          have h1 := om_cell HOL.out hx
          exact (hb.cell (p := ⟨ba, j, none⟩) (World.ownsRow.lt HOL.out ba rfl).2).trans h1)
        have wk := wrap_up hlt (Nat.le_trans HN.out (by decide))
        have j0 : (0 : Int) ≤ (j : Int) := Int.natCast_nonneg _
        have j1 : (j : Int) < (n : Int) := Int.ofNat_lt.2 hlt
        have x0 : (0 : Int) ≤ (x : Int) := Int.natCast_nonneg _
        have x1 : (x : Int) < (n : Int) := Int.ofNat_lt.2 hxn
        have c0 := HC0.out _ HB.out
        have c1 := HC.out _ HB.out x hxn
        obtain ⟨y, hy⟩ : ∃ y, hd x = y := ⟨_, rfl⟩
        rw [hy] at c1
        clear hx hxn hhx hch hgh
        by_cases hxy : y = x
        · have HXY : Hid (hd x = x) := hide (by rw [hy, hxy])
          have hne : ((y : Int) != (x : Int)) = false := by rw [hxy]; simp
          subst hxy
          clear hy
          go_wp2_with fail
          go_quiet (fail)
          obtain ⟨W1, hW1⟩ : ∃ W1, wr.drewN nq = W1 := ⟨_, rfl⟩
          have HB2 : Hid (Below w1.heap.size w1 W1) := hide (by rw [← hW1]; exact below_dN HB.out nq)
          have HRW1 : Hid (RW W1 w1.heap.size u12 TL) := hide (by rw [← hW1]; exact HRW.out.later (below_dN (Below.refl _ _) nq))
          rw [hW1]
          clear hW1 HB HRW c0 c1
          have HB1s := hide HB2.out.size
          go_wp2_with fail
          go_loopw [14, 15] (fun vl i wq => ∃ (k : Nat), i = .int .i64 (k : Int) ∧ Hid (k ≤ n) ∧ Hid (IN.OM wq W1.heap.size vl (ni (memT hd k y))) ∧ Hid (Below W1.heap.size W1 wq)) (fun _ i _ => n - (intOf i).toNat)
          case atStart => exact ⟨0, rfl, hide (Nat.zero_le _), hide (IN.OM.nil _ _), hide (Below.refl _ _)⟩
          case round =>
            obtain ⟨k, rfl, HK, HV, HB3⟩ := hrel
            by_cases hkn : k < n
            · have HBW : Hid (Below w1.heap.size w1 wr) := hide (HB2.out.trans (HB3.out.mono HB1s.out))
              have wk2 := wrap_up hkn (Nat.le_trans HN.out (by decide))
              have k0 : (0 : Int) ≤ (k : Int) := Int.natCast_nonneg _
              have k1 : (k : Int) < (n : Int) := Int.ofNat_lt.2 hkn
              have c0 := HC0.out _ HBW.out
              have c1 := HC.out _ HBW.out k hkn
              have HM := hide (memT_succ hd k y)
              obtain ⟨m, hm⟩ : ∃ m, memT hd k y = m := ⟨_, rfl⟩
              have HML : Hid (m.length ≤ 4096) := hide (by rw [← hm]; have := memT_len hd k y; have := HN.out; omega)
              rw [hm] at HM HV
              obtain ⟨z, hz⟩ : ∃ z, hd k = z := ⟨_, rfl⟩
              rw [hz] at HM c1
              clear hm hz
              by_cases hzy : z = y
              · have heq : ((z : Int) == (y : Int)) = true := by rw [hzy]; simp
                have HM2 : Hid (memT hd (k + 1) y = m ++ [k]) := hide (by rw [HM.out, if_pos hzy])
                clear hzy HM
                go_wp2_with fail
                go_quiet (fail)
                obtain ⟨W2, hW2⟩ : ∃ W2, wr.drewN nq = W2 := ⟨_, rfl⟩
                have HB4 : Hid (Below W1.heap.size W1 W2) := hide (by rw [← hW2]; exact below_dN HB3.out nq)
                have HV2 : Hid (IN.OM W2 W1.heap.size u14 (ni m)) := hide (by rw [← hW2]; exact HV.out.later (below_dN (Below.refl _ _) nq))
                rw [hW2]
                clear hW2 HB3 HV HBW c0 c1
                go_wp2_with (at_builtin; refine IN.wp_append_kept rfl _ _ rfl W1.heap.size _ (ni m) (k : Int) _ rfl rfl (World.ownsRow.alloc HV2.out _) ?x1 ?x2 ?x3 ?_)
                case x1 => exact cell_of_row _ _ 0 _ _ _ (alloc_new W2 _)
                case x2 => have := HB4.out.size; simp; omega
                case x3 => rw [ni_len]; have := HML.out; omega
                intro v' w' hO' hg' _
                have HV3 : Hid (IN.OM w' W1.heap.size v' (ni (memT hd (k + 1) y))) := hide (by rw [HM2.out, ni_app]; exact hO')
                have HB5 : Hid (Below W1.heap.size W1 w') := hide ((HB4.out.alloc HB4.out.size _).grown hg'.1 (by have := HB4.out.size; simp; omega) (fun q hq => (World.ownsRow.lt HV2.out q hq).1))
                clear hO' hg' HV2 HB4
                go_wp2_with fail
                go_roundw
                case rel => exact ⟨k + 1, by go_num, hide hkn, HV3, HB5⟩
                case measure => first | (rw [wk2]; simp [intOf]; omega) | (simp [intOf]; omega)
              · have heq : ((z : Int) == (y : Int)) = false := by rw [beq_eq_false_iff_ne]; omega
                have HM2 : Hid (memT hd (k + 1) y = m) := hide (by rw [HM.out, if_neg hzy])
                clear hzy HM
                go_wp2_with fail
                go_quiet (fail)
                have HB4 := hide (below_dN HB3.out nq)
                have HV2 := hide (HV.out.later (below_dN (Below.refl _ _) nq))
                go_wp2_with fail
                go_roundw
                case rel => exact ⟨k + 1, by go_num, hide hkn, hide (by rw [HM2.out]; exact HV2.out), HB4⟩
                case measure => first | (rw [wk2]; simp [intOf]; omega) | (simp [intOf]; omega)
            · have HKN : Hid (k = n) := hide (by have := HK.out; omega)
              have HV2 : Hid (IN.OM wr W1.heap.size u14 (ni (memT hd n y))) := hide (by rw [← HKN.out]; exact HV.out)
              have HRW2 : Hid (RW wr w1.heap.size u12 TL) := hide (HRW1.out.later HB3.out)
              obtain ⟨it6, hit6, hz06, hz16, hz26⟩ := info_parts Tryd.infoRow
              have HTL : Hid (TL.length ≤ 4096) := hide (by
                have h := congrArg List.length HJ.out.2
                rw [List.length_map] at h
                have h2 := fL_len hd n (l.take j)
                rw [List.length_take] at h2
                have := HN.out
                have := HJ.out.1
                omega)
              have HO6 := hide HRW2.out.row
              obtain ⟨cs6, hcs6⟩ : ∃ cs, TL.map (·.1) = cs := ⟨_, rfl⟩
              rw [hcs6] at HO6
              have HCS6 := hide hcs6
              have HWS : Hid (w1.heap.size ≤ wr.heap.size) := hide (by have := HB2.out.size; have := HB3.out.size; omega)
              clear hcs6
              obtain ⟨la, lc, hu14⟩ := IN.OM.slice HV2.out
              obtain ⟨lm, hlm⟩ : ∃ lm, (ni (memT hd n y)).length = lm := ⟨_, rfl⟩
              rw [hlm] at hu14
              subst hu14
              clear hlm
              go_wp2_with (first
                | (at_builtin; refine wpList_append_own_at _ rfl _ _ 29 rfl w1.heap.size 41 it6 (.slice none 0 0) 1 24 Tryd.underlying29 hit6 hz06 hz16 hz26 rfl (by decide) _ _ _ rfl (HO6.out.alloc _) ⟨_, 0, none⟩ 1 1 [.slice la lm lc] rfl rfl ?c1 ?c2 ?c3 ?c4 ?c5 ?_))
              case c3 => have := HTL.out; unfold maxLen; omega
              case c4 => have := HTL.out; omega
              case c5 => have := HWS.out; simp; omega
              case c1 => exact fun j u hj => by rw [Addr.add_lit, cell_of_row _ _ _ _ _ _ (alloc_new wr _), Nat.zero_add]; simpa using hj
              case c2 => first | rfl | exact ⟨rfl, trivial⟩ | (intro u hu; simp at hu; subst hu; rfl)
              intro v6 w6 hown6 hgrow6 _ _
              rw [← HCS6.out] at hown6
              have hbA := (Below.refl wr.heap.size wr).alloc (Nat.le_refl _) (.cells #[(Value.slice la lm lc)] 41)
              have hlow : ∀ u ∈ TL, ∀ g, u.1.ownBlock = some g → (Value.slice la lm lc).ownBlock = some g → False := fun u hu g h1 h2 => by
                have e1 := (World.ownsRow.lt (HRW1.out.own u hu) g h1).2
                have e2 := (World.ownsRow.lt HV2.out g h2).1
                omega
              have HRW6 : Hid (RW w6 w1.heap.size v6 (TL ++ [((Value.slice la lm lc), ni (memT hd n y))])) := hide ((HRW2.out.later hbA).push (IN.OM.base (HV2.out.later hbA) (fun g hg => by have := (World.ownsRow.lt HV2.out g hg).1; have := HB1s.out; omega)) hlow hown6 hgrow6 (by rw [ni_len]; have := memT_len hd n y; have := HN.out; omega))
              have HB6 : Hid (Below w1.heap.size w1 w6) := hide (((HB2.out.trans (HB3.out.mono HB1s.out)).trans (hbA.mono HWS.out)).grown hgrow6 (by have := HWS.out; simp; omega) (fun q hq => (World.ownsRow.lt HRW2.out.row q hq).1))
              clear hown6 hgrow6 HO6 HCS6 hit6 hz06 hz16 hz26
              go_wp2_with fail
              go_roundw
              case rel => exact ⟨j + 1, _, by go_num, hide ⟨hlt, by rw [HJ2.out, fL_snoc, if_pos HXY.out, List.map_append, HJ.out.2]; rfl⟩, HRW6, HB6⟩
              case measure => first | (rw [wk]; simp [intOf]; omega) | (simp [intOf]; omega)
        · have HXY : Hid (¬ hd x = x) := hide (by rw [hy]; exact hxy)
          have hne : ((y : Int) != (x : Int)) = true := by rw [bne_iff_ne]; omega
          clear hy
          go_wp2_with fail
          go_quiet (fail)
          have HB2 := hide (below_dN HB.out nq)
          have HRW1 := hide (HRW.out.later (below_dN (Below.refl _ _) nq))
          go_wp2_with fail
          go_roundw
          case rel => exact ⟨j + 1, TL, by go_num, hide ⟨hlt, by rw [HJ2.out, fL_snoc, if_neg HXY.out]; exact HJ.out.2⟩, HRW1, HB2⟩
          case measure => first | (rw [wk]; simp [intOf]; omega) | (simp [intOf]; omega)
      · have hjn : j = n := by have := HJ.out.1; omega
        have HTL : Hid (TL.map (·.2) = fL hd n l) := hide (by have h := HJ.out.2; rw [hjn, List.take_of_length_le (by rw [HRL.out]; exact Nat.le_refl _)] at h; exact h)
        go_wp2_with fail
        (try simp only [Exit.inBlock, Exit.then])
        refine bodyPost_ret (results_tmp4 rfl _ _ _) rfl ?_
        exact ⟨HB1.out.trans (HB.out.mono HB1.out.size), _, _, 0, TL, rfl, .good l HG.out HAV.out HRL.out, HRW.out.low HB1.out.size, HTL.out⟩
  · have HRL := hide hrl
    have hdd : decide (row.length = n) = false := decide_eq_false hrl
    rw [hdd]
    clear hdd hrl HLR
    go_wp2_with fail
    (try simp only [Exit.inBlock, Exit.then])
    refine bodyPost_ret (results_tmp4 rfl _ _ _) rfl ?_
    exact ⟨HB1.out, .slice none 0 0, [], 12, [], rfl, .loop row HG.out HAV.out HRL.out, RW.nil _ _, rfl⟩
end Go.Proofs.YtcdhblfefpkjgaaDoor
namespace Go.Proofs.YtcdhblfefpkjgaaDoor
open Go.RowKit

/-- The document's priorities behind the first j. -/
def pjT (hd : Nat → Nat) (pr : Nat → Int) (j x : Nat) : Int := upT pr (memT hd j x) (pr x)
theorem pjT_zero (hd : Nat → Nat) (pr : Nat → Int) (x : Nat) : pjT hd pr 0 x = pr x := rfl
theorem pjT_succ (hd : Nat → Nat) (pr : Nat → Int) (j x : Nat) : pjT hd pr (j + 1) x = if x = hd j then max (pjT hd pr j x) (pr j) else pjT hd pr j x := by
  unfold pjT
  rw [memT_succ]
  by_cases h : hd j = x
  · rw [if_pos h, if_pos h.symm, upT_snoc]
  · rw [if_neg h, if_neg (fun e => h e.symm)]
theorem pjT_um {hd : Nat → Nat} {pr : Nat → Int} {n x : Nat} (hx : x < n) (hh : hd x = x) : pjT hd pr n x = um pr (memT hd n x) := by
  have hm : x ∈ memT hd n x := by unfold memT; rw [List.mem_filter, decide_eq_true_eq]; exact ⟨List.mem_range.2 hx, hh⟩
  unfold pjT
  apply Int.le_antisymm
  · rcases up_is pr (memT hd n x) (pr x) with h | ⟨y, hy, h⟩
    · rw [h]; exact um_ge hm
    · rw [h]; exact um_ge hy
  · obtain ⟨y, hy, h⟩ := um_is (pr := pr) (List.ne_nil_of_mem hm)
    rw [h]; exact (up_ge pr (memT hd n x) (pr x)).2 y hy
theorem btw_grp {n : Nat} {ps : List (Nat × Nat)} {L : List (Int × Int)} (hall : ∀ (j : Nat) (p : Int × Int), L[j]? = some p → namB (n : Int) p = true) : pn (btw (grp n ps) L) = (pn L).map fun p => (rk ps p.1, rk ps p.2) := by
  unfold pn btw
  rw [List.map_map, List.map_map]
  refine List.map_congr_left fun p hp => ?_
  obtain ⟨j, hj⟩ := List.getElem?_of_mem hp
  have h := namB_iff.1 (hall j p hj)
  simp only [Function.comp, Int.toNat_natCast]
  have g : ∀ x, x < n → (grp n ps).getD x 0 = rk ps x := fun x hx => by rw [List.getD_eq_getElem?_getD, grp_at ps hx]; rfl
  rw [g _ (by omega), g _ (by omega)]
theorem nam_grp {n : Nat} {ps : List (Nat × Nat)} {L : List (Int × Int)} (hall : ∀ (j : Nat) (p : Int × Int), L[j]? = some p → namB (n : Int) p = true) :
    ∀ (j : Nat) (p : Int × Int), (btw (grp n ps) L)[j]? = some p → namB (n : Int) p = true := by
  intro j p hp
  unfold btw at hp
  rw [List.getElem?_map] at hp
  obtain ⟨q, hq, rfl⟩ := Option.map_eq_some_iff.1 hp
  have h1 := namB_iff.1 (hall j q hq)
  have g : ∀ x, x < n → (grp n ps).getD x 0 = rk ps x := fun x hx => by rw [List.getD_eq_getElem?_getD, grp_at ps hx]; rfl
  have e1 := (rk_le ps q.1.toNat).1
  have e2 := (rk_le ps q.2.toNat).1
  rw [g _ (by omega), g _ (by omega), namB_iff]
  exact ⟨⟨Int.natCast_nonneg _, Int.natCast_nonneg _⟩, by show ((rk ps q.1.toNat : Nat) : Int) < n; omega, by show ((rk ps q.2.toNat : Nat) : Int) < n; omega⟩
/-- The document's answer is one of the cases. -/
theorem ans_of {R : List (List UInt8)} {T : List (List Lk)} {pr : Nat → Int} {X : List (List Int)} {no : Int} (hlen : T.length = R.length) (h : tooB R.length (KT T) = false) (ho : Once R R.length) (hr : Rgt R T T.length 0)
    (hA : LsA R.length (pn (btw (grp R.length (pn (tU (wOf R) T T.length))) (tU (bOf R) T T.length))) (pjT (hdR R T) pr R.length) (hdR R T) X no) : ∃ X', X = X'.map ni ∧ AnsR R T pr X' (no, 0, 0) := by
  have hN2 := tU_nam hlen (fun x q hx hq => bOf_nam (R := R) hx hq) hr
  have hok := hdR_ok R T R.length
  have hEE : pn (btw (grp R.length (pn (tU (wOf R) T T.length))) (tU (bOf R) T T.length)) = gE (hsR R T) (eR R T) := by
    rw [btw_grp hN2]
    unfold eR hsR
    rw [pn_btw hN2, gE_nu hok _ (pn_mem hN2)]
    rfl
  have hrng : ∀ p ∈ eR R T, p.1 < (hsR R T).length ∧ p.2 < (hsR R T).length := by
    unfold eR hsR
    rw [pn_btw hN2]
    exact nu_rng hok _ (pn_mem hN2)
  have hrs : Rs' (hsR R T) := hsT_rs _ _
  have hlt : ∀ x ∈ hsR R T, x < R.length := hsT_lt
  have hpr : ∀ k, k < (hsR R T).length → pjT (hdR R T) pr R.length (gT (hsR R T) k) = prR R T pr k := fun k hk => by
    have hm := mem_hsT.1 (gT_mem hk)
    refine (pjT_um hm.1 hm.2).trans ?_
    unfold prR
    rw [List.getD_eq_getElem?_getD, List.getElem?_map, gT_at hk]
    rfl
  rw [hEE] at hA
  cases hA with
  | loop row hg hn hl =>
    refine ⟨[], rfl, .loop h ho hr (pk (hsR R T) row) ((gr_g hrs hlt hrng hg).congr hpr) (none_g hrs hlt hrng hn) (fun e => hl ((all_g hrs hlt hrng hg hn).2 e))⟩
  | good row hg hn hl =>
    refine ⟨(pk (hsR R T) row).map fun k => gX (hdR R T) R.length R.length k, ?_, .good h ho hr (pk (hsR R T) row) ((gr_g hrs hlt hrng hg).congr hpr) (none_g hrs hlt hrng hn) ((all_g hrs hlt hrng hg hn).1 hl)⟩
    unfold fL
    congr 1
    have := lists_same (hd := hdR R T) (n := R.length) (row := row) hg.low.2
    exact this.symm
end Go.Proofs.YtcdhblfefpkjgaaDoor
