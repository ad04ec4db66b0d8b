/-
  My own text: rows of pairs that were handed out have memory of their own.
-/
import Derived.Test.YtegemfkadclnkaaPX1
import Derived.Deep.DeepAppendRoom
import Derived.Deep.AppendLies
import Derived.ArgAppend
import Derived.OneCell
import Derived.Deep.RegionWith
namespace Go.Proofs.Ytegemfkadclnkaa
open Go.RowKit

theorem Try.infoMS : (Try.prog.info? 29).map (fun i => (i.zero, i.size, i.bytes)) = some (some (.slice none 0 0), 1, 24) := by kernel_rfl
/-- The value v of world w has become v' of world w', and nothing else that was there has changed. -/
structure Grew (w : World) (v : Value) (w' : World) (v' : Value) : Prop where
  grown : w.grownBy w' v.ownBlock
  lies : ∀ g, v'.ownBlock = some g → v.ownBlock = some g ∨ w.heap.size ≤ g
theorem Grew.refl (w : World) (v : Value) : Grew w v w v := ⟨⟨rfl, rfl, rfl, Nat.le_refl _, fun _ _ _ => rfl⟩, fun _ h => .inl h⟩
theorem Grew.trans {w w1 w2 : World} {v v1 v2 : Value} (h : Grew w v w1 v1) (k : Grew w1 v1 w2 v2) : Grew w v w2 v2 := by
  refine ⟨⟨k.grown.os.trans h.grown.os, k.grown.tape.trans h.grown.tape, k.grown.output.trans h.grown.output, Nat.le_trans h.grown.size k.grown.size, fun j hj hne => ?_⟩, fun g hg => ?_⟩
  · refine (k.grown.block j (Nat.lt_of_lt_of_le hj h.grown.size) ?_).trans (h.grown.block j hj hne)
    intro e
    rcases h.lies j e.symm with h1 | h1
    · exact hne h1.symm
    · omega
  · rcases k.lies g hg with h1 | h1
    · exact h.lies g h1
    · exact .inr (Nat.le_trans h.grown.size h1)
theorem Grew.ofBelow {w w1 w2 : World} {v v2 : Value} (hb : Below w.heap.size w w1) (h : Grew w1 v w2 v2) : Grew w v w2 v2 := by
  refine ⟨⟨h.grown.os.trans hb.os, h.grown.tape.trans hb.tape, h.grown.output.trans hb.output, Nat.le_trans hb.size h.grown.size, fun j hj hne => ?_⟩, fun g hg => ?_⟩
  · exact (h.grown.block j (Nat.lt_of_lt_of_le hj hb.size) hne).trans (hb.block j hj)
  · rcases h.lies g hg with h1 | h1
    · exact .inl h1
    · exact .inr (Nat.le_trans hb.size h1)
/-- The mark of place i in row k. -/
def mq5 (k i : Int) : Pr := (-10 - k, i)
def mks (k n : Nat) : List Pr := (List.range n).map fun i : Nat => mq5 (k : Int) (i : Int)
theorem mks_len (k n : Nat) : (mks k n).length = n := by simp [mks]
theorem mks_at {k n j : Nat} (h : j < n) : (mks k n)[j]? = some (mq5 (k : Int) (j : Int)) := by unfold mks; rw [List.getElem?_map, List.getElem?_range h]; rfl
theorem mks_succ (k n : Nat) : mks k (n + 1) = mks k n ++ [mq5 (k : Int) (n : Int)] := by unfold mks; rw [List.range_succ]; simp
theorem mc_set : ∀ (l : List Pr) (i : Nat) (p : Pr), mc (l.set i p) = ((mc l).set (i * 2) (.int .i64 p.1)).set (i * 2 + 1) (.int .i64 p.2)
  | [], _, _ => rfl
  | q :: t, 0, p => rfl
  | q :: t, i + 1, p => by
    show _ :: _ :: mc (t.set i p) = _
    rw [mc_set t i p, show (i + 1) * 2 = i * 2 + 1 + 1 by omega]
    rfl
theorem OM.slice {w : World} {B : Nat} {v : Value} {L : List Pr} (h : OM w B v L) : ∃ a cap, v = .slice a L.length cap := rm_lt h.rm
theorem OM.base {w : World} {B C : Nat} {v : Value} {L : List Pr} (h : OM w B v L) (hc : ∀ g, v.ownBlock = some g → C ≤ g) : OM w C v L := by
  refine ⟨h.1, ?_⟩
  rcases h.2 with h2 | ⟨g, cap, cur, hv, hg, hh, h3⟩
  · exact .inl h2
  · exact .inr ⟨g, cap, cur, hv, hc g (by rw [hv]; rfl), hh, h3⟩
theorem ownsRow_kind {w : World} {B : Nat} {e : TypeId} {size : Nat} {v : Value} {n : Nat} {xs : List Value} (h : w.ownsRow B e size v n xs) : ∀ g, v.ownBlock = some g → ∃ c fz, w.heap[g]? = some (.cells c e fz) := by
  intro g hg
  rcases h.2 with ⟨rfl, _⟩ | ⟨g', cap, cur, rfl, hb, hh, h3⟩
  · cases hg
  · cases hg; exact ⟨cur, (0, 0), hh⟩

/-- A mark behind an own row: cells below the row's end stay. -/
theorem wp_append_kept {w : World} {ops : Array Oper} {rest : List Oper} {o : Oper} {a : Act} {Q : Exit → Act → World → Prop} (hgd : o.guard = none) (s x : Operand)
    (ho : o.op = .call { callee := .builtin .append, args := #[s, x], argTypes := #[29, 29] }) (B : Nat) (v : Value) (l : List Pr) (c : Pr) (b : Nat) (hs : a.eval s = v) (hx : a.eval x = .slice (some ⟨b, 0, none⟩) 1 1)
    (hown : OM w B v l) (hc : w.cell? ⟨b, 0, none⟩ = some (.int .i64 c.1)) (hc1 : w.cell? ⟨b, 1, none⟩ = some (.int .i64 c.2)) (hB : B ≤ w.heap.size) (hsz : l.length + 1 ≤ 8796093022208)
    (h : ∀ v' w', OM w' B v' (l ++ [c]) → Grew w v w' v' → (∀ P j u, j < l.length * 2 → w.cell? ⟨P, j, none⟩ = some u → w'.cell? ⟨P, j, none⟩ = some u) → wpList Try.prog ops Q rest (a.put o.dst v') w') : wpList Try.prog ops Q (o :: rest) a w := by
  obtain ⟨i0, hi, hz0, hz1, hz2⟩ := info_parts Try.infoMk
  have hnews : ∀ j u, ([Value.int .i64 c.1, Value.int .i64 c.2] : List Value)[j]? = some u → w.cell? ((⟨b, 0, none⟩ : Addr).add j) = some u := by
    intro j u hj
    match j, hj with
    | 0, hj => simp at hj; subst hj; simpa [Addr.add] using hc
    | 1, hj => simp at hj; subst hj; simpa [Addr.add] using hc1
  have h1 : ∀ u ∈ ([Value.int .i64 c.1, Value.int .i64 c.2] : List Value), u.oneCell' = true := by intro u hu; simp at hu; rcases hu with rfl | rfl <;> rfl
  have hbv : mc (l ++ [c]) = mc l ++ [Value.int .i64 c.1, Value.int .i64 c.2] := by rw [mc_app]; rfl
  have hlen : (l ++ [c]).length = l.length + 1 := by simp
  have hfull : ∀ (ao : Option Addr) (cap : Nat), v = .slice ao l.length cap → (ao = none → l.length = 0 ∧ cap = 0) → (∀ q, ao = some q → ∀ j u, (mc l)[j]? = some u → w.cell? (q.add j) = some u) → cap < l.length + 1 → wpList Try.prog ops Q (o :: rest) a w := by
    intro ao cap hv hno hold hf
    refine wpList_append_grows w hgd s x 29 ho 25 i0 (.agg #[.int .i64 0, .int .i64 0]) 2 16 Try.underlying29 hi hz0 hz1 hz2 rfl (by decide) ao l.length cap (mc l) (hs.trans hv) hno (mc_len l) hold ⟨b, 0, none⟩ 1 1 [.int .i64 c.1, .int .i64 c.2] hx rfl hnews h1 hf (by unfold maxLen; omega) (by omega) ?_
    intro v' w' hown' hg
    have hO : OM w' w.heap.size v' (l ++ [c]) := by unfold OM; rw [hlen, hbv]; exact hown'
    refine h v' w' (hO.base fun g hg' => ?_) ⟨⟨hg.os, hg.tape, hg.output, hg.size, fun k hk _ => hg.block k hk (by intro e; cases e)⟩, fun g hg' => .inr (World.ownsRow.lt hO g hg').1⟩ (fun P j u hj hu => hg.cell hu (by intro e; cases e))
    have := (World.ownsRow.lt hO g hg').1
    omega
  rcases hown.2 with ⟨hv, h0⟩ | ⟨g, cap, cur, hv, hb, hh, hn2, hn3⟩
  · refine hfull none 0 (by rw [hv, h0]) (fun _ => ⟨h0, rfl⟩) (fun q hq => by cases hq) (by omega)
  · by_cases hroom : l.length + 1 ≤ cap
    · have hown2 := hown
      unfold OM at hown2
      rw [hv] at hown2
      refine wpList_append_own_spare w hgd s x 29 ho B 25 i0 2 Try.underlying29 hi hz1 g l.length cap (mc l) (hs.trans hv) hown2 ⟨b, 0, none⟩ 1 1 [.int .i64 c.1, .int .i64 c.2] hx rfl hnews h1 hroom ?_
      intro w' hown' hg
      have hO : OM w' B (.slice (some ⟨g, 0, none⟩) (l.length + 1) cap) (l ++ [c]) := by unfold OM; rw [hlen, hbv]; exact hown'
      refine h _ w' hO ⟨by rw [hv]; exact hg, fun g' hg' => .inl (by rw [hv]; exact hg')⟩ (fun P j u hj hu => ?_)
      by_cases e : P = g
      · subst e
        rw [World.ownsRow.cellAt hown2 j (by omega)] at hu
        rw [World.ownsRow.cellAt hown' j (by omega), List.getElem?_append_left (by rw [mc_len]; exact hj)]
        exact hu
      · exact hg.cell hu (by intro h2; exact e (Option.some.inj h2))
    · refine hfull (some ⟨g, 0, none⟩) cap hv (fun hq => by cases hq) (fun q hq => ?_) (by omega)
      cases hq
      exact World.ownsRow.cells hown (by rw [hv]; rfl)

/-- Lists of bytes in a list at L, each with memory of its own. -/
structure AllM (w : World) (B L K : Nat) (av : Nat → Option Addr) (n c : Nat → Nat) (r : Nat → List Pr) : Prop where
  lt : L < w.heap.size
  cells : ∀ k, k < K → w.cell? ⟨L, k, none⟩ = some (.slice (av k) (n k) (c k))
  own : ∀ k, k < K → OM w B (.slice (av k) (n k) (c k)) (r k)
  notL : ∀ k, k < K → (Value.slice (av k) (n k) (c k)).ownBlock ≠ some L
  apart : ∀ j k g, j < K → k < K → (Value.slice (av j) (n j) (c j)).ownBlock = some g → (Value.slice (av k) (n k) (c k)).ownBlock = some g → j = k
theorem AllM.len {w : World} {B L K : Nat} {av : Nat → Option Addr} {n c : Nat → Nat} {r : Nat → List Pr} (h : AllM w B L K av n c r) {k : Nat} (hk : k < K) : (r k).length = n k := by
  obtain ⟨ad, cap, e⟩ := (h.own k hk).slice
  injection e with _ e2 _
  exact e2.symm
theorem AllM.at {w : World} {B L K : Nat} {av : Nat → Option Addr} {n c : Nat → Nat} {r : Nat → List Pr} (h : AllM w B L K av n c r) {k i : Nat} (hk : k < K) (hi : i < n k) : ∃ P, av k = some ⟨P, 0, none⟩ ∧ B ≤ P ∧ P < w.heap.size ∧ P ≠ L := by
  have h1 := h.own k hk
  unfold OM at h1
  obtain ⟨g, cap, e, h2, h3⟩ := World.ownsRow.form h1 (by rw [h.len hk]; omega)
  have hn := h.notL k hk
  rw [e] at hn
  injection e with e1 e2 e3
  exact ⟨g, e1, h2, h3, fun e4 => hn (by rw [← e4]; rfl)⟩
theorem AllM.set {w : World} {B L K : Nat} {av : Nat → Option Addr} {n c : Nat → Nat} {r : Nat → List Pr} (h : AllM w B L K av n c r) {k i P : Nat} (hk : k < K) (hi : i < n k) (hA : av k = some ⟨P, 0, none⟩) (x : Pr) :
    AllM ((w.setCell ⟨P, i * 2, none⟩ (.int .i64 x.1)).setCell ⟨P, i * 2 + 1, none⟩ (.int .i64 x.2)) B L K av n c (fun j => if j = k then (r k).set i x else r j) := by
  have h1 := h.own k hk
  have hl := h.len hk
  have hb : (Value.slice (av k) (n k) (c k)).ownBlock = some P := by rw [hA]; rfl
  unfold OM at h1
  rw [hA, hl] at h1
  obtain ⟨h2, h3⟩ := h1.stored (i * 2) (.int .i64 x.1)
  obtain ⟨h4, h5⟩ := h2.stored (i * 2 + 1) (.int .i64 x.2)
  have hne : ¬ some L = some P := fun e => h.notL k hk (by rw [hb]; exact e.symm)
  refine ⟨by simpa using h.lt, fun j hj => h5.cell (h3.cell (h.cells j hj) hne) hne, fun j hj => ?_, h.notL, h.apart⟩
  by_cases e : j = k
  · subst e
    rw [if_pos rfl]
    unfold OM
    rw [List.length_set, hl, mc_set, hA]
    exact h4
  · rw [if_neg e]
    have hd : (Value.slice (av j) (n j) (c j)).ownBlock ≠ some P := fun e2 => e (h.apart j k P hj hk e2 hb)
    exact ownsRow_setCell_other (a := ⟨P, i * 2 + 1, none⟩) (ownsRow_setCell_other (a := ⟨P, i * 2, none⟩) (h.own j hj) hd _) hd _
theorem AllM.later {w w' : World} {B L K : Nat} {av : Nat → Option Addr} {n c : Nat → Nat} {r : Nat → List Pr} (h : AllM w B L K av n c r) (hb : Below w.heap.size w w') : AllM w' B L K av n c r :=
  ⟨Nat.lt_of_lt_of_le h.lt hb.size, fun k hk => (hb.cell (p := ⟨L, k, none⟩) h.lt).trans (h.cells k hk), fun k hk => owns_lat (h.own k hk) hb, h.notL, h.apart⟩
theorem AllM.drew {w : World} {B L K : Nat} {av : Nat → Option Addr} {n c : Nat → Nat} {r : Nat → List Pr} (h : AllM w B L K av n c r) : AllM w.drew B L K av n c r := ⟨h.lt, h.cells, h.own, h.notL, h.apart⟩
/-- The marks that are laid: all of the lists before k, i of list k. -/
def MkM (K : Nat) (n : Nat → Nat) (r : Nat → List Pr) (k i : Nat) : Prop := ∀ j, j < K → ∀ m, m < n j → (j < k ∨ (j = k ∧ m < i)) → (r j)[m]? = some (mq5 (j : Int) (m : Int))
theorem MkM.next {K : Nat} {n : Nat → Nat} {r : Nat → List Pr} {k i : Nat} (h : MkM K n r k i) (hi : n k ≤ i) : MkM K n r (k + 1) 0 := by
  intro j hj m hm hl
  refine h j hj m hm ?_
  rcases hl with hl | hl
  · by_cases e : j = k
    · subst e; exact .inr ⟨rfl, by omega⟩
    · exact .inl (by omega)
  · omega
theorem MkM.set {K : Nat} {n : Nat → Nat} {r : Nat → List Pr} {k i : Nat} (h : MkM K n r k i) (hl : (r k).length = n k) (hi : i < n k) : MkM K n (fun j => if j = k then (r k).set i (mq5 (k : Int) (i : Int)) else r j) k (i + 1) := by
  intro j hj m hm hlt
  by_cases e : j = k
  · subst e
    simp only [if_true]
    by_cases e2 : m = i
    · subst e2
      rw [List.getElem?_set_self (by omega)]
    · rw [List.getElem?_set_ne (by omega)]
      exact h j hj m hm (.inr ⟨rfl, by omega⟩)
  · simp only [if_neg e]
    exact h j hj m hm (.inl (by omega))
theorem MkM.full {K : Nat} {n : Nat → Nat} {r : Nat → List Pr} (h : MkM K n r K 0) {k : Nat} (hk : k < K) (hl : (r k).length = n k) : r k = mks k (n k) := by
  apply List.ext_getElem?
  intro m
  by_cases hm : m < n k
  · rw [h k hk m hm (.inl hk), mks_at hm]
  · rw [List.getElem?_eq_none (by omega), List.getElem?_eq_none (by rw [mks_len]; omega)]

/-- While the lists are grown: those grown, those still to grow, the old places. -/
structure GrM (w1 w2 : World) (B L K : Nat) (av : Nat → Option Addr) (n c : Nat → Nat) (gl : List Value) (k : Nat) : Prop where
  size : w1.heap.size ≤ w2.heap.size
  cells : ∀ j, j < K → w2.cell? ⟨L, j, none⟩ = some (.slice (av j) (n j) (c j))
  rest : ∀ j, k ≤ j → j < K → OM w2 B (.slice (av j) (n j) (c j)) (mks j (n j))
  marks : ∀ j, j < K → ∀ i, i < n j → ∀ P, av j = some ⟨P, 0, none⟩ → (w2.cell? ⟨P, i * 2, none⟩ = some (.int .i64 (mq5 (j : Int) (i : Int)).1) ∧ w2.cell? ⟨P, i * 2 + 1, none⟩ = some (.int .i64 (mq5 (j : Int) (i : Int)).2))
  done : ∀ j, j < k → ∃ g, gl[j]? = some g ∧ OM w2 B g (mks j (n j + 64)) ∧ ∀ b, g.ownBlock = some b → (Value.slice (av j) (n j) (c j)).ownBlock = some b ∨ w1.heap.size ≤ b
/-- What is known of the places. -/
structure PlM (w1 : World) (B L K : Nat) (av : Nat → Option Addr) (n c : Nat → Nat) : Prop where
  lt : L < w1.heap.size
  notL : ∀ k, k < K → (Value.slice (av k) (n k) (c k)).ownBlock ≠ some L
  apart : ∀ j k g, j < K → k < K → (Value.slice (av j) (n j) (c j)).ownBlock = some g → (Value.slice (av k) (n k) (c k)).ownBlock = some g → j = k
  below : ∀ k, k < K → ∀ g, (Value.slice (av k) (n k) (c k)).ownBlock = some g → B ≤ g ∧ g < w1.heap.size
  some : ∀ k, k < K → 0 < n k → ∃ P, av k = some ⟨P, 0, none⟩
theorem AllM.pl {w : World} {B L K : Nat} {av : Nat → Option Addr} {n c : Nat → Nat} {r : Nat → List Pr} (h : AllM w B L K av n c r) : PlM w B L K av n c :=
  ⟨h.lt, h.notL, h.apart, fun k hk g hg => World.ownsRow.lt (h.own k hk) g hg, fun k hk hn => by obtain ⟨P, hP, _⟩ := h.at hk hn; exact ⟨P, hP⟩⟩
theorem AllM.gr {w : World} {B L K : Nat} {av : Nat → Option Addr} {n c : Nat → Nat} {r : Nat → List Pr} (h : AllM w B L K av n c r) (hm : MkM K n r K 0) : GrM w w B L K av n c [] 0 := by
  refine ⟨Nat.le_refl _, h.cells, fun j _ hj => ?_, fun j hj i hi P hP => ?_, fun j hj => by omega⟩
  · rw [← hm.full hj (h.len hj)]; exact h.own j hj
  · have h1 := h.own j hj
    unfold OM at h1
    rw [hP, h.len hj] at h1
    obtain ⟨e0, e1⟩ := mc_at (hm j hj i hi (.inl hj))
    exact ⟨(World.ownsRow.cellAt h1 (i * 2) (by omega)).trans e0, (World.ownsRow.cellAt h1 (i * 2 + 1) (by omega)).trans e1⟩
/-- List k has been grown. -/
theorem GrM.step {w1 w2 w3 : World} {B L K : Nat} {av : Nat → Option Addr} {n c : Nat → Nat} {gl : List Value} {k : Nat} (hP : PlM w1 B L K av n c) (h : GrM w1 w2 B L K av n c gl k) (hk : k < K) (hl : gl.length = k) {g : Value}
    (ho : OM w3 B g (mks k (n k + 64))) (hg : Grew w2 (.slice (av k) (n k) (c k)) w3 g) (hm : ∀ i, i < n k → ∀ P, av k = some ⟨P, 0, none⟩ → (w3.cell? ⟨P, i * 2, none⟩ = some (.int .i64 (mq5 (k : Int) (i : Int)).1) ∧ w3.cell? ⟨P, i * 2 + 1, none⟩ = some (.int .i64 (mq5 (k : Int) (i : Int)).2))) : GrM w1 w3 B L K av n c (gl ++ [g]) (k + 1) := by
  refine ⟨Nat.le_trans h.size hg.grown.size, fun j hj => hg.grown.cell (h.cells j hj) (fun e => hP.notL k hk e.symm), fun j hkj hj => ?_, fun j hj i hi P hPj => ?_, fun j hj => ?_⟩
  · refine World.ownsRow.kept (h.rest j (by omega) hj) hg.grown ?_
    rcases e : (Value.slice (av j) (n j) (c j)).ownBlock with _ | b
    · exact .inl rfl
    · refine .inr (fun e2 => ?_)
      have := hP.apart j k b hj hk e e2.symm
      omega
  · by_cases e : j = k
    · subst e; exact hm i hi P hPj
    · have hne : ¬ some P = (Value.slice (av k) (n k) (c k)).ownBlock := fun e2 => e (hP.apart j k P hj hk (by rw [hPj]; rfl) e2.symm)
      exact ⟨hg.grown.cell (h.marks j hj i hi P hPj).1 hne, hg.grown.cell (h.marks j hj i hi P hPj).2 hne⟩
  · by_cases e : j = k
    · subst e
      refine ⟨g, by rw [← hl]; simp, ho, fun b hb => ?_⟩
      rcases hg.lies b hb with h1 | h1
      · exact .inl h1
      · exact .inr (Nat.le_trans h.size h1)
    · obtain ⟨g', h1, h2, h3⟩ := h.done j (by omega)
      refine ⟨g', by rw [List.getElem?_append_left (by omega)]; exact h1, World.ownsRow.kept h2 hg.grown ?_, h3⟩
      rcases e2 : g'.ownBlock with _ | b
      · exact .inl rfl
      · refine .inr (fun e3 => ?_)
        rcases h3 b e2 with h4 | h4
        · exact e (hP.apart j k b (by omega) hk h4 e3.symm)
        · have := (hP.below k hk b e3.symm).2; omega
/-- Something else has grown. -/
theorem GrM.kept {w1 w2 w3 : World} {B L K : Nat} {av : Nat → Option Addr} {n c : Nat → Nat} {gl : List Value} {k : Nat} {row : Option Nat} (hP : PlM w1 B L K av n c) (h : GrM w1 w2 B L K av n c gl k) (hg : w2.grownBy w3 row) (hr : ∀ g, row = some g → w1.heap.size ≤ g ∧ ∃ cur fz, w2.heap[g]? = some (.cells cur 29 fz)) : GrM w1 w3 B L K av n c gl k := by
  have hne : ∀ v l, OM w2 B v l → v.ownBlock = none ∨ v.ownBlock ≠ row := by
    intro v l hv
    rcases e : v.ownBlock with _ | b
    · exact .inl rfl
    · refine .inr (fun e2 => ?_)
      obtain ⟨_, cu, fz, h1⟩ := hr b e2.symm
      obtain ⟨cu2, fz2, h2⟩ := ownsRow_kind hv b e
      rw [h1] at h2
      injection h2 with h3
      injection h3 with _ h4 _
      exact absurd h4 (by decide)
  refine ⟨Nat.le_trans h.size hg.size, fun j hj => hg.cell (h.cells j hj) (fun e => ?_), fun j hkj hj => World.ownsRow.kept (h.rest j hkj hj) hg (hne _ _ (h.rest j hkj hj)), fun j hj i hi P hPj => ?_, fun j hj => ?_⟩
  · have := (hr L e.symm).1; have := hP.lt; omega
  · have hne : ¬ some P = row := fun e => by have := (hr P e.symm).1; have := (hP.below j hj P (by rw [hPj]; rfl)).2; omega
    exact ⟨hg.cell (h.marks j hj i hi P hPj).1 hne, hg.cell (h.marks j hj i hi P hPj).2 hne⟩
  · obtain ⟨g', h1, h2, h3⟩ := h.done j hj
    exact ⟨g', h1, World.ownsRow.kept h2 hg (hne _ _ h2), h3⟩
theorem grown_alloc (w : World) (o : Obj) : w.grownBy (w.alloc o) none := ⟨rfl, rfl, rfl, by simp, fun k hk _ => Below.heap_alloc _ _ _ hk⟩
theorem gs_kept {w1 w2 w3 : World} {B L K j : Nat} {av : Nat → Option Addr} {n c : Nat → Nat} {gs g : Value} {gl : List Value} (h : w2.ownsRow w1.heap.size 29 1 gs j gl) (hP : PlM w1 B L K av n c) (hj : j < K) (hg : Grew w2 (.slice (av j) (n j) (c j)) w3 g) : w3.ownsRow w1.heap.size 29 1 gs j gl := by
  refine World.ownsRow.kept h hg.grown ?_
  rcases e : gs.ownBlock with _ | b
  · exact .inl rfl
  · refine .inr fun e2 => ?_
    have h1 := (h.lt b e).1
    have h2 := (hP.below j hj b e2.symm).2
    omega
theorem gs_step {w1 w3 w5 : World} {B L K j m : Nat} {av : Nat → Option Addr} {n c : Nat → Nat} {gs : Value} {gl gl' : List Value} {o : Obj} (hP : PlM w1 B L K av n c) (h : GrM w1 w3 B L K av n c gl' m) (hO : w3.ownsRow w1.heap.size 29 1 gs j gl) (hg : (w3.alloc o).grownBy w5 gs.ownBlock) : GrM w1 w5 B L K av n c gl' m := by
  refine GrM.kept hP (GrM.kept hP h (grown_alloc w3 o) (fun g e => by cases e)) hg (fun g e => ?_)
  exact ⟨(World.ownsRow.lt (hO.alloc o) g e).1, ownsRow_kind (hO.alloc o) g e⟩
end Go.Proofs.Ytegemfkadclnkaa
