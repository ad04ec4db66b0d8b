/-
  My own text: rows of Keys that were handed out have memory of their own (printed by mkrow16.py out of PX2, PX3).
-/
import Derived.Test.YtknnojjfdfkdmaaGreatDoorGKR
namespace Go.Proofs.YtknnojjfdfkdmaaGreatDoor.KY
open Go.RowKit

theorem Tryz.infoMS : (Tryz.prog.info? 24).map (fun i => (i.zero, i.size, i.bytes)) = some (some (.slice none 0 0), 1, 24) := by kernel_rfl
def mks (k n : Nat) : List El := (List.range n).map fun i : Nat => mq5 (k : Int) (i : Int)
theorem mks_len (k n : Nat) : (mks k n).length = n := by simp [mks]
theorem mks_at {k n j : Nat} (h : j < n) : (mks k n)[j]? = some (mq5 (k : Int) (j : Int)) := by unfold mks; rw [List.getElem?_map, List.getElem?_range h]; rfl
theorem mks_succ (k n : Nat) : mks k (n + 1) = mks k n ++ [mq5 (k : Int) (n : Int)] := by unfold mks; rw [List.range_succ]; simp
theorem mc_set : ∀ (l : List El) (i : Nat) (p : El), mc (l.set i p) = ((mc l).set (i * 2) (.int .i64 p.1)).set (i * 2 + 1) (.int .i64 p.2)
  | [], _, _ => rfl
  | q :: t, 0, p => rfl
  | q :: t, i + 1, p => by
    show _ :: _ :: mc (t.set i p) = _
    rw [mc_set t i p, show (i + 1) * 2 = i * 2 + 1 + 1 by omega]
    rfl
/-- Lists of bytes in a list at L, each with memory of its own. -/
structure AllM (w : World) (B L K : Nat) (av : Nat → Option Addr) (n c : Nat → Nat) (r : Nat → List El) : Prop where
  lt : L < w.heap.size
  cells : ∀ k, k < K → w.cell? ⟨L, k, none⟩ = some (.slice (av k) (n k) (c k))
  own : ∀ k, k < K → OM w B (.slice (av k) (n k) (c k)) (r k)
  notL : ∀ k, k < K → (Value.slice (av k) (n k) (c k)).ownBlock ≠ some L
  apart : ∀ j k g, j < K → k < K → (Value.slice (av j) (n j) (c j)).ownBlock = some g → (Value.slice (av k) (n k) (c k)).ownBlock = some g → j = k
theorem AllM.len {w : World} {B L K : Nat} {av : Nat → Option Addr} {n c : Nat → Nat} {r : Nat → List El} (h : AllM w B L K av n c r) {k : Nat} (hk : k < K) : (r k).length = n k := by
  obtain ⟨ad, cap, e⟩ := (h.own k hk).slice
  injection e with _ e2 _
  exact e2.symm
theorem AllM.at {w : World} {B L K : Nat} {av : Nat → Option Addr} {n c : Nat → Nat} {r : Nat → List El} (h : AllM w B L K av n c r) {k i : Nat} (hk : k < K) (hi : i < n k) : ∃ P, av k = some ⟨P, 0, none⟩ ∧ B ≤ P ∧ P < w.heap.size ∧ P ≠ L := by
  have h1 := h.own k hk
  unfold OM at h1
  obtain ⟨g, cap, e, h2, h3⟩ := World.ownsRow.form h1 (by rw [h.len hk]; omega)
  have hn := h.notL k hk
  rw [e] at hn
  injection e with e1 e2 e3
  exact ⟨g, e1, h2, h3, fun e4 => hn (by rw [← e4]; rfl)⟩
theorem AllM.set {w : World} {B L K : Nat} {av : Nat → Option Addr} {n c : Nat → Nat} {r : Nat → List El} (h : AllM w B L K av n c r) {k i P : Nat} (hk : k < K) (hi : i < n k) (hA : av k = some ⟨P, 0, none⟩) (x : El) :
    AllM ((w.setCell ⟨P, i * 2, none⟩ (.int .i64 x.1)).setCell ⟨P, i * 2 + 1, none⟩ (.int .i64 x.2)) B L K av n c (fun j => if j = k then (r k).set i x else r j) := by
  have h1 := h.own k hk
  have hl := h.len hk
  have hb : (Value.slice (av k) (n k) (c k)).ownBlock = some P := by rw [hA]; rfl
  unfold OM at h1
  rw [hA, hl] at h1
  obtain ⟨s0, g0⟩ := h1.stored (i * 2) (.int .i64 x.1)
  obtain ⟨s1, g1⟩ := s0.stored (i * 2 + 1) (.int .i64 x.2)
  have hne : ¬ some L = some P := fun e => h.notL k hk (by rw [hb]; exact e.symm)
  refine ⟨by simpa using h.lt, fun j hj => g1.cell (g0.cell (h.cells j hj) hne) hne, fun j hj => ?_, h.notL, h.apart⟩
  by_cases e : j = k
  · subst e
    rw [if_pos rfl]
    unfold OM
    rw [List.length_set, hl, mc_set, hA]
    exact s1
  · rw [if_neg e]
    have hd : (Value.slice (av j) (n j) (c j)).ownBlock ≠ some P := fun e2 => e (h.apart j k P hj hk e2 hb)
    exact ownsRow_setCell_other (a := ⟨P, i * 2 + 1, none⟩) (ownsRow_setCell_other (a := ⟨P, i * 2, none⟩) (h.own j hj) hd _) hd _
theorem AllM.later {w w' : World} {B L K : Nat} {av : Nat → Option Addr} {n c : Nat → Nat} {r : Nat → List El} (h : AllM w B L K av n c r) (hb : Below w.heap.size w w') : AllM w' B L K av n c r :=
  ⟨Nat.lt_of_lt_of_le h.lt hb.size, fun k hk => (hb.cell (p := ⟨L, k, none⟩) h.lt).trans (h.cells k hk), fun k hk => owns_lat (h.own k hk) hb, h.notL, h.apart⟩
theorem AllM.drew {w : World} {B L K : Nat} {av : Nat → Option Addr} {n c : Nat → Nat} {r : Nat → List El} (h : AllM w B L K av n c r) : AllM w.drew B L K av n c r := ⟨h.lt, h.cells, h.own, h.notL, h.apart⟩
/-- The marks that are laid: all of the lists before k, i of list k. -/
def MkM (K : Nat) (n : Nat → Nat) (r : Nat → List El) (k i : Nat) : Prop := ∀ j, j < K → ∀ m, m < n j → (j < k ∨ (j = k ∧ m < i)) → (r j)[m]? = some (mq5 (j : Int) (m : Int))
theorem MkM.next {K : Nat} {n : Nat → Nat} {r : Nat → List El} {k i : Nat} (h : MkM K n r k i) (hi : n k ≤ i) : MkM K n r (k + 1) 0 := by
  intro j hj m hm hl
  refine h j hj m hm ?_
  rcases hl with hl | hl
  · by_cases e : j = k
    · subst e; exact .inr ⟨rfl, by omega⟩
    · exact .inl (by omega)
  · omega
theorem MkM.set {K : Nat} {n : Nat → Nat} {r : Nat → List El} {k i : Nat} (h : MkM K n r k i) (hl : (r k).length = n k) (hi : i < n k) : MkM K n (fun j => if j = k then (r k).set i (mq5 (k : Int) (i : Int)) else r j) k (i + 1) := by
  intro j hj m hm hlt
  by_cases e : j = k
  · subst e
    simp only [if_true]
    by_cases e2 : m = i
    · subst e2
      rw [List.getElem?_set_self (by omega)]
    · rw [List.getElem?_set_ne (by omega)]
      exact h j hj m hm (.inr ⟨rfl, by omega⟩)
  · simp only [if_neg e]
    exact h j hj m hm (.inl (by omega))
theorem MkM.full {K : Nat} {n : Nat → Nat} {r : Nat → List El} (h : MkM K n r K 0) {k : Nat} (hk : k < K) (hl : (r k).length = n k) : r k = mks k (n k) := by
  apply List.ext_getElem?
  intro m
  by_cases hm : m < n k
  · rw [h k hk m hm (.inl hk), mks_at hm]
  · rw [List.getElem?_eq_none (by omega), List.getElem?_eq_none (by rw [mks_len]; omega)]

/-- While the lists are grown: those grown, those still to grow, the old places. -/
structure GrM (w1 w2 : World) (B L K : Nat) (av : Nat → Option Addr) (n c : Nat → Nat) (gl : List Value) (k : Nat) : Prop where
  size : w1.heap.size ≤ w2.heap.size
  cells : ∀ j, j < K → w2.cell? ⟨L, j, none⟩ = some (.slice (av j) (n j) (c j))
  rest : ∀ j, k ≤ j → j < K → OM w2 B (.slice (av j) (n j) (c j)) (mks j (n j))
  marks : ∀ j, j < K → ∀ i, i < n j → ∀ P, av j = some ⟨P, 0, none⟩ → (w2.cell? ⟨P, i * 2, none⟩ = some (.int .i64 (mq5 (j : Int) (i : Int)).1) ∧ w2.cell? ⟨P, i * 2 + 1, none⟩ = some (.int .i64 (mq5 (j : Int) (i : Int)).2))
  done : ∀ j, j < k → ∃ g, gl[j]? = some g ∧ OM w2 B g (mks j (n j + 64)) ∧ ∀ b, g.ownBlock = some b → (Value.slice (av j) (n j) (c j)).ownBlock = some b ∨ w1.heap.size ≤ b
theorem AllM.pl {w : World} {B L K : Nat} {av : Nat → Option Addr} {n c : Nat → Nat} {r : Nat → List El} (h : AllM w B L K av n c r) : PlM w B L K av n c :=
  ⟨h.lt, h.notL, h.apart, fun k hk g hg => World.ownsRow.lt (h.own k hk) g hg, fun k hk hn => by obtain ⟨P, hP, _⟩ := h.at hk hn; exact ⟨P, hP⟩⟩
theorem AllM.gr {w : World} {B L K : Nat} {av : Nat → Option Addr} {n c : Nat → Nat} {r : Nat → List El} (h : AllM w B L K av n c r) (hm : MkM K n r K 0) : GrM w w B L K av n c [] 0 := by
  refine ⟨Nat.le_refl _, h.cells, fun j _ hj => ?_, fun j hj i hi P hP => ?_, fun j hj => by omega⟩
  · rw [← hm.full hj (h.len hj)]; exact h.own j hj
  · have h1 := h.own j hj
    unfold OM at h1
    rw [hP, h.len hj] at h1
    have e := mc_at (hm j hj i hi (.inl hj))
    exact ⟨(World.ownsRow.cellAt h1 (i * 2) (by omega)).trans e.1, (World.ownsRow.cellAt h1 (i * 2 + 1) (by omega)).trans e.2⟩
/-- List k has been grown. -/
theorem GrM.step {w1 w2 w3 : World} {B L K : Nat} {av : Nat → Option Addr} {n c : Nat → Nat} {gl : List Value} {k : Nat} (hP : PlM w1 B L K av n c) (h : GrM w1 w2 B L K av n c gl k) (hk : k < K) (hl : gl.length = k) {g : Value}
    (ho : OM w3 B g (mks k (n k + 64))) (hg : Grew w2 (.slice (av k) (n k) (c k)) w3 g) (hm : ∀ i, i < n k → ∀ P, av k = some ⟨P, 0, none⟩ → (w3.cell? ⟨P, i * 2, none⟩ = some (.int .i64 (mq5 (k : Int) (i : Int)).1) ∧ w3.cell? ⟨P, i * 2 + 1, none⟩ = some (.int .i64 (mq5 (k : Int) (i : Int)).2))) : GrM w1 w3 B L K av n c (gl ++ [g]) (k + 1) := by
  refine ⟨Nat.le_trans h.size hg.grown.size, fun j hj => hg.grown.cell (h.cells j hj) (fun e => hP.notL k hk e.symm), fun j hkj hj => ?_, fun j hj i hi P hPj => ?_, fun j hj => ?_⟩
  · refine World.ownsRow.kept (h.rest j (by omega) hj) hg.grown ?_
    rcases e : (Value.slice (av j) (n j) (c j)).ownBlock with _ | b
    · exact .inl rfl
    · refine .inr (fun e2 => ?_)
      have := hP.apart j k b hj hk e e2.symm
      omega
  · by_cases e : j = k
    · subst e; exact hm i hi P hPj
    · have hne : ¬ some P = (Value.slice (av k) (n k) (c k)).ownBlock := fun e2 => e (hP.apart j k P hj hk (by rw [hPj]; rfl) e2.symm)
      exact ⟨hg.grown.cell (h.marks j hj i hi P hPj).1 hne, hg.grown.cell (h.marks j hj i hi P hPj).2 hne⟩
  · by_cases e : j = k
    · subst e
      refine ⟨g, by rw [← hl]; simp, ho, fun b hb => ?_⟩
      rcases hg.lies b hb with h1 | h1
      · exact .inl h1
      · exact .inr (Nat.le_trans h.size h1)
    · obtain ⟨g', h1, h2, h3⟩ := h.done j (by omega)
      refine ⟨g', by rw [List.getElem?_append_left (by omega)]; exact h1, World.ownsRow.kept h2 hg.grown ?_, h3⟩
      rcases e2 : g'.ownBlock with _ | b
      · exact .inl rfl
      · refine .inr (fun e3 => ?_)
        rcases h3 b e2 with h4 | h4
        · exact e (hP.apart j k b (by omega) hk h4 e3.symm)
        · have := (hP.below k hk b e3.symm).2; omega
/-- Something else has grown. -/
theorem GrM.kept {w1 w2 w3 : World} {B L K : Nat} {av : Nat → Option Addr} {n c : Nat → Nat} {gl : List Value} {k : Nat} {row : Option Nat} (hP : PlM w1 B L K av n c) (h : GrM w1 w2 B L K av n c gl k) (hg : w2.grownBy w3 row) (hr : ∀ g, row = some g → w1.heap.size ≤ g ∧ ∃ cur fz, w2.heap[g]? = some (.cells cur 24 fz)) : GrM w1 w3 B L K av n c gl k := by
  have hne : ∀ v l, OM w2 B v l → v.ownBlock = none ∨ v.ownBlock ≠ row := by
    intro v l hv
    rcases e : v.ownBlock with _ | b
    · exact .inl rfl
    · refine .inr (fun e2 => ?_)
      obtain ⟨_, cu, fz, h1⟩ := hr b e2.symm
      obtain ⟨cu2, fz2, h2⟩ := ownsRow_kind hv b e
      rw [h1] at h2
      injection h2 with h3
      injection h3 with _ h4 _
      exact absurd h4 (by decide)
  refine ⟨Nat.le_trans h.size hg.size, fun j hj => hg.cell (h.cells j hj) (fun e => ?_), fun j hkj hj => World.ownsRow.kept (h.rest j hkj hj) hg (hne _ _ (h.rest j hkj hj)), fun j hj i hi P hPj => ?_, fun j hj => ?_⟩
  · have := (hr L e.symm).1; have := hP.lt; omega
  · have hne : ¬ some P = row := fun e => by have := (hr P e.symm).1; have := (hP.below j hj P (by rw [hPj]; rfl)).2; omega
    exact ⟨hg.cell (h.marks j hj i hi P hPj).1 hne, hg.cell (h.marks j hj i hi P hPj).2 hne⟩
  · obtain ⟨g', h1, h2, h3⟩ := h.done j hj
    exact ⟨g', h1, World.ownsRow.kept h2 hg (hne _ _ h2), h3⟩
theorem gs_kept {w1 w2 w3 : World} {B L K j : Nat} {av : Nat → Option Addr} {n c : Nat → Nat} {gs g : Value} {gl : List Value} (h : w2.ownsRow w1.heap.size 24 1 gs j gl) (hP : PlM w1 B L K av n c) (hj : j < K) (hg : Grew w2 (.slice (av j) (n j) (c j)) w3 g) : w3.ownsRow w1.heap.size 24 1 gs j gl := by
  refine World.ownsRow.kept h hg.grown ?_
  rcases e : gs.ownBlock with _ | b
  · exact .inl rfl
  · refine .inr fun e2 => ?_
    have h1 := (h.lt b e).1
    have h2 := (hP.below j hj b e2.symm).2
    omega
theorem gs_step {w1 w3 w5 : World} {B L K j m : Nat} {av : Nat → Option Addr} {n c : Nat → Nat} {gs : Value} {gl gl' : List Value} {o : Obj} (hP : PlM w1 B L K av n c) (h : GrM w1 w3 B L K av n c gl' m) (hO : w3.ownsRow w1.heap.size 24 1 gs j gl) (hg : (w3.alloc o).grownBy w5 gs.ownBlock) : GrM w1 w5 B L K av n c gl' m := by
  refine GrM.kept hP (GrM.kept hP h (grown_alloc w3 o) (fun g e => by cases e)) hg (fun g e => ?_)
  exact ⟨(World.ownsRow.lt (hO.alloc o) g e).1, ownsRow_kind (hO.alloc o) g e⟩
theorem gs_sp {w w1 w2 w3 w5 : World} {K j : Nat} {av : Nat → Option Addr} {n c : Nat → Nat} {gs g : Value} {gl : List Value} {o : Obj} (hj : j < K) (h01 : w.heap.size ≤ w1.heap.size) (hb : Sp K av n c w w2) (hW : Grew w2 (.slice (av j) (n j) (c j)) w3 g) (hO : w3.ownsRow w1.heap.size 24 1 gs j gl) (hg : (w3.alloc o).grownBy w5 gs.ownBlock) : Sp K av n c w w5 := by
  have h2 := hb.size
  have h3 := hW.grown.size
  have h5 := hg.size
  have h4 : w3.heap.size ≤ (w3.alloc o).heap.size := by simp
  refine ⟨hg.os.trans (hW.grown.os.trans hb.os), hg.tape.trans (hW.grown.tape.trans hb.tape), hg.output.trans (hW.grown.output.trans hb.output), by omega, fun b hlt hn => ?_⟩
  have e1 := hb.block b hlt hn
  have e2 := hW.grown.block b (by omega) (fun e => hn j hj e.symm)
  have e3 : (w3.alloc o).heap[b]? = w3.heap[b]? := Below.heap_alloc _ _ _ (by omega)
  have e4 := hg.block b (by omega) (fun e => by
    have := (World.ownsRow.lt (hO.alloc o) b e.symm).1
    omega)
  rw [e4, e3, e2, e1]
end Go.Proofs.YtknnojjfdfkdmaaGreatDoor.KY
