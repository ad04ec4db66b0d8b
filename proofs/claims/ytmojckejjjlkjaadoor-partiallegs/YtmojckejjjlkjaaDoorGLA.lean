/-
  My own text: rows of Legs that were handed out have memory of their own (printed by mkrow16.py out of PX2, PX3).
-/
import Derived.Test.YtmojckejjjlkjaaDoorGLR
namespace Go.Proofs.YtmojckejjjlkjaaDoor.LG
open Go.RowKit

theorem Tryd.infoMS : (Tryd.prog.info? 50).map (fun i => (i.zero, i.size, i.bytes)) = some (some (.slice none 0 0), 1, 24) := by kernel_rfl
def mks (k n : Nat) : List El := (List.range n).map fun i : Nat => mq5 (k : Int) (i : Int)
theorem mks_len (k n : Nat) : (mks k n).length = n := by simp [mks]
theorem mks_at {k n j : Nat} (h : j < n) : (mks k n)[j]? = some (mq5 (k : Int) (j : Int)) := by unfold mks; rw [List.getElem?_map, List.getElem?_range h]; rfl
theorem mks_succ (k n : Nat) : mks k (n + 1) = mks k n ++ [mq5 (k : Int) (n : Int)] := by unfold mks; rw [List.range_succ]; simp
theorem mc_set : ∀ (l : List El) (i : Nat) (p : El), mc (l.set i p) = (((((mc l).set (i * 5) (.int .i64 p.1)).set (i * 5 + 1) (.int .i64 p.2.1)).set (i * 5 + 2) (.int .i64 p.2.2.1)).set (i * 5 + 3) (.int .i64 p.2.2.2.1)).set (i * 5 + 4) (.int .i64 p.2.2.2.2)
  | [], _, _ => rfl
  | q :: t, 0, p => rfl
  | q :: t, i + 1, p => by
    show _ :: _ :: _ :: _ :: _ :: mc (t.set i p) = _
    rw [mc_set t i p, show (i + 1) * 5 = i * 5 + 1 + 1 + 1 + 1 + 1 by omega]
    rfl
/-- Lists of bytes in a list at L, each with memory of its own. -/
structure AllM (w : World) (B L K : Nat) (av : Nat → Option Addr) (n c : Nat → Nat) (r : Nat → List El) : Prop where
  lt : L < w.heap.size
  cells : ∀ k, k < K → w.cell? ⟨L, k, none⟩ = some (.slice (av k) (n k) (c k))
  own : ∀ k, k < K → OM w B (.slice (av k) (n k) (c k)) (r k)
  notL : ∀ k, k < K → (Value.slice (av k) (n k) (c k)).ownBlock ≠ some L
  apart : ∀ j k g, j < K → k < K → (Value.slice (av j) (n j) (c j)).ownBlock = some g → (Value.slice (av k) (n k) (c k)).ownBlock = some g → j = k
theorem AllM.len {w : World} {B L K : Nat} {av : Nat → Option Addr} {n c : Nat → Nat} {r : Nat → List El} (h : AllM w B L K av n c r) {k : Nat} (hk : k < K) : (r k).length = n k := by
  obtain ⟨ad, cap, e⟩ := (h.own k hk).slice
  injection e with _ e2 _
  exact e2.symm
theorem AllM.at {w : World} {B L K : Nat} {av : Nat → Option Addr} {n c : Nat → Nat} {r : Nat → List El} (h : AllM w B L K av n c r) {k i : Nat} (hk : k < K) (hi : i < n k) : ∃ P, av k = some ⟨P, 0, none⟩ ∧ B ≤ P ∧ P < w.heap.size ∧ P ≠ L := by
  have h1 := h.own k hk
  unfold OM at h1
  obtain ⟨g, cap, e, h2, h3⟩ := World.ownsRow.form h1 (by rw [h.len hk]; omega)
  have hn := h.notL k hk
  rw [e] at hn
  injection e with e1 e2 e3
  exact ⟨g, e1, h2, h3, fun e4 => hn (by rw [← e4]; rfl)⟩
theorem AllM.set {w : World} {B L K : Nat} {av : Nat → Option Addr} {n c : Nat → Nat} {r : Nat → List El} (h : AllM w B L K av n c r) {k i P : Nat} (hk : k < K) (hi : i < n k) (hA : av k = some ⟨P, 0, none⟩) (x : El) :
    AllM (((((w.setCell ⟨P, i * 5, none⟩ (.int .i64 x.1)).setCell ⟨P, i * 5 + 1, none⟩ (.int .i64 x.2.1)).setCell ⟨P, i * 5 + 2, none⟩ (.int .i64 x.2.2.1)).setCell ⟨P, i * 5 + 3, none⟩ (.int .i64 x.2.2.2.1)).setCell ⟨P, i * 5 + 4, none⟩ (.int .i64 x.2.2.2.2)) B L K av n c (fun j => if j = k then (r k).set i x else r j) := by
  have h1 := h.own k hk
  have hl := h.len hk
  have hb : (Value.slice (av k) (n k) (c k)).ownBlock = some P := by rw [hA]; rfl
  unfold OM at h1
  rw [hA, hl] at h1
  obtain ⟨s0, g0⟩ := h1.stored (i * 5) (.int .i64 x.1)
  obtain ⟨s1, g1⟩ := s0.stored (i * 5 + 1) (.int .i64 x.2.1)
  obtain ⟨s2, g2⟩ := s1.stored (i * 5 + 2) (.int .i64 x.2.2.1)
  obtain ⟨s3, g3⟩ := s2.stored (i * 5 + 3) (.int .i64 x.2.2.2.1)
  obtain ⟨s4, g4⟩ := s3.stored (i * 5 + 4) (.int .i64 x.2.2.2.2)
  have hne : ¬ some L = some P := fun e => h.notL k hk (by rw [hb]; exact e.symm)
  refine ⟨by simpa using h.lt, fun j hj => g4.cell (g3.cell (g2.cell (g1.cell (g0.cell (h.cells j hj) hne) hne) hne) hne) hne, fun j hj => ?_, h.notL, h.apart⟩
  by_cases e : j = k
  · subst e
    rw [if_pos rfl]
    unfold OM
    rw [List.length_set, hl, mc_set, hA]
    exact s4
  · rw [if_neg e]
    have hd : (Value.slice (av j) (n j) (c j)).ownBlock ≠ some P := fun e2 => e (h.apart j k P hj hk e2 hb)
    exact ownsRow_setCell_other (a := ⟨P, i * 5 + 4, none⟩) (ownsRow_setCell_other (a := ⟨P, i * 5 + 3, none⟩) (ownsRow_setCell_other (a := ⟨P, i * 5 + 2, none⟩) (ownsRow_setCell_other (a := ⟨P, i * 5 + 1, none⟩) (ownsRow_setCell_other (a := ⟨P, i * 5, none⟩) (h.own j hj) hd _) hd _) hd _) hd _) hd _
theorem AllM.later {w w' : World} {B L K : Nat} {av : Nat → Option Addr} {n c : Nat → Nat} {r : Nat → List El} (h : AllM w B L K av n c r) (hb : Below w.heap.size w w') : AllM w' B L K av n c r :=
  ⟨Nat.lt_of_lt_of_le h.lt hb.size, fun k hk => (hb.cell (p := ⟨L, k, none⟩) h.lt).trans (h.cells k hk), fun k hk => owns_lat (h.own k hk) hb, h.notL, h.apart⟩
theorem AllM.drew {w : World} {B L K : Nat} {av : Nat → Option Addr} {n c : Nat → Nat} {r : Nat → List El} (h : AllM w B L K av n c r) : AllM w.drew B L K av n c r := ⟨h.lt, h.cells, h.own, h.notL, h.apart⟩
/-- The marks that are laid: all of the lists before k, i of list k. -/
def MkM (K : Nat) (n : Nat → Nat) (r : Nat → List El) (k i : Nat) : Prop := ∀ j, j < K → ∀ m, m < n j → (j < k ∨ (j = k ∧ m < i)) → (r j)[m]? = some (mq5 (j : Int) (m : Int))
theorem MkM.next {K : Nat} {n : Nat → Nat} {r : Nat → List El} {k i : Nat} (h : MkM K n r k i) (hi : n k ≤ i) : MkM K n r (k + 1) 0 := by
  intro j hj m hm hl
  refine h j hj m hm ?_
  rcases hl with hl | hl
  · by_cases e : j = k
    · subst e; exact .inr ⟨rfl, by omega⟩
    · exact .inl (by omega)
  · omega
theorem MkM.set {K : Nat} {n : Nat → Nat} {r : Nat → List El} {k i : Nat} (h : MkM K n r k i) (hl : (r k).length = n k) (hi : i < n k) : MkM K n (fun j => if j = k then (r k).set i (mq5 (k : Int) (i : Int)) else r j) k (i + 1) := by
  intro j hj m hm hlt
  by_cases e : j = k
  · subst e
    simp only [if_true]
    by_cases e2 : m = i
    · subst e2
      rw [List.getElem?_set_self (by omega)]
    · rw [List.getElem?_set_ne (by omega)]
      exact h j hj m hm (.inr ⟨rfl, by omega⟩)
  · simp only [if_neg e]
    exact h j hj m hm (.inl (by omega))
theorem MkM.full {K : Nat} {n : Nat → Nat} {r : Nat → List El} (h : MkM K n r K 0) {k : Nat} (hk : k < K) (hl : (r k).length = n k) : r k = mks k (n k) := by
  apply List.ext_getElem?
  intro m
  by_cases hm : m < n k
  · rw [h k hk m hm (.inl hk), mks_at hm]
  · rw [List.getElem?_eq_none (by omega), List.getElem?_eq_none (by rw [mks_len]; omega)]

/-- While the lists are grown: those grown, those still to grow, the old places. -/
structure GrM (w1 w2 : World) (B L K : Nat) (av : Nat → Option Addr) (n c : Nat → Nat) (gl : List Value) (k : Nat) : Prop where
  size : w1.heap.size ≤ w2.heap.size
  cells : ∀ j, j < K → w2.cell? ⟨L, j, none⟩ = some (.slice (av j) (n j) (c j))
  rest : ∀ j, k ≤ j → j < K → OM w2 B (.slice (av j) (n j) (c j)) (mks j (n j))
  marks : ∀ j, j < K → ∀ i, i < n j → ∀ P, av j = some ⟨P, 0, none⟩ → (w2.cell? ⟨P, i * 5, none⟩ = some (.int .i64 (mq5 (j : Int) (i : Int)).1) ∧ w2.cell? ⟨P, i * 5 + 1, none⟩ = some (.int .i64 (mq5 (j : Int) (i : Int)).2.1) ∧ w2.cell? ⟨P, i * 5 + 2, none⟩ = some (.int .i64 (mq5 (j : Int) (i : Int)).2.2.1) ∧ w2.cell? ⟨P, i * 5 + 3, none⟩ = some (.int .i64 (mq5 (j : Int) (i : Int)).2.2.2.1) ∧ w2.cell? ⟨P, i * 5 + 4, none⟩ = some (.int .i64 (mq5 (j : Int) (i : Int)).2.2.2.2))
  done : ∀ j, j < k → ∃ g, gl[j]? = some g ∧ OM w2 B g (mks j (n j + 64)) ∧ ∀ b, g.ownBlock = some b → (Value.slice (av j) (n j) (c j)).ownBlock = some b ∨ w1.heap.size ≤ b
theorem AllM.pl {w : World} {B L K : Nat} {av : Nat → Option Addr} {n c : Nat → Nat} {r : Nat → List El} (h : AllM w B L K av n c r) : PlM w B L K av n c :=
  ⟨h.lt, h.notL, h.apart, fun k hk g hg => World.ownsRow.lt (h.own k hk) g hg, fun k hk hn => by obtain ⟨P, hP, _⟩ := h.at hk hn; exact ⟨P, hP⟩⟩
theorem AllM.gr {w : World} {B L K : Nat} {av : Nat → Option Addr} {n c : Nat → Nat} {r : Nat → List El} (h : AllM w B L K av n c r) (hm : MkM K n r K 0) : GrM w w B L K av n c [] 0 := by
  refine ⟨Nat.le_refl _, h.cells, fun j _ hj => ?_, fun j hj i hi P hP => ?_, fun j hj => by omega⟩
  · rw [← hm.full hj (h.len hj)]; exact h.own j hj
  · have h1 := h.own j hj
    unfold OM at h1
    rw [hP, h.len hj] at h1
    have e := mc_at (hm j hj i hi (.inl hj))
    exact ⟨(World.ownsRow.cellAt h1 (i * 5) (by omega)).trans e.1, (World.ownsRow.cellAt h1 (i * 5 + 1) (by omega)).trans e.2.1, (World.ownsRow.cellAt h1 (i * 5 + 2) (by omega)).trans e.2.2.1, (World.ownsRow.cellAt h1 (i * 5 + 3) (by omega)).trans e.2.2.2.1, (World.ownsRow.cellAt h1 (i * 5 + 4) (by omega)).trans e.2.2.2.2⟩
/-- List k has been grown. -/
theorem GrM.step {w1 w2 w3 : World} {B L K : Nat} {av : Nat → Option Addr} {n c : Nat → Nat} {gl : List Value} {k : Nat} (hP : PlM w1 B L K av n c) (h : GrM w1 w2 B L K av n c gl k) (hk : k < K) (hl : gl.length = k) {g : Value}
    (ho : OM w3 B g (mks k (n k + 64))) (hg : Grew w2 (.slice (av k) (n k) (c k)) w3 g) (hm : ∀ i, i < n k → ∀ P, av k = some ⟨P, 0, none⟩ → (w3.cell? ⟨P, i * 5, none⟩ = some (.int .i64 (mq5 (k : Int) (i : Int)).1) ∧ w3.cell? ⟨P, i * 5 + 1, none⟩ = some (.int .i64 (mq5 (k : Int) (i : Int)).2.1) ∧ w3.cell? ⟨P, i * 5 + 2, none⟩ = some (.int .i64 (mq5 (k : Int) (i : Int)).2.2.1) ∧ w3.cell? ⟨P, i * 5 + 3, none⟩ = some (.int .i64 (mq5 (k : Int) (i : Int)).2.2.2.1) ∧ w3.cell? ⟨P, i * 5 + 4, none⟩ = some (.int .i64 (mq5 (k : Int) (i : Int)).2.2.2.2))) : GrM w1 w3 B L K av n c (gl ++ [g]) (k + 1) := by
  refine ⟨Nat.le_trans h.size hg.grown.size, fun j hj => hg.grown.cell (h.cells j hj) (fun e => hP.notL k hk e.symm), fun j hkj hj => ?_, fun j hj i hi P hPj => ?_, fun j hj => ?_⟩
  · refine World.ownsRow.kept (h.rest j (by omega) hj) hg.grown ?_
    rcases e : (Value.slice (av j) (n j) (c j)).ownBlock with _ | b
    · exact .inl rfl
    · refine .inr (fun e2 => ?_)
      have := hP.apart j k b hj hk e e2.symm
      omega
  · by_cases e : j = k
    · subst e; exact hm i hi P hPj
    · have hne : ¬ some P = (Value.slice (av k) (n k) (c k)).ownBlock := fun e2 => e (hP.apart j k P hj hk (by rw [hPj]; rfl) e2.symm)
      exact ⟨hg.grown.cell (h.marks j hj i hi P hPj).1 hne, hg.grown.cell (h.marks j hj i hi P hPj).2.1 hne, hg.grown.cell (h.marks j hj i hi P hPj).2.2.1 hne, hg.grown.cell (h.marks j hj i hi P hPj).2.2.2.1 hne, hg.grown.cell (h.marks j hj i hi P hPj).2.2.2.2 hne⟩
  · by_cases e : j = k
    · subst e
      refine ⟨g, by rw [← hl]; simp, ho, fun b hb => ?_⟩
      rcases hg.lies b hb with h1 | h1
      · exact .inl h1
      · exact .inr (Nat.le_trans h.size h1)
    · obtain ⟨g', h1, h2, h3⟩ := h.done j (by omega)
      refine ⟨g', by rw [List.getElem?_append_left (by omega)]; exact h1, World.ownsRow.kept h2 hg.grown ?_, h3⟩
      rcases e2 : g'.ownBlock with _ | b
      · exact .inl rfl
      · refine .inr (fun e3 => ?_)
        rcases h3 b e2 with h4 | h4
        · exact e (hP.apart j k b (by omega) hk h4 e3.symm)
        · have := (hP.below k hk b e3.symm).2; omega
/-- Something else has grown. -/
theorem GrM.kept {w1 w2 w3 : World} {B L K : Nat} {av : Nat → Option Addr} {n c : Nat → Nat} {gl : List Value} {k : Nat} {row : Option Nat} (hP : PlM w1 B L K av n c) (h : GrM w1 w2 B L K av n c gl k) (hg : w2.grownBy w3 row) (hr : ∀ g, row = some g → w1.heap.size ≤ g ∧ ∃ cur fz, w2.heap[g]? = some (.cells cur 50 fz)) : GrM w1 w3 B L K av n c gl k := by
  have hne : ∀ v l, OM w2 B v l → v.ownBlock = none ∨ v.ownBlock ≠ row := by
    intro v l hv
    rcases e : v.ownBlock with _ | b
    · exact .inl rfl
    · refine .inr (fun e2 => ?_)
      obtain ⟨_, cu, fz, h1⟩ := hr b e2.symm
      obtain ⟨cu2, fz2, h2⟩ := ownsRow_kind hv b e
      rw [h1] at h2
      injection h2 with h3
      injection h3 with _ h4 _
      exact absurd h4 (by decide)
  refine ⟨Nat.le_trans h.size hg.size, fun j hj => hg.cell (h.cells j hj) (fun e => ?_), fun j hkj hj => World.ownsRow.kept (h.rest j hkj hj) hg (hne _ _ (h.rest j hkj hj)), fun j hj i hi P hPj => ?_, fun j hj => ?_⟩
  · have := (hr L e.symm).1; have := hP.lt; omega
  · have hne : ¬ some P = row := fun e => by have := (hr P e.symm).1; have := (hP.below j hj P (by rw [hPj]; rfl)).2; omega
    exact ⟨hg.cell (h.marks j hj i hi P hPj).1 hne, hg.cell (h.marks j hj i hi P hPj).2.1 hne, hg.cell (h.marks j hj i hi P hPj).2.2.1 hne, hg.cell (h.marks j hj i hi P hPj).2.2.2.1 hne, hg.cell (h.marks j hj i hi P hPj).2.2.2.2 hne⟩
  · obtain ⟨g', h1, h2, h3⟩ := h.done j hj
    exact ⟨g', h1, World.ownsRow.kept h2 hg (hne _ _ h2), h3⟩
theorem gs_kept {w1 w2 w3 : World} {B L K j : Nat} {av : Nat → Option Addr} {n c : Nat → Nat} {gs g : Value} {gl : List Value} (h : w2.ownsRow w1.heap.size 50 1 gs j gl) (hP : PlM w1 B L K av n c) (hj : j < K) (hg : Grew w2 (.slice (av j) (n j) (c j)) w3 g) : w3.ownsRow w1.heap.size 50 1 gs j gl := by
  refine World.ownsRow.kept h hg.grown ?_
  rcases e : gs.ownBlock with _ | b
  · exact .inl rfl
  · refine .inr fun e2 => ?_
    have h1 := (h.lt b e).1
    have h2 := (hP.below j hj b e2.symm).2
    omega
theorem gs_step {w1 w3 w5 : World} {B L K j m : Nat} {av : Nat → Option Addr} {n c : Nat → Nat} {gs : Value} {gl gl' : List Value} {o : Obj} (hP : PlM w1 B L K av n c) (h : GrM w1 w3 B L K av n c gl' m) (hO : w3.ownsRow w1.heap.size 50 1 gs j gl) (hg : (w3.alloc o).grownBy w5 gs.ownBlock) : GrM w1 w5 B L K av n c gl' m := by
  refine GrM.kept hP (GrM.kept hP h (grown_alloc w3 o) (fun g e => by cases e)) hg (fun g e => ?_)
  exact ⟨(World.ownsRow.lt (hO.alloc o) g e).1, ownsRow_kind (hO.alloc o) g e⟩
theorem gs_sp {w w1 w2 w3 w5 : World} {K j : Nat} {av : Nat → Option Addr} {n c : Nat → Nat} {gs g : Value} {gl : List Value} {o : Obj} (hj : j < K) (h01 : w.heap.size ≤ w1.heap.size) (hb : Sp K av n c w w2) (hW : Grew w2 (.slice (av j) (n j) (c j)) w3 g) (hO : w3.ownsRow w1.heap.size 50 1 gs j gl) (hg : (w3.alloc o).grownBy w5 gs.ownBlock) : Sp K av n c w w5 := by
  have h2 := hb.size
  have h3 := hW.grown.size
  have h5 := hg.size
  have h4 : w3.heap.size ≤ (w3.alloc o).heap.size := by simp
  refine ⟨hg.os.trans (hW.grown.os.trans hb.os), hg.tape.trans (hW.grown.tape.trans hb.tape), hg.output.trans (hW.grown.output.trans hb.output), by omega, fun b hlt hn => ?_⟩
  have e1 := hb.block b hlt hn
  have e2 := hW.grown.block b (by omega) (fun e => hn j hj e.symm)
  have e3 : (w3.alloc o).heap[b]? = w3.heap[b]? := Below.heap_alloc _ _ _ (by omega)
  have e4 := hg.block b (by omega) (fun e => by
    have := (World.ownsRow.lt (hO.alloc o) b e.symm).1
    omega)
  rw [e4, e3, e2, e1]
set_option maxRecDepth 100000 in
set_option maxHeartbeats 4000000 in
theorem apartMarks_sp (B L K cL : Nat) (av : Nat → Option Addr) (n c : Nat → Nat) (r0 : Nat → List El) (w : World) (hT : AllM w B L K av n c r0) (hN : ∀ k, n k ≤ 3518437208800) (hK : K ≤ 1000000) (hcL : K ≤ cL) (hBw : B ≤ w.heap.size) :
    Calls Tryd.prog 24 #[.slice (some ⟨L, 0, none⟩) K cL] w fun e w' => e = .returned (.bool true) ∧ Sp K av n c w w' := by
  obtain ⟨i2, hi2, hza2, hzb2, hzc2⟩ := info_parts Tryd.infoMS
  have HN := hide hN
  have HT := hide hT
  clear hT hN
  go_enter Tryd.func24, Tryd.ntmps24
  go_wp2_with fail
  go_loopw [3] (fun i wr => ∃ (k : Nat) (r : Nat → List El), k ≤ K ∧ i = .int .i64 k ∧ Hid (AllM wr B L K av n c r) ∧ Hid (MkM K n r k 0) ∧ Sp K av n c w wr) (fun i _ => K - (intOf i).toNat)
  case atStart => exact ⟨0, r0, Nat.zero_le _, rfl, HT, hide (fun m _ j _ hl => by omega), Sp.refl _ _ _ _ _⟩
  case round =>
    clear HT
    obtain ⟨k, r, hk, rfl, HT, HM, hB⟩ := hrel
    by_cases hlt : k < K
    · have hn := HN.out k
      have hd : decide ((k : Int) < (K : Int)) = true := by rw [decide_eq_true_eq]; omega
      have hc := HT.out.cells k hlt
      go_wp2_with fail
      clear hc
      go_loopw [4] (fun i wr => ∃ (i' : Nat) (r : Nat → List El), i' ≤ n k ∧ i = .int .i64 i' ∧ Hid (AllM wr B L K av n c r) ∧ Hid (MkM K n r k i') ∧ Sp K av n c w wr) (fun i _ => n k - (intOf i).toNat)
      case atStart => exact ⟨0, r, Nat.zero_le _, rfl, HT, HM, hB⟩
      case round =>
        clear HT HM hB
        obtain ⟨i, r, hi, rfl, HT, HM, hB⟩ := hrel
        have hc := HT.out.cells k hlt
        by_cases hil : i < n k
        · obtain ⟨P, hA, hP, hPl, hPL⟩ := HT.out.at hlt hil
          have hrow := HT.out.own k hlt
          unfold OM at hrow
          rw [HT.out.len hlt, hA] at hrow
          rw [hA] at hc
          obtain ⟨x, hx⟩ : ∃ p, (r k)[i]? = some p := ⟨_, List.getElem?_eq_getElem (by rw [HT.out.len hlt]; exact hil)⟩
          have ff := mc_at hx
          have HC0 := hide ((World.ownsRow.cellAt hrow (i * 5) (by omega)).trans ff.1)
          have HC1 := hide ((World.ownsRow.cellAt hrow (i * 5 + 1) (by omega)).trans ff.2.1)
          have HC2 := hide ((World.ownsRow.cellAt hrow (i * 5 + 2) (by omega)).trans ff.2.2.1)
          have HC3 := hide ((World.ownsRow.cellAt hrow (i * 5 + 3) (by omega)).trans ff.2.2.2.1)
          have HC4 := hide ((World.ownsRow.cellAt hrow (i * 5 + 4) (by omega)).trans ff.2.2.2.2)
          have HRW := hide hrow
          have HA := hide hA
          have HMK := hide (fun W : World => markQ_any (k : Int) (i : Int) W (by omega) (by omega))
          have HLL := hide HT.out.lt
          have HPP := hide hPl
          have HC := hide hc
          obtain ⟨m, HM5⟩ : ∃ m : El, Hid (mq5 (k : Int) (i : Int) = m) := ⟨_, hide rfl⟩
          have HM' := hide (HM.out.set (HT.out.len hlt) hil)
          rw [HM5.out] at HMK HM'
          obtain ⟨m0, m1, m2, m3, m4⟩ := m
          clear hA hrow hx ff hPL hP hPl
          go_wp2_with fail
          have HX0 := hide ((Below.refl wr.heap.size wr).drew)
          haveI : Nonempty (Gr wr) := ⟨⟨_, HX0.out⟩⟩
          have z0 : ∀ x : Gr wr, x.1.cell? ⟨L, k, none⟩ = some (.slice (some ⟨P, 0, none⟩) (n k) (c k)) := fun x => (x.2.cell (p := ⟨L, k, none⟩) HLL.out).trans HC.out
          have k0 : (0 : Int) ≤ (i : Int) := by omega
          have k1 : (i : Int) < (n k : Int) := by omega
          have k2 : (0 : Int) ≤ (k : Int) := by omega
          have k3 : (k : Int) < (K : Int) := by omega
          refine region_qtails (C := fun w' => ∃ x : Gr wr, w' = x.1) 9 0 rfl (by kernel_rfl) (by kernel_rfl) ⟨⟨_, HX0.out⟩, rfl⟩ ?_
          simp only [List.take_succ_cons, List.take_zero, List.drop_succ_cons, List.drop_zero]
          repeat (first
            | go_big_quiet_skip
            | (go_big_quiet_want; (go_big_quiet_op; first
                | go_big_quiet_on
                | (apply Exists.intro; refine ⟨fun x => ?_, ?_⟩; (go_at_call 43; exact x.call (HMK.out x.1)); go_big_quiet_on))))
          refine wpQuiet_nil ?_
          rintro w5 ⟨x5, rfl⟩
          obtain ⟨w5, hx⟩ := x5
          dsimp only
          have hc0 := (hx.cell (p := ⟨P, i * 5, none⟩) HPP.out).trans HC0.out
          have hc1 := (hx.cell (p := ⟨P, i * 5 + 1, none⟩) HPP.out).trans HC1.out
          have hc2 := (hx.cell (p := ⟨P, i * 5 + 2, none⟩) HPP.out).trans HC2.out
          have hc3 := (hx.cell (p := ⟨P, i * 5 + 3, none⟩) HPP.out).trans HC3.out
          have hc4 := (hx.cell (p := ⟨P, i * 5 + 4, none⟩) HPP.out).trans HC4.out
          have hf0 := om_froz (owns_lat HRW.out hx) (i * 5)
          have hf1 := om_froz (owns_lat HRW.out hx) (i * 5 + 1)
          have hf2 := om_froz (owns_lat HRW.out hx) (i * 5 + 2)
          have hf3 := om_froz (owns_lat HRW.out hx) (i * 5 + 3)
          have hf4 := om_froz (owns_lat HRW.out hx) (i * 5 + 4)
          have HT' := hide ((HT.out.later hx).set hlt hil HA.out (m0, m1, m2, m3, m4))
          have HB' := hide ((((((hB.later hx).set hlt HA.out (i * 5) (.int .i64 m0)).set hlt HA.out (i * 5 + 1) (.int .i64 m1)).set hlt HA.out (i * 5 + 2) (.int .i64 m2)).set hlt HA.out (i * 5 + 3) (.int .i64 m3)).set hlt HA.out (i * 5 + 4) (.int .i64 m4))
          clear HX0 this z0 hx HT HM hB HRW HC0 HC1 HC2 HC3 HC4 HC hc
          go_wp2_with fail
          go_roundw
          case rel => exact ⟨i + 1, _, by omega, by go_num, HT', HM', HB'.out⟩
          case measure => simp [intOf]; omega
        · have hi' : i = n k := by omega
          subst hi'
          go_wp2_with fail
          go_roundw
          case rel => exact ⟨k + 1, r, by omega, by go_num, HT, hide (HM.out.next (Nat.le_refl _)), hB⟩
          case measure => simp [intOf]; omega
    · have hk' : k = K := by omega
      subst hk'
      obtain ⟨w1, hw1⟩ : ∃ x, x = wr := ⟨_, rfl⟩
      subst hw1
      have HB1 := hide hB
      have HP := hide HT.out.pl
      have HG0 := hide (HT.out.gr HM.out)
      have hB1s : B ≤ w1.heap.size := Nat.le_trans hBw hB.size
      have h01 : w.heap.size ≤ w1.heap.size := hB.size
      clear hlt hk HM hB HT
      go_wp2_with fail
      go_loopw [5, 6] (fun gs kk w2 => ∃ (j : Nat) (gl : List Value), j ≤ k ∧ kk = .int .i64 j ∧ Hid (w2.ownsRow w1.heap.size 50 1 gs j gl) ∧ Hid (GrM w1 w2 B L k av n c gl j) ∧ Sp k av n c w w2) (fun _ i _ => k - (intOf i).toNat)
      case atStart => exact ⟨0, [], Nat.zero_le _, rfl, hide (World.ownsRow_nil w1 w1.heap.size 50 1), HG0, HB1.out⟩
      case round =>
        clear HG0
        obtain ⟨w2, hw2⟩ : ∃ x, x = wr := ⟨_, rfl⟩
        subst hw2
        obtain ⟨j, gl, hj, rfl, HO, HG, hB⟩ := hrel
        by_cases hlt : j < k
        · have hn := HN.out j
          have hd : decide ((j : Int) < (k : Int)) = true := by rw [decide_eq_true_eq]; omega
          have hc := HG.out.cells j hlt
          have hLt : L < w2.heap.size := Nat.lt_of_lt_of_le HP.out.lt HG.out.size
          go_wp2_with fail
          clear hc
          go_loopw [7, 8] (fun g i w3 => ∃ i' : Nat, i' ≤ 64 ∧ i = .int .i64 i' ∧ Hid (OM w3 B g (mks j (n j + i'))) ∧ Hid (Grew w2 (.slice (av j) (n j) (c j)) w3 g) ∧ Hid (∀ i, i < n j → ∀ P, av j = some ⟨P, 0, none⟩ → (w3.cell? ⟨P, i * 5, none⟩ = some (.int .i64 (mq5 (j : Int) (i : Int)).1) ∧ w3.cell? ⟨P, i * 5 + 1, none⟩ = some (.int .i64 (mq5 (j : Int) (i : Int)).2.1) ∧ w3.cell? ⟨P, i * 5 + 2, none⟩ = some (.int .i64 (mq5 (j : Int) (i : Int)).2.2.1) ∧ w3.cell? ⟨P, i * 5 + 3, none⟩ = some (.int .i64 (mq5 (j : Int) (i : Int)).2.2.2.1) ∧ w3.cell? ⟨P, i * 5 + 4, none⟩ = some (.int .i64 (mq5 (j : Int) (i : Int)).2.2.2.2)))) (fun _ i _ => 64 - (intOf i).toNat)
          case atStart => exact ⟨0, Nat.zero_le _, rfl, hide (HG.out.rest j (Nat.le_refl _) hlt), hide (Grew.refl _ _), hide (HG.out.marks j hlt)⟩
          case round =>
            obtain ⟨w3, hw3⟩ : ∃ x, x = wr := ⟨_, rfl⟩
            subst hw3
            obtain ⟨i, hi, rfl, HD, HW, HOld⟩ := hrel
            have hc3 := HW.out.grown.cell (HG.out.cells j hlt) (fun e => HP.out.notL j hlt e.symm)
            by_cases hil : i < 64
            · obtain ⟨m, hm⟩ : ∃ m : El, Hid (mq5 (j : Int) ((n j : Int) + (i : Int)) = m) := ⟨_, hide rfl⟩
              have HS := hide (mks_succ j (n j + i))
              rw [Int.natCast_add, hm.out] at HS
              have HMK := hide (fun W : World => markQ_any (j : Int) ((n j : Int) + (i : Int)) W (by omega) (by omega))
              rw [hm.out] at HMK
              obtain ⟨m0, m1, m2, m3, m4⟩ := m
              have hws := HW.out.grown.size
              have hw2s := HG.out.size
              have hBs : B ≤ w3.heap.size := by omega
              go_wp2_with fail
              refine (HMK.out _).mono ?_
              rintro e w6 ⟨rfl, hb6⟩
              have hD6 := owns_lat HD.out hb6
              have HB6 := hide hb6
              have hb6s := hb6.size
              clear hb6
              go_wp2_with (first
                | (at_builtin; refine wp_append_kept rfl _ _ rfl B _ (mks j (n j + i)) (m0, m1, m2, m3, m4) _ rfl rfl (World.ownsRow.alloc hD6 _) ?c10 ?c11 ?c12 ?c13 ?c14 ?c2 ?c3 ?_)
                | go_in)
              case c2 => simp; omega
              case c3 => rw [mks_len]; omega
              intro v' w4 hown' hgrew hkeep
              have HR : Hid (OM w4 B v' (mks j (n j + (i + 1)))) := by
                show OM _ _ _ _
                rw [← Nat.add_assoc, HS.out]
                exact hown'
              have hbl : Below w3.heap.size w3 (w6.alloc (.cells #[.int .i64 m0, .int .i64 m1, .int .i64 m2, .int .i64 m3, .int .i64 m4] 83)) := HB6.out.alloc HB6.out.size _
              have HW4 := hide (HW.out.trans (Grew.ofBelow hbl hgrew))
              have HOld4 : Hid (∀ i, i < n j → ∀ P, av j = some ⟨P, 0, none⟩ → (w4.cell? ⟨P, i * 5, none⟩ = some (.int .i64 (mq5 (j : Int) (i : Int)).1) ∧ w4.cell? ⟨P, i * 5 + 1, none⟩ = some (.int .i64 (mq5 (j : Int) (i : Int)).2.1) ∧ w4.cell? ⟨P, i * 5 + 2, none⟩ = some (.int .i64 (mq5 (j : Int) (i : Int)).2.2.1) ∧ w4.cell? ⟨P, i * 5 + 3, none⟩ = some (.int .i64 (mq5 (j : Int) (i : Int)).2.2.2.1) ∧ w4.cell? ⟨P, i * 5 + 4, none⟩ = some (.int .i64 (mq5 (j : Int) (i : Int)).2.2.2.2))) := by
                intro i' hi' P hP
                have h1 := HOld.out i' hi' P hP
                have hlt3 := World.block_lt_of_cell? w3 _ h1.1
                refine ⟨hkeep P (i' * 5) _ (by rw [mks_len]; omega) ?_, hkeep P (i' * 5 + 1) _ (by rw [mks_len]; omega) ?_, hkeep P (i' * 5 + 2) _ (by rw [mks_len]; omega) ?_, hkeep P (i' * 5 + 3) _ (by rw [mks_len]; omega) ?_, hkeep P (i' * 5 + 4) _ (by rw [mks_len]; omega) ?_⟩
                · rw [hbl.cell (p := ⟨P, i' * 5, none⟩) hlt3]; exact h1.1
                · rw [hbl.cell (p := ⟨P, i' * 5 + 1, none⟩) hlt3]; exact h1.2.1
                · rw [hbl.cell (p := ⟨P, i' * 5 + 2, none⟩) hlt3]; exact h1.2.2.1
                · rw [hbl.cell (p := ⟨P, i' * 5 + 3, none⟩) hlt3]; exact h1.2.2.2.1
                · rw [hbl.cell (p := ⟨P, i' * 5 + 4, none⟩) hlt3]; exact h1.2.2.2.2
              clear hown' hgrew hkeep hbl HD HW HOld hD6
              go_wp2
              go_roundw
              case rel => exact ⟨i + 1, by omega, by go_num, HR, HW4, HOld4⟩
              case measure => simp [intOf]; omega
            · have hi' : i = 64 := by omega
              subst hi'
              have hgl : gl.length = j := by have h := HO.out.1; omega
              have HG3 := hide (HG.out.step HP.out hlt hgl HD.out HW.out HOld.out)
              have hOg := gs_kept HO.out HP.out hlt HW.out
              have HOg := hide hOg
              have HE : Hid (∀ (o : Obj) (w5 : World), _) := hide (fun o w5 => gs_sp (o := o) (w5 := w5) hlt h01 hB HW.out hOg)
              have hD := HD.out
              unfold OM at hD
              rw [mks_len] at hD
              obtain ⟨q, cq, rfl, _, _⟩ := World.ownsRow.form hD (by omega)
              have hs3 : w1.heap.size ≤ w3.heap.size := Nat.le_trans HG.out.size HW.out.grown.size
              clear hD HD HW HOld HG HO hc3
              go_wp2_with (first
                | (at_builtin; refine wpList_append_own _ rfl _ _ 57 rfl w1.heap.size 50 i2 (.slice none 0 0) 1 24 Tryd.underlying57 hi2 hza2 hzb2 hzc2 rfl (by decide) _ _ _ rfl (hOg.alloc _) ⟨_, 0, none⟩ 1 1 [.slice (some ⟨q, 0, none⟩) (n j + 64) cq] rfl rfl ?e1 ?e2 ?e3 ?e4 ?e5 ?_)
                | go_in)
              case e1 =>
                intro j u hj
                match j, hj with
                | 0, hj => simp at hj; subst hj; simp [Addr.add]
              case e2 => intro u hu; simp at hu; subst hu; rfl
              case e3 => unfold maxLen; omega
              case e4 => omega
              case e5 => simp; omega
              intro v' w5 hO5 hg5 _
              have hB5 := HE.out _ _ hg5
              have HG5 := hide (gs_step HP.out HG3.out HOg.out hg5)
              have HO5 := hide hO5
              clear hO5 hg5 hOg HG3 HE
              go_wp2
              go_roundw
              case rel => exact ⟨j + 1, _, by omega, by go_num, HO5, HG5, hB5⟩
              case measure => simp [intOf]; omega
        · have hj' : j = k := by omega
          subst hj'
          have HGc : Hid (∀ gs, w2.ownsRow w1.heap.size 50 1 gs j gl → 0 < j → ∃ q cq, gs = .slice (some ⟨q, 0, none⟩) j cq ∧ q < w2.heap.size ∧ ∀ m, m < j → ∃ p c, w2.cell? ⟨q, m, none⟩ = some (.slice (some ⟨p, 0, none⟩) (n m + 64) c) ∧ p < w2.heap.size ∧ ∀ i, i < n m + 64 → w2.cell? ⟨p, i * 5, none⟩ = some (.int .i64 (mq5 (m : Int) (i : Int)).1) ∧ w2.cell? ⟨p, i * 5 + 1, none⟩ = some (.int .i64 (mq5 (m : Int) (i : Int)).2.1) ∧ w2.cell? ⟨p, i * 5 + 2, none⟩ = some (.int .i64 (mq5 (m : Int) (i : Int)).2.2.1) ∧ w2.cell? ⟨p, i * 5 + 3, none⟩ = some (.int .i64 (mq5 (m : Int) (i : Int)).2.2.2.1) ∧ w2.cell? ⟨p, i * 5 + 4, none⟩ = some (.int .i64 (mq5 (m : Int) (i : Int)).2.2.2.2)) := by
            intro gs hgs h0
            obtain ⟨q, cq, rfl, _, hq2⟩ := hgs.form h0
            refine ⟨q, cq, rfl, hq2, fun m hm => ?_⟩
            obtain ⟨g, h1, h2, _⟩ := HG.out.done m hm
            unfold OM at h2
            rw [mks_len] at h2
            obtain ⟨p, c, rfl, _, hp2⟩ := h2.form (by omega)
            refine ⟨p, c, ?_, hp2, fun i hi => ?_⟩
            · rw [World.ownsRow.cellAt hgs m (by omega)]; exact h1
            · have e := mc_at (mks_at (k := m) hi)
              exact ⟨(World.ownsRow.cellAt h2 (i * 5) (by omega)).trans e.1, (World.ownsRow.cellAt h2 (i * 5 + 1) (by omega)).trans e.2.1, (World.ownsRow.cellAt h2 (i * 5 + 2) (by omega)).trans e.2.2.1, (World.ownsRow.cellAt h2 (i * 5 + 3) (by omega)).trans e.2.2.2.1, (World.ownsRow.cellAt h2 (i * 5 + 4) (by omega)).trans e.2.2.2.2⟩
          have HM2 : Hid (∀ m, m < j → ∀ i, i < n m → ∃ P, av m = some ⟨P, 0, none⟩ ∧ P < w2.heap.size ∧ w2.cell? ⟨P, i * 5, none⟩ = some (.int .i64 (mq5 (m : Int) (i : Int)).1) ∧ w2.cell? ⟨P, i * 5 + 1, none⟩ = some (.int .i64 (mq5 (m : Int) (i : Int)).2.1) ∧ w2.cell? ⟨P, i * 5 + 2, none⟩ = some (.int .i64 (mq5 (m : Int) (i : Int)).2.2.1) ∧ w2.cell? ⟨P, i * 5 + 3, none⟩ = some (.int .i64 (mq5 (m : Int) (i : Int)).2.2.2.1) ∧ w2.cell? ⟨P, i * 5 + 4, none⟩ = some (.int .i64 (mq5 (m : Int) (i : Int)).2.2.2.2)) := by
            intro m hm i hi
            obtain ⟨P, hP⟩ := HP.out.some m hm (by omega)
            have h1 := HG.out.marks m hm i hi P hP
            exact ⟨P, hP, World.block_lt_of_cell? w2 _ h1.1, h1⟩
          have HC2 := hide HG.out.cells
          have HLt : Hid (L < w2.heap.size) := hide (Nat.lt_of_lt_of_le HP.out.lt HG.out.size)
          have HBe := hide hB
          have HX := hide (HGc.out _ HO.out)
          clear HGc HG HO HP hlt hj hB HB1
          go_wp2_with fail
          go_loopw [9] (fun i wr => ∃ k : Nat, k ≤ j ∧ i = .int .i64 k ∧ Hid (Below w2.heap.size w2 wr)) (fun i _ => j - (intOf i).toNat)
          case atStart => exact ⟨0, Nat.zero_le _, rfl, hide (Below.refl _ _)⟩
          case round =>
            obtain ⟨k, hk, rfl, HB9⟩ := hrel
            by_cases hlt : k < j
            · have hn := HN.out k
              have hd : decide ((k : Int) < (j : Int)) = true := by rw [decide_eq_true_eq]; omega
              obtain ⟨q, cq, rfl, hql, hq⟩ := HX.out (by omega)
              obtain ⟨p, cp, hp, hpl, hpc⟩ := hq k hlt
              have HPC := hide hpc
              have HQC := hide hp
              have HQL := hide hql
              have HPL := hide hpl
              clear hpc hq HX hp hql hpl
              go_wp2_with fail
              go_loopw [10] (fun i wr => ∃ i' : Nat, i' ≤ n k + 64 ∧ i = .int .i64 i' ∧ Hid (Below w2.heap.size w2 wr)) (fun i _ => n k + 64 - (intOf i).toNat)
              case atStart => exact ⟨0, Nat.zero_le _, rfl, HB9⟩
              case round =>
                clear HB9
                obtain ⟨i, hi, rfl, HB9⟩ := hrel
                have hp := (HB9.out.cell (p := ⟨q, k, none⟩) HQL.out).trans HQC.out
                by_cases hil : i < n k + 64
                · have HPI := hide (HPC.out i hil)
                  have HMK := hide (fun W : World => markQ_any (k : Int) (i : Int) W (by omega) (by omega))
                  by_cases hin : i < n k
                  · obtain ⟨P, hA, hPl, hPi⟩ := HM2.out k hlt i hin
                    obtain ⟨m, HM5⟩ : ∃ m : El, Hid (mq5 (k : Int) (i : Int) = m) := ⟨_, hide rfl⟩
                    have HPI2 := hide hPi
                    rw [HM5.out] at HMK HPI HPI2
                    obtain ⟨m0, m1, m2, m3, m4⟩ := m
                    have HCC := hide (HC2.out k hlt)
                    rw [hA] at HCC
                    have HPl := hide hPl
                    clear hA hPi hPl
                    go_wp2_with fail
                    refine (HMK.out _).mono ?_
                    rintro e w6 ⟨rfl, hb6⟩
                    have B6 := hide (HB9.out.trans (hb6.mono HB9.out.size))
                    clear hb6 hp
                    have BC := hide (B6.out.alloc B6.out.size (.cells #[.int .i64 m0, .int .i64 m1, .int .i64 m2, .int .i64 m3, .int .i64 m4] 83))
                    have d0 := (BC.out.cell (p := ⟨q, k, none⟩) HQL.out).trans HQC.out
                    have d1 := (BC.out.cell (p := ⟨L, k, none⟩) HLt.out).trans HCC.out
                    have u0 := (BC.out.cell (p := ⟨p, i * 5, none⟩) HPL.out).trans HPI.out.1
                    have u1 := (BC.out.cell (p := ⟨p, i * 5 + 1, none⟩) HPL.out).trans HPI.out.2.1
                    have u2 := (BC.out.cell (p := ⟨p, i * 5 + 2, none⟩) HPL.out).trans HPI.out.2.2.1
                    have u3 := (BC.out.cell (p := ⟨p, i * 5 + 3, none⟩) HPL.out).trans HPI.out.2.2.2.1
                    have u4 := (BC.out.cell (p := ⟨p, i * 5 + 4, none⟩) HPL.out).trans HPI.out.2.2.2.2
                    have t0 := (BC.out.cell (p := ⟨P, i * 5, none⟩) HPl.out).trans HPI2.out.1
                    have t1 := (BC.out.cell (p := ⟨P, i * 5 + 1, none⟩) HPl.out).trans HPI2.out.2.1
                    have t2 := (BC.out.cell (p := ⟨P, i * 5 + 2, none⟩) HPl.out).trans HPI2.out.2.2.1
                    have t3 := (BC.out.cell (p := ⟨P, i * 5 + 3, none⟩) HPl.out).trans HPI2.out.2.2.2.1
                    have t4 := (BC.out.cell (p := ⟨P, i * 5 + 4, none⟩) HPl.out).trans HPI2.out.2.2.2.2
                    have q9 := alloc_new w6 (.cells #[.int .i64 m0, .int .i64 m1, .int .i64 m2, .int .i64 m3, .int .i64 m4] 83)
                    have ee := cellsA q9 rfl
                    obtain ⟨e0, e1, e2, e3, e4⟩ := ee
                    have hneq2 := run_neq_mk m0 m1 m2 m3 m4
                    have g1 : decide ((i : Int) < (n k : Int)) = true := by rw [decide_eq_true_eq]; omega
                    have k0 : (0 : Int) ≤ (i : Int) := by omega
                    have k1 : (i : Int) < (n k : Int) := by omega
                    have k2 : (0 : Int) ≤ (k : Int) := by omega
                    have k3 : (k : Int) < (j : Int) := by omega
                    clear q9
                    go_wp2_with fail
                    have BC2 := hide BC.out
                    generalize w6.alloc (.cells #[.int .i64 m0, .int .i64 m1, .int .i64 m2, .int .i64 m3, .int .i64 m4] 83) = Y at *
                    go_quiet (fail)
                    go_wp2_with fail
                    go_roundw
                    case rel => exact ⟨i + 1, by omega, by go_num, hide (below_dN BC2.out _)⟩
                    case measure => simp [intOf]; omega
                  · obtain ⟨m, HM5⟩ : ∃ m : El, Hid (mq5 (k : Int) (i : Int) = m) := ⟨_, hide rfl⟩
                    rw [HM5.out] at HMK HPI
                    obtain ⟨m0, m1, m2, m3, m4⟩ := m
                    have HCC := hide (HC2.out k hlt)
                    go_wp2_with fail
                    refine (HMK.out _).mono ?_
                    rintro e w6 ⟨rfl, hb6⟩
                    have B6 := hide (HB9.out.trans (hb6.mono HB9.out.size))
                    clear hb6 hp
                    have BC := hide (B6.out.alloc B6.out.size (.cells #[.int .i64 m0, .int .i64 m1, .int .i64 m2, .int .i64 m3, .int .i64 m4] 83))
                    have d0 := (BC.out.cell (p := ⟨q, k, none⟩) HQL.out).trans HQC.out
                    have d1 := (BC.out.cell (p := ⟨L, k, none⟩) HLt.out).trans HCC.out
                    have u0 := (BC.out.cell (p := ⟨p, i * 5, none⟩) HPL.out).trans HPI.out.1
                    have u1 := (BC.out.cell (p := ⟨p, i * 5 + 1, none⟩) HPL.out).trans HPI.out.2.1
                    have u2 := (BC.out.cell (p := ⟨p, i * 5 + 2, none⟩) HPL.out).trans HPI.out.2.2.1
                    have u3 := (BC.out.cell (p := ⟨p, i * 5 + 3, none⟩) HPL.out).trans HPI.out.2.2.2.1
                    have u4 := (BC.out.cell (p := ⟨p, i * 5 + 4, none⟩) HPL.out).trans HPI.out.2.2.2.2
                    have q9 := alloc_new w6 (.cells #[.int .i64 m0, .int .i64 m1, .int .i64 m2, .int .i64 m3, .int .i64 m4] 83)
                    have ee := cellsA q9 rfl
                    obtain ⟨e0, e1, e2, e3, e4⟩ := ee
                    have hneq2 := run_neq_mk m0 m1 m2 m3 m4
                    have g1 : decide ((i : Int) < (n k : Int)) = false := by rw [decide_eq_false_iff_not]; omega
                    have k2 : (0 : Int) ≤ (k : Int) := by omega
                    have k3 : (k : Int) < (j : Int) := by omega
                    clear q9
                    go_wp2_with fail
                    have BC2 := hide BC.out
                    generalize w6.alloc (.cells #[.int .i64 m0, .int .i64 m1, .int .i64 m2, .int .i64 m3, .int .i64 m4] 83) = Y at *
                    go_quiet (fail)
                    go_wp2_with fail
                    go_roundw
                    case rel => exact ⟨i + 1, by omega, by go_num, hide (below_dN BC2.out _)⟩
                    case measure => simp [intOf]; omega
                · have hi' : i = n k + 64 := by omega
                  subst hi'
                  go_wp2_with fail
                  go_roundw
                  case rel => exact ⟨k + 1, by omega, by go_num, HB9⟩
                  case measure => simp [intOf]; omega
            · have hd : decide ((k : Int) < (j : Int)) = false := by rw [decide_eq_false_iff_not]; omega
              go_wp2_with fail
              go_ret
              exact ⟨rfl, HBe.out.later HB9.out⟩
end Go.Proofs.YtmojckejjjlkjaaDoor.LG
