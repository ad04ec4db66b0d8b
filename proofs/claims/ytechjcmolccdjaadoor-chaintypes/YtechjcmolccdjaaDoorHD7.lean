/-
  My own text: two chains and their rows in memory (printed by mkhd7.py).
-/
import Derived.Test.YtechjcmolccdjaaDoorHD6
namespace Go.Proofs.YtechjcmolccdjaaDoor
open Go.RowKit Go.Shelf

/-- Two chains and their rows. -/
structure SS (w : World) (bx br c0 c1 k : Nat) (L0 L1 : List Ver) (v0 v1 : Value) (W : World) : Prop where
  xa : W.heap[bx]? = some (.cells #[.pointer (some ⟨c0, 0, none⟩), .pointer (some ⟨c1, 0, none⟩)] 25 (0, 0))
  ra : W.heap[br]? = some (.cells #[v0, v1] 27 (0, 0))
  p0 : CR w c0 k L0 v0 W
  p1 : CR w c1 k L1 v1 W
  ne : c0 ≠ c1
  ap : Ap c0 c1 W
  nx : w.heap.size ≤ bx
  nr : w.heap.size ≤ br
theorem SS.later {w W W' : World} {bx br c0 c1 k : Nat} {L0 L1 : List Ver} {v0 v1 : Value} (h : SS w bx br c0 c1 k L0 L1 v0 v1 W) (hb : Below W.heap.size W W') : SS w bx br c0 c1 k L0 L1 v0 v1 W' :=
  ⟨(hb.block bx (Array.getElem?_eq_some_iff.1 h.xa).1).trans h.xa, (hb.block br (Array.getElem?_eq_some_iff.1 h.ra).1).trans h.ra, h.p0.later hb, h.p1.later hb, h.ne, h.ap.same (hb.cell (p := ⟨c0, 0, none⟩) h.p0.ch.lt) (hb.cell (p := ⟨c1, 0, none⟩) h.p1.ch.lt), h.nx, h.nr⟩
theorem SS.x0 {w W : World} {bx br c0 c1 k : Nat} {L0 L1 : List Ver} {v0 v1 : Value} (h : SS w bx br c0 c1 k L0 L1 v0 v1 W) : W.cell? ⟨bx, 0, none⟩ = some (.pointer (some ⟨c0, 0, none⟩)) := by rw [cell_of_row W bx 0 _ _ _ h.xa]; rfl
theorem SS.x1 {w W : World} {bx br c0 c1 k : Nat} {L0 L1 : List Ver} {v0 v1 : Value} (h : SS w bx br c0 c1 k L0 L1 v0 v1 W) : W.cell? ⟨bx, 1, none⟩ = some (.pointer (some ⟨c1, 0, none⟩)) := by rw [cell_of_row W bx 1 _ _ _ h.xa]; rfl
theorem SS.r0 {w W : World} {bx br c0 c1 k : Nat} {L0 L1 : List Ver} {v0 v1 : Value} (h : SS w bx br c0 c1 k L0 L1 v0 v1 W) : W.cell? ⟨br, 0, none⟩ = some v0 := by rw [cell_of_row W br 0 _ _ _ h.ra]; rfl
theorem SS.r1 {w W : World} {bx br c0 c1 k : Nat} {L0 L1 : List Ver} {v0 v1 : Value} (h : SS w bx br c0 c1 k L0 L1 v0 v1 W) : W.cell? ⟨br, 1, none⟩ = some v1 := by rw [cell_of_row W br 1 _ _ _ h.ra]; rfl
theorem frozen_of {W : World} {b : Nat} {cs : Array Value} {t : TypeId} (h : W.heap[b]? = some (.cells cs t (0, 0))) (off : Nat) : W.frozen? ⟨b, off, none⟩ = false := by unfold World.frozen?; simp [h]
theorem set_row {W : World} {b : Nat} {cs : Array Value} {t : TypeId} {fz : Nat × Nat} (h : W.heap[b]? = some (.cells cs t fz)) (off : Nat) (u : Value) : (W.setCell ⟨b, off, none⟩ u).heap[b]? = some (.cells (cs.setIfInBounds off u) t fz) := by
  rw [setCell_eq_setRow W b off _ _ _ u h]; exact setRow_heap W b _ _ _ _ h
/-- A new chain beside another. -/
theorem ap_new {W w1 : World} {c d B : Nat} {X : List Ver} (hc : CH w1 c c X) (hcW : W.heap.size ≤ c) (hb : Below W.heap.size W w1) {Y : List Ver} (hd : CH W B d Y) : Ap c d w1 := by
  intro v v' hv hv' g hg e
  rw [hb.cell (p := ⟨d, 0, none⟩) hd.lt] at hv'
  have h1 := (hc.row_in v hv g hg).1
  have h2 := (hd.row_in v' hv' g e).2
  omega
/-- A call of chain 0, and its row laid down. -/
theorem SS.on0 {w W W' : World} {bx br c0 c1 k : Nat} {L0 L1 L' : List Ver} {v0 v1 v' : Value} (h : SS w bx br c0 c1 k L0 L1 v0 v1 W) (hc : CR w c0 (k + 1) L' v' W') (hf : Fr W W' c0) :
    W'.heap[br]? = some (.cells #[v0, v1] 27 (0, 0)) ∧ SS w bx br c0 c1 (k + 1) L' L1 v' v1 (W'.setCell ⟨br, 0, none⟩ v') := by
  have x' := hf.blk h.p0.ch h.xa (by decide) (by decide)
  have r' := hf.blk h.p0.ch h.ra (by decide) (by decide)
  obtain ⟨y1, y2⟩ := h.p1.other hf h.p0.ch h.p0.new h.ne h.ap
  obtain ⟨_, hk0⟩ := hc.ch.blk
  obtain ⟨_, hk1⟩ := y1.ch.blk
  have n0 := ne_type hk0 r' (by decide)
  have n1 := ne_type hk1 r' (by decide)
  exact ⟨r', (Below.heap_setCell _ _ _ bx (ne_type x' r' (by decide))).trans x', set_row r' 0 v', hc.set r' (by decide) (by decide) (by decide) h.nr, (y1.up).set r' (by decide) (by decide) (by decide) h.nr, h.ne, y2.setB n0 n1, h.nx, h.nr⟩
/-- A new chain in the place of chain 0. -/
theorem SS.new0 {w W w1 : World} {bx br c0 c1 k : Nat} {L0 L1 : List Ver} {v0 v1 : Value} (h : SS w bx br c0 c1 k L0 L1 v0 v1 W) (hc : CH w1 W.heap.size W.heap.size []) (hb : Below W.heap.size W w1) :
    w1.heap[bx]? = some (.cells #[.pointer (some ⟨c0, 0, none⟩), .pointer (some ⟨c1, 0, none⟩)] 25 (0, 0)) ∧ (w1.setCell ⟨bx, 0, none⟩ (.pointer (some ⟨W.heap.size, 0, none⟩))).heap[br]? = some (.cells #[v0, v1] 27 (0, 0)) ∧ SS w bx br W.heap.size c1 (k + 1) [] L1 (.slice none 0 0) v1 ((w1.setCell ⟨bx, 0, none⟩ (.pointer (some ⟨W.heap.size, 0, none⟩))).setCell ⟨br, 0, none⟩ (.slice none 0 0)) := by
  have h1 := h.later hb
  have x1 := h1.xa
  have r1 := h1.ra
  have nxr := ne_type x1 r1 (by decide)
  have r2 : (w1.setCell ⟨bx, 0, none⟩ (.pointer (some ⟨W.heap.size, 0, none⟩))).heap[br]? = _ := (Below.heap_setCell _ _ _ br (Ne.symm nxr)).trans r1
  have y1 := h1.p1.up
  have cn : CR w W.heap.size (k + 1) [] (.slice none 0 0) w1 := ⟨hc, OR.nil _ _ _ _, ⟨trivial, fun p hp => (by cases hp), fun p hp => (by cases hp), Nat.zero_le _⟩, h1.p0.low, h.p0.low.size⟩
  obtain ⟨_, hk0⟩ := hc.blk
  obtain ⟨_, hk1⟩ := y1.ch.blk
  have a1 := ap_new hc (Nat.le_refl _) hb h.p1.ch
  have a2 := (a1.setB (off := 0) (u := .pointer (some ⟨W.heap.size, 0, none⟩)) (ne_type hk0 x1 (by decide)) (ne_type hk1 x1 (by decide))).setB (off := 0) (u := (.slice none 0 0)) (ne_type hk0 r1 (by decide)) (ne_type hk1 r1 (by decide))
  have lt := h.p1.ch.lt
  exact ⟨x1, r2, (Below.heap_setCell _ _ _ bx nxr).trans (set_row x1 0 _), set_row r2 0 _, (cn.set x1 (by decide) (by decide) (by decide) h.nx).set r2 (by decide) (by decide) (by decide) h.nr, (y1.set x1 (by decide) (by decide) (by decide) h.nx).set r2 (by decide) (by decide) (by decide) h.nr, by omega, a2, h.nx, h.nr⟩
/-- A call of chain 1, and its row laid down. -/
theorem SS.on1 {w W W' : World} {bx br c0 c1 k : Nat} {L0 L1 L' : List Ver} {v0 v1 v' : Value} (h : SS w bx br c0 c1 k L0 L1 v0 v1 W) (hc : CR w c1 (k + 1) L' v' W') (hf : Fr W W' c1) :
    W'.heap[br]? = some (.cells #[v0, v1] 27 (0, 0)) ∧ SS w bx br c0 c1 (k + 1) L0 L' v0 v' (W'.setCell ⟨br, 1, none⟩ v') := by
  have x' := hf.blk h.p1.ch h.xa (by decide) (by decide)
  have r' := hf.blk h.p1.ch h.ra (by decide) (by decide)
  obtain ⟨y1, y2⟩ := h.p0.other hf h.p1.ch h.p1.new (Ne.symm h.ne) h.ap.symm
  obtain ⟨_, hk0⟩ := hc.ch.blk
  obtain ⟨_, hk1⟩ := y1.ch.blk
  have n0 := ne_type hk0 r' (by decide)
  have n1 := ne_type hk1 r' (by decide)
  exact ⟨r', (Below.heap_setCell _ _ _ bx (ne_type x' r' (by decide))).trans x', set_row r' 1 v', (y1.up).set r' (by decide) (by decide) (by decide) h.nr, hc.set r' (by decide) (by decide) (by decide) h.nr, h.ne, (y2.setB n0 n1).symm, h.nx, h.nr⟩
/-- A new chain in the place of chain 1. -/
theorem SS.new1 {w W w1 : World} {bx br c0 c1 k : Nat} {L0 L1 : List Ver} {v0 v1 : Value} (h : SS w bx br c0 c1 k L0 L1 v0 v1 W) (hc : CH w1 W.heap.size W.heap.size []) (hb : Below W.heap.size W w1) :
    w1.heap[bx]? = some (.cells #[.pointer (some ⟨c0, 0, none⟩), .pointer (some ⟨c1, 0, none⟩)] 25 (0, 0)) ∧ (w1.setCell ⟨bx, 1, none⟩ (.pointer (some ⟨W.heap.size, 0, none⟩))).heap[br]? = some (.cells #[v0, v1] 27 (0, 0)) ∧ SS w bx br c0 W.heap.size (k + 1) L0 [] v0 (.slice none 0 0) ((w1.setCell ⟨bx, 1, none⟩ (.pointer (some ⟨W.heap.size, 0, none⟩))).setCell ⟨br, 1, none⟩ (.slice none 0 0)) := by
  have h1 := h.later hb
  have x1 := h1.xa
  have r1 := h1.ra
  have nxr := ne_type x1 r1 (by decide)
  have r2 : (w1.setCell ⟨bx, 1, none⟩ (.pointer (some ⟨W.heap.size, 0, none⟩))).heap[br]? = _ := (Below.heap_setCell _ _ _ br (Ne.symm nxr)).trans r1
  have y1 := h1.p0.up
  have cn : CR w W.heap.size (k + 1) [] (.slice none 0 0) w1 := ⟨hc, OR.nil _ _ _ _, ⟨trivial, fun p hp => (by cases hp), fun p hp => (by cases hp), Nat.zero_le _⟩, h1.p0.low, h.p0.low.size⟩
  obtain ⟨_, hk0⟩ := hc.blk
  obtain ⟨_, hk1⟩ := y1.ch.blk
  have a1 := ap_new hc (Nat.le_refl _) hb h.p0.ch
  have a2 := (a1.setB (off := 1) (u := .pointer (some ⟨W.heap.size, 0, none⟩)) (ne_type hk0 x1 (by decide)) (ne_type hk1 x1 (by decide))).setB (off := 1) (u := (.slice none 0 0)) (ne_type hk0 r1 (by decide)) (ne_type hk1 r1 (by decide))
  have lt := h.p0.ch.lt
  exact ⟨x1, r2, (Below.heap_setCell _ _ _ bx nxr).trans (set_row x1 1 _), set_row r2 1 _, (y1.set x1 (by decide) (by decide) (by decide) h.nx).set r2 (by decide) (by decide) (by decide) h.nr, (cn.set x1 (by decide) (by decide) (by decide) h.nx).set r2 (by decide) (by decide) (by decide) h.nr, by omega, a2.symm, h.nx, h.nr⟩
end Go.Proofs.YtechjcmolccdjaaDoor
