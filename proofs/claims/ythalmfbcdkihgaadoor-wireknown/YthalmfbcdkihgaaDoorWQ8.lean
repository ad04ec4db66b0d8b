/-
  My own text: what two readers of each side hold, call by call (printed by mkwq8.py).
-/
import Derived.Test.YthalmfbcdkihgaaDoorWQ6
namespace Go.Proofs.YthalmfbcdkihgaaDoor
open Go.RowKit Go.Extern

/-- Two readers of the program's, two of the document's. -/
structure S3 (w : World) (q R r0 r1 g0 g1 ga gb : Nat) (va vb : Value) (La Lb : List UInt8) (W : World) (l0 l1 m0 m1 : List UInt8) (e0 e1 x0 x1 : Int) : Prop where
  d0 : Rd W 42 r0 g0 l0 e0
  d1 : Rd W 42 r1 g1 l1 e1
  f0 : ∃ n, n ≤ La.length ∧ La.drop n = m0 ∧ Rf W q 0 va n x0
  f1 : ∃ n, n ≤ Lb.length ∧ Lb.drop n = m1 ∧ Rf W q 3 vb n x1
  k0 : W.cell? ⟨R, 0, none⟩ = some (.pointer (some ⟨r0, 0, none⟩))
  k1 : W.cell? ⟨R, 1, none⟩ = some (.pointer (some ⟨r1, 0, none⟩))
  b : Below w.heap.size w W
  be0 : 0 ≤ e0 ∧ e0 ≤ 24
  be1 : 0 ≤ e1 ∧ e1 ≤ 24
  bx0 : 0 ≤ x0 ∧ x0 ≤ 24
  bx1 : 0 ≤ x1 ∧ x1 ≤ 24
  bl0 : l0.length ≤ La.length
  bl1 : l1.length ≤ Lb.length
  r01 : r0 ≠ r1
  r0q : r0 ≠ q
  r1q : r1 ≠ q
  Rr0 : R ≠ r0
  Rr1 : R ≠ r1
  Rq : R ≠ q
  gg0 : La ≠ [] → g0 ≠ r1 ∧ g0 ≠ q
  gg1 : Lb ≠ [] → g1 ≠ r0 ∧ g1 ≠ q
  wr0 : w.heap.size ≤ r0
  wr1 : w.heap.size ≤ r1
  wq : w.heap.size ≤ q
  ha : RG w ga va La
  hb : RG w gb vb Lb
  hga : ga < w.heap.size
  hgb : gb < w.heap.size
theorem Only.cell {r : Nat} {w w1 : World} (h : Only r w w1) {b j : Nat} {u : Value} (hc : w.cell? ⟨b, j, none⟩ = some u) (hne : b ≠ r) : w1.cell? ⟨b, j, none⟩ = some u :=
  (World.cell?_of_block (w := w) (h.block b (World.block_lt_of_cell? w _ hc) hne)).trans hc
theorem Rf.only {w w1 : World} {q o n r : Nat} {v : Value} {e : Int} (h : Rf w q o v n e) (ho : Only r w w1) (hne : q ≠ r) : Rf w1 q o v n e := h.keep (ho.block q h.lt hne)
theorem Rd.only {w w1 : World} {t r g s : Nat} {l : List UInt8} {e : Int} (h : Rd w t r g l e) (ho : Only s w w1) (hr : r ≠ s) (hg : l ≠ [] → g ≠ s) : Rd w1 t r g l e := h.keep ho.size (ho.block r h.lt hr) (fun hl hlt => ho.block g hlt (hg hl))
theorem Rf.other {w w1 : World} {q o o' n : Nat} {v : Value} {e : Int} (h : Rf w q o' v n e) (hc : Ch q o w w1) (h0 : o' ≠ o + 1) (h1 : o' ≠ o + 2) (h2 : o' + 1 ≠ o + 1) (h3 : o' + 1 ≠ o + 2) (h4 : o' + 2 ≠ o + 1) (h5 : o' + 2 ≠ o + 2) : Rf w1 q o' v n e :=
  ⟨(hc.cell _ h0 h1).trans h.c0, (hc.cell _ h2 h3).trans h.c1, (hc.cell _ h4 h5).trans h.c2, (hc.froz _).trans h.f1, (hc.froz _).trans h.f2⟩
theorem S3.ask0 {w W : World} {q R r0 r1 g0 g1 ga gb : Nat} {va vb : Value} {La Lb l0 l1 m0 m1 : List UInt8} {e0 e1 x0 x1 : Int} (h : S3 w q R r0 r1 g0 g1 ga gb va vb La Lb W l0 l1 m0 m1 e0 e1 x0 x1) (p : Gt) (hE : ErrType w) (hl : La.length ≤ 140737488355328) (hn : p.n ≤ 9223372036854775807) :
    Calls Tryd.prog 48 #[.pointer (some ⟨r0, 0, none⟩), gtV p] W fun en w' => en = .returned (ansV p l0 e0) ∧ S3 w q R r0 r1 g0 g1 ga gb va vb La Lb w' (nxt p.kd p.x p.n l0 e0).1 l1 m0 m1 (nxt p.kd p.x p.n l0 e0).2 e1 x0 x1 := by
  have hbl := h.bl0
  refine (ask_any p 42 r0 g0 l0 e0 W h.d0 h.be0.1 h.be0.2 (by omega) hn (hE.below h.b)).mono fun en w' hh => ?_
  obtain ⟨h1, h2, h3⟩ := hh
  obtain ⟨n1, n2, n3⟩ := nxt_rng p.kd p.x p.n l0 e0 h.be0.1 h.be0.2
  obtain ⟨a0, a1, a2, a3⟩ := h.f0
  obtain ⟨b0, b1, b2, b3⟩ := h.f1
  have hgo : l1 ≠ [] → g1 ≠ r0 := fun hl => (h.gg1 (len_ne h.bl1 hl)).1
  have ho := h.d1.only h3 h.r01.symm hgo
  have hbw := h3.toBelow h.b h.b.size h.wr0
  refine ⟨h1, { h with d0 := h2, d1 := ho, f0 := ⟨a0, a1, a2, a3.only h3 h.r0q.symm⟩, f1 := ⟨b0, b1, b2, b3.only h3 h.r0q.symm⟩, k0 := h3.cell h.k0 h.Rr0, k1 := h3.cell h.k1 h.Rr0, b := hbw, be0 := ⟨n1, n2⟩, bl0 := Nat.le_trans n3 h.bl0 }⟩
theorem S3.tell0 {w W : World} {q R r0 r1 g0 g1 ga gb : Nat} {va vb : Value} {La Lb l0 l1 m0 m1 : List UInt8} {e0 e1 x0 x1 : Int} (h : S3 w q R r0 r1 g0 g1 ga gb va vb La Lb W l0 l1 m0 m1 e0 e1 x0 x1) (p : Gt) (hl : La.length ≤ 140737488355328) (hn : p.n ≤ 9223372036854775807) :
    Calls Tryd.prog 49 #[.pointer (some ⟨q, 0, none⟩), gtV p] W fun en w' => en = .returned (ansV p m0 x0) ∧ S3 w q R r0 r1 g0 g1 ga gb va vb La Lb w' l0 l1 (nxt p.kd p.x p.n m0 x0).1 m1 e0 e1 (nxt p.kd p.x p.n m0 x0).2 x1 := by
  obtain ⟨k, hk, hkm, hkf⟩ := h.f0
  have hg : ga ≠ q := by have := h.hga; have := h.wq; omega
  have hrg : RG W ga va La := h.ha.keep h.b.size (fun _ hlt => h.b.block _ hlt)
  have hc := tell_any p q 0 ga k va La x0 W hkf hrg hg hk h.bx0.1 h.bx0.2 hl hn
  rw [hkm] at hc
  refine hc.mono fun en w' hh => ?_
  obtain ⟨h1, ⟨n', h2, h3, h4⟩, h5⟩ := hh
  obtain ⟨n1, n2, n3⟩ := nxt_rng p.kd p.x p.n m0 x0 h.bx0.1 h.bx0.2
  obtain ⟨b0, b1, b2, b3⟩ := h.f1
  have hd0 := h.d0.only h5.only h.r0q (fun hl => (h.gg0 (len_ne h.bl0 hl)).2)
  have hd1 := h.d1.only h5.only h.r1q (fun hl => (h.gg1 (len_ne h.bl1 hl)).2)
  have hbw := h5.only.toBelow h.b h.b.size h.wq
  refine ⟨h1, { h with d0 := hd0, d1 := hd1, f0 := ⟨n', h2, h3, h4⟩, f1 := ⟨b0, b1, b2, b3.other h5 (by decide) (by decide) (by decide) (by decide) (by decide) (by decide)⟩, k0 := h5.only.cell h.k0 h.Rq, k1 := h5.only.cell h.k1 h.Rq, b := hbw, bx0 := ⟨n1, n2⟩ }⟩
theorem S3.ask1 {w W : World} {q R r0 r1 g0 g1 ga gb : Nat} {va vb : Value} {La Lb l0 l1 m0 m1 : List UInt8} {e0 e1 x0 x1 : Int} (h : S3 w q R r0 r1 g0 g1 ga gb va vb La Lb W l0 l1 m0 m1 e0 e1 x0 x1) (p : Gt) (hE : ErrType w) (hl : Lb.length ≤ 140737488355328) (hn : p.n ≤ 9223372036854775807) :
    Calls Tryd.prog 48 #[.pointer (some ⟨r1, 0, none⟩), gtV p] W fun en w' => en = .returned (ansV p l1 e1) ∧ S3 w q R r0 r1 g0 g1 ga gb va vb La Lb w' l0 (nxt p.kd p.x p.n l1 e1).1 m0 m1 e0 (nxt p.kd p.x p.n l1 e1).2 x0 x1 := by
  have hbl := h.bl1
  refine (ask_any p 42 r1 g1 l1 e1 W h.d1 h.be1.1 h.be1.2 (by omega) hn (hE.below h.b)).mono fun en w' hh => ?_
  obtain ⟨h1, h2, h3⟩ := hh
  obtain ⟨n1, n2, n3⟩ := nxt_rng p.kd p.x p.n l1 e1 h.be1.1 h.be1.2
  obtain ⟨a0, a1, a2, a3⟩ := h.f0
  obtain ⟨b0, b1, b2, b3⟩ := h.f1
  have hgo : l0 ≠ [] → g0 ≠ r1 := fun hl => (h.gg0 (len_ne h.bl0 hl)).1
  have ho := h.d0.only h3 h.r01 hgo
  have hbw := h3.toBelow h.b h.b.size h.wr1
  refine ⟨h1, { h with d1 := h2, d0 := ho, f0 := ⟨a0, a1, a2, a3.only h3 h.r1q.symm⟩, f1 := ⟨b0, b1, b2, b3.only h3 h.r1q.symm⟩, k0 := h3.cell h.k0 h.Rr1, k1 := h3.cell h.k1 h.Rr1, b := hbw, be1 := ⟨n1, n2⟩, bl1 := Nat.le_trans n3 h.bl1 }⟩
theorem S3.tell1 {w W : World} {q R r0 r1 g0 g1 ga gb : Nat} {va vb : Value} {La Lb l0 l1 m0 m1 : List UInt8} {e0 e1 x0 x1 : Int} (h : S3 w q R r0 r1 g0 g1 ga gb va vb La Lb W l0 l1 m0 m1 e0 e1 x0 x1) (p : Gt) (hl : Lb.length ≤ 140737488355328) (hn : p.n ≤ 9223372036854775807) :
    Calls Tryd.prog 49 #[.pointer (some ⟨q, 3, none⟩), gtV p] W fun en w' => en = .returned (ansV p m1 x1) ∧ S3 w q R r0 r1 g0 g1 ga gb va vb La Lb w' l0 l1 m0 (nxt p.kd p.x p.n m1 x1).1 e0 e1 x0 (nxt p.kd p.x p.n m1 x1).2 := by
  obtain ⟨k, hk, hkm, hkf⟩ := h.f1
  have hg : gb ≠ q := by have := h.hgb; have := h.wq; omega
  have hrg : RG W gb vb Lb := h.hb.keep h.b.size (fun _ hlt => h.b.block _ hlt)
  have hc := tell_any p q 3 gb k vb Lb x1 W hkf hrg hg hk h.bx1.1 h.bx1.2 hl hn
  rw [hkm] at hc
  refine hc.mono fun en w' hh => ?_
  obtain ⟨h1, ⟨n', h2, h3, h4⟩, h5⟩ := hh
  obtain ⟨n1, n2, n3⟩ := nxt_rng p.kd p.x p.n m1 x1 h.bx1.1 h.bx1.2
  obtain ⟨b0, b1, b2, b3⟩ := h.f0
  have hd0 := h.d0.only h5.only h.r0q (fun hl => (h.gg0 (len_ne h.bl0 hl)).2)
  have hd1 := h.d1.only h5.only h.r1q (fun hl => (h.gg1 (len_ne h.bl1 hl)).2)
  have hbw := h5.only.toBelow h.b h.b.size h.wq
  refine ⟨h1, { h with d0 := hd0, d1 := hd1, f1 := ⟨n', h2, h3, h4⟩, f0 := ⟨b0, b1, b2, b3.other h5 (by decide) (by decide) (by decide) (by decide) (by decide) (by decide)⟩, k0 := h5.only.cell h.k0 h.Rq, k1 := h5.only.cell h.k1 h.Rq, b := hbw, bx1 := ⟨n1, n2⟩ }⟩
theorem S3.drew {w W : World} {q R r0 r1 g0 g1 ga gb : Nat} {va vb : Value} {La Lb l0 l1 m0 m1 : List UInt8} {e0 e1 x0 x1 : Int} (h : S3 w q R r0 r1 g0 g1 ga gb va vb La Lb W l0 l1 m0 m1 e0 e1 x0 x1) : S3 w q R r0 r1 g0 g1 ga gb va vb La Lb W.drew l0 l1 m0 m1 e0 e1 x0 x1 := by
  obtain ⟨a0, a1, a2, a3⟩ := h.f0
  obtain ⟨b0, b1, b2, b3⟩ := h.f1
  exact { h with d0 := h.d0.keep (Nat.le_refl _) rfl (fun _ _ => rfl), d1 := h.d1.keep (Nat.le_refl _) rfl (fun _ _ => rfl), f0 := ⟨a0, a1, a2, a3.drew⟩, f1 := ⟨b0, b1, b2, b3.drew⟩, b := h.b.drew }
theorem S3.later {w W W' : World} {q R r0 r1 g0 g1 ga gb : Nat} {va vb : Value} {La Lb l0 l1 m0 m1 : List UInt8} {e0 e1 x0 x1 : Int} (h : S3 w q R r0 r1 g0 g1 ga gb va vb La Lb W l0 l1 m0 m1 e0 e1 x0 x1) (hb : Below W.heap.size W W') : S3 w q R r0 r1 g0 g1 ga gb va vb La Lb W' l0 l1 m0 m1 e0 e1 x0 x1 := by
  obtain ⟨a0, a1, a2, a3⟩ := h.f0
  obtain ⟨b0, b1, b2, b3⟩ := h.f1
  exact { h with d0 := h.d0.later hb, d1 := h.d1.later hb, f0 := ⟨a0, a1, a2, a3.later hb⟩, f1 := ⟨b0, b1, b2, b3.later hb⟩, k0 := (hb.cell (p := ⟨R, 0, none⟩) (World.block_lt_of_cell? W _ h.k0)).trans h.k0, k1 := (hb.cell (p := ⟨R, 1, none⟩) (World.block_lt_of_cell? W _ h.k1)).trans h.k1, b := h.b.trans (hb.mono h.b.size) }
theorem got_neq (x : Int) (s : List UInt8) (e : Int) (W : World) : (binOp .neq 94 (gv x s e) (gv x s e)).run Tryd.prog W = .ok (.bool false) W := by
  simp [gv, go_sem]
theorem got_neqG (i j : Nat) (x : Int) (s : List UInt8) (e : Int) (W : World) : (eqGuard .neq 94 (.tmp i) (.tmp j) (gv x s e) (gv x s e)).run Tryd.prog W = .ok () W := by
  simp [gv, go_sem]
end Go.Proofs.YthalmfbcdkihgaaDoor
