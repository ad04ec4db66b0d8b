/-
  My own text: what a round of a walk may change: two boxes.
-/
import Derived.Test.YtnjjehlfgoggfaaDoorHC9
namespace Go.Proofs.YtnjjehlfgoggfaaDoor
open Go.RowKit Go.Shelf

/-- A box: one cell of its own. -/
def Box (W : World) (b : Nat) (t : TypeId) (u : Value) : Prop := W.heap[b]? = some (.cells #[u] t (0, 0))
theorem Box.lt {W : World} {b : Nat} {t : TypeId} {u : Value} (h : Box W b t u) : b < W.heap.size := (Array.getElem?_eq_some_iff.1 h).1
theorem Box.later {W W' : World} {b : Nat} {t : TypeId} {u : Value} (h : Box W b t u) (hb : Below W.heap.size W W') : Box W' b t u := (hb.block b h.lt).trans h
theorem Box.cell {W : World} {b : Nat} {t : TypeId} {u : Value} (h : Box W b t u) : W.cell? ⟨b, 0, none⟩ = some u := by rw [cell_of_row W b 0 _ _ _ h]; rfl
theorem Box.frozen {W : World} {b : Nat} {t : TypeId} {u : Value} (h : Box W b t u) : W.frozen? ⟨b, 0, none⟩ = false := by
  have h' : W.heap[b]? = some (.cells #[u] t (0, 0)) := h
  unfold World.frozen?; simp [h']
theorem Box.new (W : World) (t : TypeId) (u : Value) : Box (W.alloc (.cells #[u] t)) W.heap.size t u := alloc_newV W _
theorem Box.set {W : World} {b : Nat} {t : TypeId} {u : Value} (h : Box W b t u) (u' : Value) : Box (W.setCell ⟨b, 0, none⟩ u') b t u' := by
  unfold Box
  rw [setCell_eq_setRow W b 0 _ _ _ u' h]
  exact setRow_heap W b _ _ _ _ h
theorem Box.other {W : World} {b c : Nat} {t : TypeId} {u : Value} (h : Box W b t u) (hne : b ≠ c) (u' : Value) : Box (W.setCell ⟨c, 0, none⟩ u') b t u := (Below.heap_setCell _ _ _ b hne).trans h
theorem CH.row_ne {W : World} {B cb b : Nat} {L : List Ver} {c : Array Value} {t : TypeId} {fz : Nat × Nat} (h : CH W B cb L) (hb : W.heap[b]? = some (.cells c t fz)) (ht : t ≠ 92) : ∀ v, W.cell? ⟨cb, 0, none⟩ = some v → v.ownBlock ≠ some b := by
  obtain ⟨_, v, em, hh, ho, hn⟩ := h
  intro v' hv' e
  have hc : W.cell? ⟨cb, 0, none⟩ = some v := by rw [cell_of_row W cb 0 _ _ _ hh]; rfl
  rw [hc] at hv'
  cases hv'
  rcases ho.2 with ⟨rfl, _⟩ | ⟨g, off, cap, cur, rfl, _, hg, _⟩
  · cases e
  · cases e
    rw [hb] at hg
    injection hg with hg
    injection hg with _ hg _
    exact ht hg
theorem Fr.box {W w' : World} {B cb b : Nat} {L : List Ver} {t : TypeId} {u : Value} (hf : Fr W w' cb) (h : CH W B cb L) (hb : Box W b t u) (ht : t ≠ 92) (hne : b ≠ cb) : Box w' b t u :=
  (hf.block b hb.lt hne (h.row_ne hb ht)).trans hb
theorem CH.set {W : World} {B cb b : Nat} {L : List Ver} {t : TypeId} {u : Value} (h : CH W B cb L) (hb : Box W b t u) (ht : t ≠ 92) (hne : b ≠ cb) (u' : Value) : CH (W.setCell ⟨b, 0, none⟩ u') B cb L := by
  have hr := h.row_ne hb ht
  obtain ⟨h1, v, em, hh, ho, hn⟩ := h
  have hc : W.cell? ⟨cb, 0, none⟩ = some v := by rw [cell_of_row W cb 0 _ _ _ hh]; rfl
  exact ⟨h1, v, em, (Below.heap_setCell _ _ _ cb (Ne.symm hne)).trans hh, ho.kept (fun g hg => Below.heap_setCell _ _ _ g (fun e => hr v hc (by have e' : g = b := e; rw [← e']; exact hg))), hn⟩
/-- What the first loop holds. -/
structure LS (w W : World) (br bx bn cb B : Nat) (L : List Ver) : Prop where
  res : Box W br 4 (.bool false)
  box : Box W bx 66 (.pointer (some ⟨cb, 0, none⟩))
  cnt : Box W bn 3 (.int .i64 (L.length : Int))
  ch : CH W B cb L
  low : Below w.heap.size w W
  ne : br ≠ cb ∧ bx ≠ cb ∧ bn ≠ cb ∧ br ≠ bn ∧ bx ≠ bn ∧ w.heap.size ≤ bn ∧ w.heap.size ≤ B
theorem LS.later {w W W' : World} {br bx bn cb B : Nat} {L : List Ver} (h : LS w W br bx bn cb B L) (hb : Below W.heap.size W W') : LS w W' br bx bn cb B L :=
  ⟨h.res.later hb, h.box.later hb, h.cnt.later hb, h.ch.later hb, h.low.trans (hb.mono h.low.size), h.ne⟩
/-- One version more, and counted. -/
theorem LS.put {w W W' : World} {br bx bn cb B : Nat} {L : List Ver} {p : Ver} (h : LS w W br bx bn cb B L) (hc : CH W' B cb (L ++ [p])) (hf : Fr W W' cb) : LS w (W'.setCell ⟨bn, 0, none⟩ (.int .i64 ((L.length : Int) + 1))) br bx bn cb B (L ++ [p]) := by
  obtain ⟨n1, n2, n3, n4, n5, n6, n7⟩ := h.ne
  have r1 := hf.box h.ch h.res (by decide) n1
  have r2 := hf.box h.ch h.box (by decide) n2
  have r3 := hf.box h.ch h.cnt (by decide) n3
  refine ⟨r1.other n4 _, r2.other n5 _, ?_, hc.set r3 (by decide) n3 _, ((h.low).trans ((hf.below h.ch).mono n7)).setCell (p := ⟨bn, 0, none⟩) n6 _, h.ne⟩
  rw [List.length_append]
  exact r3.set _
/-- What a round keeps: all cells but two boxes. -/
def KpN (bat bse : Nat) (A C : World) : Prop := A.heap.size ≤ C.heap.size ∧ (∀ g c t fz, A.heap[g]? = some (.cells c t fz) → g ≠ bat → g ≠ bse → C.heap[g]? = some (.cells c t fz)) ∧ (∀ u, Box A bat 3 u → ∃ u', Box C bat 3 u') ∧ (∀ u, Box A bse 3 u → ∃ u', Box C bse 3 u')
theorem KpN.trans {bat bse : Nat} {A B C : World} (h : KpN bat bse A B) (k : KpN bat bse B C) : KpN bat bse A C :=
  ⟨Nat.le_trans h.1 k.1, fun g c t fz h0 h1 h2 => k.2.1 g c t fz (h.2.1 g c t fz h0 h1 h2) h1 h2, fun u hu => by
    obtain ⟨u1, h1⟩ := h.2.2.1 u hu
    exact k.2.2.1 u1 h1, fun u hu => by
    obtain ⟨u1, h1⟩ := h.2.2.2 u hu
    exact k.2.2.2 u1 h1⟩
theorem KpN.below {bat bse : Nat} {A C : World} (hb : Below A.heap.size A C) : KpN bat bse A C :=
  ⟨hb.size, fun g _ _ _ h _ _ => (hb.block g (Array.getElem?_eq_some_iff.1 h).1).trans h, fun u hu => ⟨u, hu.later hb⟩, fun u hu => ⟨u, hu.later hb⟩⟩
theorem size_set (W : World) (p : Addr) (u : Value) : (W.setCell p u).heap.size = W.heap.size := by simp [World.setCell]
theorem KpN.setA {bat bse : Nat} {W : World} {u : Value} (hne : bat ≠ bse) (h : Box W bat 3 u) (u' : Value) : KpN bat bse W (W.setCell ⟨bat, 0, none⟩ u') :=
  ⟨Nat.le_of_eq (size_set _ _ _).symm, fun g _ _ _ h0 h1 _ => (Below.heap_setCell _ _ _ g h1).trans h0, fun _ _ => ⟨u', h.set u'⟩, fun u1 h1 => ⟨u1, h1.other (Ne.symm hne) u'⟩⟩
theorem KpN.setS {bat bse : Nat} {W : World} {u : Value} (hne : bat ≠ bse) (h : Box W bse 3 u) (u' : Value) : KpN bat bse W (W.setCell ⟨bse, 0, none⟩ u') :=
  ⟨Nat.le_of_eq (size_set _ _ _).symm, fun g _ _ _ h0 _ h1 => (Below.heap_setCell _ _ _ g h1).trans h0, fun u1 h1 => ⟨u1, h1.other hne u'⟩, fun _ _ => ⟨u', h.set u'⟩⟩
theorem KpN.put {bat bse l : Nat} {W : World} {o : Obj} (h : W.heap[l]? = some o) (ho : o.isCells = false) (o' : Obj) : KpN bat bse W (W.putObj l o') := by
  have hn : ∀ g c t fz, W.heap[g]? = some (.cells c t fz) → g ≠ l := fun g c t fz hg e => by
    rw [e, h] at hg
    cases hg
    cases ho
  refine ⟨by simp, fun g c t fz hg _ _ => (World.putObj_heap_other (hn g c t fz hg)).trans hg, fun u hu => ⟨u, (World.putObj_heap_other (hn _ _ _ _ hu)).trans hu⟩, fun u hu => ⟨u, (World.putObj_heap_other (hn _ _ _ _ hu)).trans hu⟩⟩
/-- What the walk holds of a chain. -/
structure CKn (bat bse bc cb : Nat) (L : List Ver) (W : World) : Prop where
  ch : CH W cb cb L
  bx : Box W bc 66 (.pointer (some ⟨cb, 0, none⟩))
  ats : ∃ u, Box W bat 3 u
  ses : ∃ u, Box W bse 3 u
  ne : cb ≠ bat ∧ cb ≠ bse ∧ bc ≠ bat ∧ bc ≠ bse
theorem CKn.later {bat bse bc cb : Nat} {L : List Ver} {W W' : World} (h : CKn bat bse bc cb L W) (hb : Below W.heap.size W W') : CKn bat bse bc cb L W' := by
  obtain ⟨u, hu⟩ := h.ats
  obtain ⟨s, hs⟩ := h.ses
  exact ⟨h.ch.later hb, h.bx.later hb, ⟨u, hu.later hb⟩, ⟨s, hs.later hb⟩, h.ne⟩
theorem CH.kp {bat bse cb B : Nat} {L : List Ver} {W W' : World} (h : CH W B cb L) (ha : ∃ u, Box W bat 3 u) (hs : ∃ u, Box W bse 3 u) (h1 : cb ≠ bat) (h2 : cb ≠ bse) (hk : KpN bat bse W W') : CH W' B cb L := by
  obtain ⟨u, hu⟩ := ha
  obtain ⟨s, hs⟩ := hs
  have r1 := h.row_ne hu (by decide)
  have r2 := h.row_ne hs (by decide)
  obtain ⟨q1, v, em, hh, ho, hn⟩ := h
  have hc : W.cell? ⟨cb, 0, none⟩ = some v := by rw [cell_of_row W cb 0 _ _ _ hh]; rfl
  refine ⟨q1, v, em, hk.2.1 cb _ _ _ hh h1 h2, ho.kept (fun g hg => ?_), hn⟩
  rcases ho.2 with ⟨rfl, _⟩ | ⟨g', off, cap, cur, rfl, _, hgg, _⟩
  · cases hg
  · obtain rfl : g' = g := Option.some.inj hg
    rw [hgg]
    exact hk.2.1 g' _ _ _ hgg (fun e => r1 _ hc (by rw [← e]; rfl)) (fun e => r2 _ hc (by rw [← e]; rfl))
theorem CKn.kp {bat bse bc cb : Nat} {L : List Ver} {W W' : World} (h : CKn bat bse bc cb L W) (hk : KpN bat bse W W') : CKn bat bse bc cb L W' := by
  obtain ⟨u, hu⟩ := h.ats
  obtain ⟨s, hs⟩ := h.ses
  exact ⟨h.ch.kp h.ats h.ses h.ne.1 h.ne.2.1 hk, hk.2.1 bc _ _ _ h.bx h.ne.2.2.1 h.ne.2.2.2, hk.2.2.1 u hu, hk.2.2.2 s hs, h.ne⟩
theorem grown_cells {W W' : World} {row : Option Nat} (hg : W.grownBy W' row) (hr : ∀ r, row = some r → ∃ o : Obj, W.heap[r]? = some o ∧ o.isCells = false) {b : Nat} {c : Array Value} {t : TypeId} {fz : Nat × Nat} (h : W.heap[b]? = some (.cells c t fz)) : W'.heap[b]? = some (.cells c t fz) := by
  refine (hg.block b (Array.getElem?_eq_some_iff.1 h).1 (fun e => ?_)).trans h
  obtain ⟨o, ho, hc⟩ := hr b e.symm
  rw [h] at ho
  cases ho
  cases hc
theorem CH.grown {W W' : World} {B cb : Nat} {L : List Ver} {row : Option Nat} (h : CH W B cb L) (hg : W.grownBy W' row) (hr : ∀ r, row = some r → ∃ o : Obj, W.heap[r]? = some o ∧ o.isCells = false) : CH W' B cb L := by
  obtain ⟨q1, v, em, hh, ho, hn⟩ := h
  refine ⟨q1, v, em, grown_cells hg hr hh, ho.kept (fun g hgg => ?_), hn⟩
  rcases ho.2 with ⟨rfl, _⟩ | ⟨g', off, cap, cur, rfl, _, h2, _⟩
  · cases hgg
  · obtain rfl : g' = g := Option.some.inj hgg
    rw [h2]; exact grown_cells hg hr h2
theorem LS.grown {w W W' : World} {br bx bn cb B : Nat} {L : List Ver} {row : Option Nat} (h : LS w W br bx bn cb B L) (hg : W.grownBy W' row) (hr : ∀ r, row = some r → w.heap.size ≤ r ∧ ∃ o : Obj, W.heap[r]? = some o ∧ o.isCells = false) : LS w W' br bx bn cb B L := by
  have hr' : ∀ r, row = some r → ∃ o : Obj, W.heap[r]? = some o ∧ o.isCells = false := fun r e => (hr r e).2
  refine ⟨grown_cells hg hr' h.res, grown_cells hg hr' h.box, grown_cells hg hr' h.cnt, h.ch.grown hg hr', ?_, h.ne⟩
  refine ⟨hg.os.trans h.low.os, hg.tape.trans h.low.tape, hg.output.trans h.low.output, Nat.le_trans h.low.size hg.size, fun k hk => ?_⟩
  exact (hg.block k (Nat.lt_of_lt_of_le hk h.low.size) (fun e => by have := (hr k e.symm).1; omega)).trans (h.low.block k hk)
/-- A round's store leaves the rest. -/
theorem LS.setO {w W : World} {br bx bn cb B b : Nat} {L : List Ver} {u : Value} (h : LS w W br bx bn cb B L) (hb : Box W b 3 u) (h1 : br ≠ b) (h2 : bx ≠ b) (h3 : bn ≠ b) (h4 : b ≠ cb) (h5 : w.heap.size ≤ b) (u' : Value) : LS w (W.setCell ⟨b, 0, none⟩ u') br bx bn cb B L :=
  ⟨h.res.other h1 u', h.box.other h2 u', h.cnt.other h3 u', h.ch.set hb (by decide) h4 u', h.low.setCell (p := ⟨b, 0, none⟩) h5 u', h.ne⟩
theorem pre_rise {L : List Ver} (hr : Ris L) (hp : ∀ p ∈ L, 0 ≤ p.1) {pre : List { q : Ver // q ∈ L }} {x : { q : Ver // q ∈ L }} (h : pre ++ [x] <+: L.attach) : lastN (pre.map Subtype.val) < x.1.1 := by
  obtain ⟨t, ht⟩ := h
  have h1 := congrArg (List.map Subtype.val) ht
  rw [List.attach_map_subtype_val] at h1
  simp only [List.map_append, List.map_cons, List.append_assoc, List.cons_append, List.nil_append] at h1
  rcases snoc_cases (pre.map Subtype.val) with h0 | ⟨K, p, h0⟩
  · rw [h0, lastN_nil]; have := hp x.1 x.2; omega
  · rw [h0, lastN_snoc]
    rw [h0] at h1
    have hs : ∀ (K : List Ver), Ris (K ++ [p] ++ (x.1 :: t.map Subtype.val)) → p.1 < x.1.1 := by
      intro K
      induction K with
      | nil => intro h; exact h.1 x.1 (List.mem_cons_self ..)
      | cons a r ih => intro h; exact ih h.2
    exact hs K (by rw [h1]; exact hr)
end Go.Proofs.YtnjjehlfgoggfaaDoor
