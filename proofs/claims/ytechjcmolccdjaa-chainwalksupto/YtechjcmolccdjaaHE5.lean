/-
  My own text: what the rounds of a walk leave: boxes, a chain, rows.
-/
import Derived.Test.YtechjcmolccdjaaHE4
import Derived.Test.YtechjcmolccdjaaHR3
import Derived.Test.YtechjcmolccdjaaQReg
namespace Go.Proofs.Ytechjcmolccdjaa
open Go.RowKit Go.Shelf

/-- Boxes that stay. -/
def KB (V : World) (K : List (Nat × TypeId × Value)) : Prop := ∀ p ∈ K, Box V p.1 p.2.1 p.2.2
def tyOk (t : TypeId) : Bool := decide (t ≠ 48) && decide (t ≠ 46) && decide (t ≠ 36)
theorem tyOk_iff {t : TypeId} (h : tyOk t = true) : t ≠ 48 ∧ t ≠ 46 ∧ t ≠ 36 := by
  unfold tyOk at h
  simp only [Bool.and_eq_true, decide_eq_true_eq] at h
  exact ⟨h.1.1, h.1.2, h.2⟩
/-- What stays the same of all rounds. -/
structure LN (w : World) (K : List (Nat × TypeId × Value)) (D cb bo : Nat) (vU vB : Value) : Prop where
  ok : ∀ p ∈ K, tyOk p.2.1 = true
  out : ∀ p ∈ K, p.1 ≠ bo
  d : w.heap.size ≤ D
  o : w.heap.size ≤ bo
  c : w.heap.size ≤ cb
  u : ∀ g, vU.ownBlock = some g → g < D
  b : ∀ g, vB.ownBlock = some g → g < D
/-- What a round leaves. -/
structure LG (w : World) (K : List (Nat × TypeId × Value)) (D cb bo : Nat) (vU vB : Value) (U Bh L s : List Ver) (vG : Value) (V : World) : Prop where
  kb : KB V K
  ch : CH V cb cb L
  gb : Box V bo 24 vG
  gr : OR V D 36 2 vG s.length (vc s)
  ru : OR V w.heap.size 36 2 vU U.length (vc U)
  rb : OR V w.heap.size 36 2 vB Bh.length (vc Bh)
  low : Below w.heap.size w V
theorem LG.later {w V V' : World} {K : List (Nat × TypeId × Value)} {D cb bo : Nat} {vU vB vG : Value} {U Bh L s : List Ver} (h : LG w K D cb bo vU vB U Bh L s vG V) (hb : Below V.heap.size V V') : LG w K D cb bo vU vB U Bh L s vG V' :=
  ⟨fun p hp => (h.kb p hp).later hb, h.ch.later hb, h.gb.later hb, h.gr.later hb, h.ru.later hb, h.rb.later hb, h.low.trans (hb.mono h.low.size)⟩
theorem OR.grown {V V' : World} {B k n : Nat} {e : TypeId} {v : Value} {xs : List Value} {row : Option Nat} (h : OR V B e k v n xs) (hg : V.grownBy V' row) (hr : ∀ r, row = some r → ∃ o : Obj, V.heap[r]? = some o ∧ o.isCells = false) : OR V' B e k v n xs := by
  refine h.kept (fun g hgg => ?_)
  rcases h.2 with ⟨rfl, _⟩ | ⟨g', off, cap, cur, rfl, _, h2, _⟩
  · cases hgg
  · obtain rfl : g' = g := Option.some.inj hgg
    rw [h2]; exact grown_cells hg hr h2
theorem below_grown {w V V' : World} {row : Option Nat} (h : Below w.heap.size w V) (hg : V.grownBy V' row) (hr : ∀ r, row = some r → w.heap.size ≤ r) : Below w.heap.size w V' :=
  ⟨hg.os.trans h.os, hg.tape.trans h.tape, hg.output.trans h.output, Nat.le_trans h.size hg.size, fun k hk => (hg.block k (Nat.lt_of_lt_of_le hk h.size) (fun e => by have := hr k e.symm; omega)).trans (h.block k hk)⟩
theorem LG.grown {w V V' : World} {K : List (Nat × TypeId × Value)} {D E cb bo : Nat} {vU vB vG : Value} {U Bh L s : List Ver} {row : Option Nat} (h : LG w K D cb bo vU vB U Bh L s vG V) (hE : w.heap.size ≤ E) (hg : V.grownBy V' row) (hr : ∀ r, row = some r → E ≤ r ∧ ∃ o : Obj, V.heap[r]? = some o ∧ o.isCells = false) : LG w K D cb bo vU vB U Bh L s vG V' := by
  have hr' : ∀ r, row = some r → ∃ o : Obj, V.heap[r]? = some o ∧ o.isCells = false := fun r e => (hr r e).2
  exact ⟨fun p hp => grown_cells hg hr' (h.kb p hp), h.ch.grown hg hr', grown_cells hg hr' h.gb, h.gr.grown hg hr', h.ru.grown hg hr', h.rb.grown hg hr', below_grown h.low hg (fun r e => Nat.le_trans hE (hr r e).1)⟩
/-- An act. -/
theorem LG.act {w V V' : World} {K : List (Nat × TypeId × Value)} {D cb bo : Nat} {vU vB vG : Value} {U Bh L L' s : List Ver} (h : LG w K D cb bo vU vB U Bh L s vG V) (hn : LN w K D cb bo vU vB) (hc : CH V' cb cb L') (hf : Fr V V' cb) : LG w K D cb bo vU vB U Bh L' s vG V' :=
  ⟨fun p hp => hf.blk h.ch (h.kb p hp) (tyOk_iff (hn.ok p hp)).1 (tyOk_iff (hn.ok p hp)).2.1, hc, hf.blk h.ch h.gb (by decide) (by decide), h.gr.fr hf h.ch (by decide) (by decide), h.ru.fr hf h.ch (by decide) (by decide), h.rb.fr hf h.ch (by decide) (by decide), h.low.trans ((hf.below h.ch).mono hn.c)⟩
/-- A store into a box that is none of these. -/
theorem KB.set {V : World} {K : List (Nat × TypeId × Value)} {b : Nat} (h : KB V K) (hb : ∀ p ∈ K, p.1 ≠ b) (u : Value) : KB (V.setCell ⟨b, 0, none⟩ u) K := fun p hp => (h p hp).other (hb p hp) u
theorem LG.set {w V : World} {K : List (Nat × TypeId × Value)} {D cb bo b : Nat} {vU vB vG : Value} {U Bh L s : List Ver} {t : TypeId} {u : Value} (h : LG w K D cb bo vU vB U Bh L s vG V) (hb : Box V b t u) (ht : tyOk t = true) (hk : ∀ p ∈ K, p.1 ≠ b) (ho : bo ≠ b) (hw : w.heap.size ≤ b) (u' : Value) : LG w K D cb bo vU vB U Bh L s vG (V.setCell ⟨b, 0, none⟩ u') := by
  obtain ⟨t1, t2, t3⟩ := tyOk_iff ht
  exact ⟨h.kb.set hk u', h.ch.setB hb t1 t2, h.gb.other ho u', h.gr.setB hb t3, h.ru.setB hb t3, h.rb.setB hb t3, h.low.setCell (p := ⟨b, 0, none⟩) hw u'⟩
theorem kpw_set {cb b : Nat} {V : World} {t : TypeId} {u : Value} {L : List Ver} {B : Nat} (hc : CH V B cb L) (hb : Box V b t u) (ht : tyOk t = true) (u' : Value) : KpW cb V (V.setCell ⟨b, 0, none⟩ u') := by
  obtain ⟨t1, t2, _⟩ := tyOk_iff ht
  obtain ⟨_, hh⟩ := hc.blk
  have hb' : V.heap[b]? = some (.cells #[u] t (0, 0)) := hb
  have hne : cb ≠ b := ne_type hh hb' (Ne.symm t2)
  exact KpW.same (Nat.le_of_eq (size_set _ _ _).symm) (fun g c fz hg => (Below.heap_setCell _ _ _ g (show g ≠ b from ne_type hg hb' (Ne.symm t1))).trans hg) (cell_set hne u')
/-- One version more in the row. -/
theorem LG.push {w W W3 w4 : World} {K : List (Nat × TypeId × Value)} {D E cb bo : Nat} {vU vB vG v' : Value} {U Bh L s : List Ver} {x : Ver} (h : LG w K D cb bo vU vB U Bh L s vG W) (hn : LN w K D cb bo vU vB) (hW3 : W.alloc (.cells #[.int .i64 x.1, .string ⟨x.2.toArray⟩] 36) = W3)
    (r1 : OR w4 D 36 2 v' (s.length + 1) (vc s ++ [.int .i64 x.1, .string ⟨x.2.toArray⟩])) (r2 : W3.grownBy w4 vG.ownBlock) :
    Box w4 bo 24 vG ∧ LG w K D cb bo vU vB U Bh L (s ++ [x]) v' (w4.setCell ⟨bo, 0, none⟩ v') ∧ KpW cb W (w4.setCell ⟨bo, 0, none⟩ v') ∧ KeepsFrom E W (w4.setCell ⟨bo, 0, none⟩ v') := by
  have hb3 : Below W.heap.size W W3 := by rw [← hW3]; exact (Below.refl _ _).alloc (Nat.le_refl _) _
  have hk : ∀ (b : Nat) (c : Array Value) (t : TypeId) (fz : Nat × Nat), W.heap[b]? = some (Obj.cells c t fz) → t ≠ 36 → w4.heap[b]? = some (Obj.cells c t fz) := fun b c t fz hb ht => by
    have h3 := (hb3.block b (Array.getElem?_eq_some_iff.1 hb).1).trans hb
    exact (r2.block b (Array.getElem?_eq_some_iff.1 h3).1 (fun e => (h.gr.later hb3).row_ne h3 ht e.symm)).trans h3
  have hlow : ∀ {v : Value} {X : List Ver}, OR W w.heap.size 36 2 v X.length (vc X) → (∀ g, v.ownBlock = some g → g < D) → OR w4 w.heap.size 36 2 v X.length (vc X) := fun {v X} hv hd =>
    (hv.later hb3).kept (fun g hg => r2.block g ((hv.later hb3).lt hg).2 (fun e => by have := hd g hg; have := (h.gr.lt e.symm).1; omega))
  have o4 : Box w4 bo 24 vG := hk _ _ _ _ h.gb (by decide)
  have low4 : Below w.heap.size w w4 := by
    have l3 := h.low.trans (hb3.mono h.low.size)
    refine below_grown l3 r2 (fun r e => ?_)
    have := (h.gr.lt e).1; have := hn.d; omega
  obtain ⟨cbs, hcb⟩ := h.ch.blk
  have ncb : cb ≠ bo := ne_type hcb h.gb (by decide)
  have ch4 : CH w4 cb cb L := h.ch.of_cells hk
  refine ⟨o4, ⟨fun p hp => Box.other (hk _ _ _ _ (h.kb p hp) (tyOk_iff (hn.ok p hp)).2.2) (hn.out p hp) v', ch4.setB o4 (by decide) (by decide), o4.set v', ?_, (hlow h.ru hn.u).setB o4 (by decide), (hlow h.rb hn.b).setB o4 (by decide), low4.setCell (p := ⟨bo, 0, none⟩) hn.o v'⟩, ?_, ⟨Nat.le_trans hb3.size (Nat.le_trans r2.size (Nat.le_of_eq (size_set _ _ _).symm)), fun g o _ hg ho => ?_⟩⟩
  · rw [vc_app, List.length_append]
    exact OR.setB (by exact r1) o4 (by decide)
  · refine KpW.trans (KpW.same (Nat.le_trans hb3.size r2.size) (fun g c fz hg => hk g c _ fz hg (by decide)) ?_) (kpw_set ch4 o4 (by decide) v')
    unfold World.cell?
    rw [hk _ _ _ _ hcb (by decide), hcb]
  · have h3 := (hb3.block g (Array.getElem?_eq_some_iff.1 hg).1).trans hg
    have h4 := (r2.block g (Array.getElem?_eq_some_iff.1 h3).1 (fun e => (h.gr.later hb3).row_no h3 ho e.symm)).trans h3
    refine (Below.heap_setCell _ _ _ g (fun e => ?_)).trans h4
    have o4' : w4.heap[bo]? = some (.cells #[vG] 24 (0, 0)) := o4
    rw [show g = bo from e, o4'] at h4
    cases h4; cases ho
/-- An act keeps what is no cells. -/
theorem keeps_fr {V V' : World} {E cb B : Nat} {L : List Ver} (hf : Fr V V' cb) (hc : CH V B cb L) : KeepsFrom E V V' := by
  refine ⟨hf.size, fun g o _ hg ho => (hf.block g (Array.getElem?_eq_some_iff.1 hg).1 (fun e => ?_) (hc.row_no hg ho)).trans hg⟩
  obtain ⟨_, hh⟩ := hc.blk
  rw [e, hh] at hg; cases hg; cases ho
theorem keeps_below {V V' : World} {E : Nat} (hb : Below V.heap.size V V') : KeepsFrom E V V' := ⟨hb.size, fun g _ _ hg _ => (hb.block g (Array.getElem?_eq_some_iff.1 hg).1).trans hg⟩
theorem keeps_trans {E : Nat} {A B C : World} (h : KeepsFrom E A B) (k : KeepsFrom E B C) : KeepsFrom E A C := ⟨Nat.le_trans h.size k.size, fun g o h1 h2 h3 => k.same g o h1 (h.same g o h1 h2 h3) h3⟩
end Go.Proofs.Ytechjcmolccdjaa
