/-
  My own text: a heap of pairs in memory; two of its entries change places (printed by mkpa2.py).
-/
import Derived.Test.YtegemfkadclnkaaPA1
import Derived.Test.YtegemfkadclnkaaQRs
namespace Go.Proofs.Ytegemfkadclnkaa
open Go.RowKit

theorem wp_store_mid0 {P : Program} {op : Oper} {a : Act} {w : World} {K : Act → World → Prop} {Q : Exit → Act → World → Prop} (ty : TypeId) (x y : Operand) (ho : op.op = .store ty x y) (hd : op.dst = none)
    (b o : Nat) (cells : Array Value) (hx : a.eval x = .pointer (some ⟨b, o, none⟩)) (hy : a.eval y = .agg cells)
    (ht : w.there b o cells.size) (hi : (P.info? ty).map (·.size) = some cells.size) (h1 : cells.all (·.oneCell') = true)
    (h : K a (w.setCells b o cells.toList)) : op.wp P a w K Q := wp_store_mid ty x y ho b o cells hx hy ht hi h1 (by rw [hd]; exact h)
theorem e3_all (e : En) : (e3 e).toArray.all (·.oneCell') = true := by simp [e3, Value.oneCell']
/-- A heap in memory. -/
structure HP (w : World) (B hb lb : Nat) (lf : FuncId) (v : Value) (E : List En) (N : Nat) : Prop where
  hdr : w.heap[hb]? = some (.cells #[v, .func (Fn.func 23) #[] #[.pointer (some ⟨lb, 0, none⟩)], .int .i64 (N : Int)] 55 (0, 0))
  les : w.heap[lb]? = some (.cells #[.func (Fn.func lf) #[] #[]] 26 (0, 0))
  row : OE w B v E
theorem HP.c0 {w : World} {B hb lb : Nat} {lf : FuncId} {v : Value} {E : List En} {N : Nat} (h : HP w B hb lb lf v E N) : w.cell? ⟨hb, 0, none⟩ = some v := by rw [cell_of_row _ _ 0 _ _ _ h.hdr]; rfl
theorem HP.c1 {w : World} {B hb lb : Nat} {lf : FuncId} {v : Value} {E : List En} {N : Nat} (h : HP w B hb lb lf v E N) : w.cell? ⟨hb, 1, none⟩ = some (.func (Fn.func 23) #[] #[.pointer (some ⟨lb, 0, none⟩)]) := by rw [cell_of_row _ _ 1 _ _ _ h.hdr]; rfl
theorem HP.c2 {w : World} {B hb lb : Nat} {lf : FuncId} {v : Value} {E : List En} {N : Nat} (h : HP w B hb lb lf v E N) : w.cell? ⟨hb, 2, none⟩ = some (.int .i64 (N : Int)) := by rw [cell_of_row _ _ 2 _ _ _ h.hdr]; rfl
theorem own_ne {w : World} {B : Nat} {v : Value} {E : List En} (h : OE w B v E) {b : Nat} {cs : Array Value} {t : TypeId} {fz : Nat × Nat} (hb : w.heap[b]? = some (.cells cs t fz)) (ht : t ≠ 51) : some b ≠ v.ownBlock := by
  rcases h.2 with ⟨rfl, _⟩ | ⟨g, cap, cur, rfl, _, hh, _⟩
  · intro e; cases e
  · intro e; injection e with e; subst e
    rw [hh] at hb; injection hb with hb; injection hb with _ hb; exact ht hb.symm
theorem HP.later {w w' : World} {B hb lb : Nat} {lf : FuncId} {v : Value} {E : List En} {N : Nat} (h : HP w B hb lb lf v E N) (hb' : Below w.heap.size w w') : HP w' B hb lb lf v E N :=
  ⟨blk_later h.hdr hb', blk_later h.les hb', owns_later h.row (fun g hg => hb'.block g (h.row.lt g hg).2)⟩
/-- Its row changed, nothing else. -/
theorem HP.moved {w w' : World} {B hb lb : Nat} {lf : FuncId} {v : Value} {E E' : List En} {N : Nat} (h : HP w B hb lb lf v E N) (hg : w.grownBy w' v.ownBlock) (ho : OE w' B v E') : HP w' B hb lb lf v E' N :=
  ⟨(hg.block hb (blk_lt h.hdr) (own_ne h.row h.hdr (by decide))).trans h.hdr, (hg.block lb (blk_lt h.les) (own_ne h.row h.les (by decide))).trans h.les, ho⟩
set_option maxRecDepth 100000 in
set_option maxHeartbeats 4000000 in
theorem swap_any (i j : Nat) (x y : En) (B hb lb : Nat) (lf : FuncId) (v : Value) (E : List En) (N : Nat) (w : World) (h : HP w B hb lb lf v E N) (hi : E[i]? = some x) (hj : E[j]? = some y) :
    Calls Try.prog 32 #[.pointer (some ⟨hb, 0, none⟩), .int .i64 (i : Int), .int .i64 (j : Int)] w fun e w' => (∃ u, e = .returned u) ∧ HP w' B hb lb lf v (sw E i j x y) N ∧ w.grownBy w' v.ownBlock := by
  have hil := (List.getElem?_eq_some_iff.1 hi).1
  have hjl := (List.getElem?_eq_some_iff.1 hj).1
  have HH := hide h
  have c0 := h.c0
  obtain ⟨g, cap, cur, rfl, hB, hh, hq⟩ := h.row.parts (by omega)
  have ho : OE w B (.slice (some ⟨g, 0, none⟩) E.length cap) E := h.row
  have hne : hb ≠ g := fun e => own_ne h.row h.hdr (by decide) (by rw [e]; rfl)
  have o1 := ho.set i y
  have o2 : OE ((w.setCells g (i * 3) (e3 y)).setCells g (j * 3) (e3 x)) B (.slice (some ⟨g, 0, none⟩) E.length cap) (sw E i j x y) := by
    have hl : (E.set i y).length = E.length := List.length_set ..
    have o1' : OE (w.setCells g (i * 3) (e3 y)) B (.slice (some ⟨g, 0, none⟩) (E.set i y).length cap) (E.set i y) := by rw [hl]; exact o1
    have := o1'.set j x
    rw [hl] at this; exact this
  have HG := hide (gb_trans (sc_grown w g (i * 3) (e3 y)) (sc_grown _ g (j * 3) (e3 x)))
  have HO := hide (h.moved HG.out o2)
  have HT1 : Hid (w.drew.there g (i * 3) (e3 y).toArray.size) := hide (by simp; exact ho.there hil)
  have HT2 : Hid ((w.drew.setCells g (i * 3) (e3 y)).there g (j * 3) (e3 x).toArray.size) := hide (World.there_setCells (by simp; exact ho.there hjl) _ _ _)
  have hHeld : Hid (w.drew.cell? ⟨hb, 0, none⟩ = some (.slice (some ⟨g, 0, none⟩) E.length cap) ∧ w.drew.rangeAt g (i * 3) (e3 x) ∧ w.drew.rangeAt g (j * 3) (e3 y)) := hide ⟨c0, by simp; exact ho.range hi, by simp; exact ho.range hj⟩
  have HGd := hide (show w.grownBy ((w.drew.setCells g (i * 3) (e3 y)).setCells g (j * 3) (e3 x)) (some g) from gb_drew (gb_trans (sc_grown w.drew g (i * 3) (e3 y)) (sc_grown _ g (j * 3) (e3 x))))
  have HOd : Hid (HP ((w.drew.setCells g (i * 3) (e3 y)).setCells g (j * 3) (e3 x)) B hb lb lf (.slice (some ⟨g, 0, none⟩) E.length cap) (sw E i j x y) N) := hide (h.moved HGd.out (by
    have od : OE w.drew B (.slice (some ⟨g, 0, none⟩) E.length cap) E := ho.drew
    have hl : (E.set i y).length = E.length := List.length_set ..
    have o1' : OE (w.drew.setCells g (i * 3) (e3 y)) B (.slice (some ⟨g, 0, none⟩) (E.set i y).length cap) (E.set i y) := by rw [hl]; exact od.set i y
    have := o1'.set j x
    rw [hl] at this; exact this))
  have k0 : (0 : Int) ≤ (i : Int) := by omega
  have k1 : (i : Int) < (E.length : Int) := by omega
  have k2 : (0 : Int) ≤ (j : Int) := by omega
  have k3 : (j : Int) < (E.length : Int) := by omega
  clear o1 o2 HG HO ho hh hB h hi hj c0 HH hil hjl hq cur
  generalize E.length = n at *
  go_enter Try.func32, Try.ntmps32
  go_wp2_with fail
  refine s_begins (S := fun W => W.cell? ⟨hb, 0, none⟩ = some (.slice (some ⟨g, 0, none⟩) n cap) ∧ W.rangeAt g (i * 3) (e3 x) ∧ W.rangeAt g (j * 3) (e3 y)) [25, 27] 28 #[false, false, false, false, false, false, false, false, false, false, false, false, false, false, false, false, false, false, false, false, false, false, false, false, false, false, false, false] (by kernel_rfl) (by kernel_rfl) (by kernel_rfl) ?_
  refine sk0 (v := ?_) 0 6 #[true, false, false, false, false, false, false, false, false, false, false, false, false, false, false, false, false, false, false, false, false, false, false, false, false, false, false, false] rfl rfl (by kernel_rfl) (by kernel_rfl) (by kernel_rfl) (by kernel_rfl) (fun _ _ _ h => h) (by kernel_rfl) (by rfl) ?hy (fun _ => hHeld.out) ?_
  case hy => intro W; first | (go_simp; done) | (go_simp; with_reducible rfl)
  simp only [List.setIfInBounds_toArray, List.set_cons_zero, List.set_cons_succ]
  refine sk0 (v := ?_) 1 7 #[true, true, false, false, false, false, false, false, false, false, false, false, false, false, false, false, false, false, false, false, false, false, false, false, false, false, false, false] rfl rfl (by kernel_rfl) (by kernel_rfl) (by kernel_rfl) (by kernel_rfl) (fun _ _ _ h => h) (by kernel_rfl) (by rfl) ?hy (fun _ => hHeld.out) ?_
  case hy => intro W; first | (go_simp; done) | (go_simp; with_reducible rfl)
  simp only [List.setIfInBounds_toArray, List.set_cons_zero, List.set_cons_succ]
  refine sk0 (v := ?_) 2 8 #[true, true, true, false, false, false, false, false, false, false, false, false, false, false, false, false, false, false, false, false, false, false, false, false, false, false, false, false] rfl rfl (by kernel_rfl) (by kernel_rfl) (by kernel_rfl) (by kernel_rfl) (fun _ _ _ h => h) (by kernel_rfl) (by rfl) ?hy (fun _ => hHeld.out) ?_
  case hy => intro W; first | (go_simp; done) | (go_simp; with_reducible rfl)
  simp only [List.setIfInBounds_toArray, List.set_cons_zero, List.set_cons_succ]
  refine sk1 (v := ?_) 3 9 #[true, true, true, true, false, false, false, false, false, false, false, false, false, false, false, false, false, false, false, false, false, false, false, false, false, false, false, false] rfl rfl (by kernel_rfl) (by kernel_rfl) (by kernel_rfl) (by kernel_rfl) (by kernel_rfl) (by kernel_rfl) (fun _ _ _ h => h) (by kernel_rfl) (by rfl) ?hy hHeld.out ?_
  case hy => rintro W ⟨e1, e2, e4⟩; first | (go_simp; done) | (go_simp; with_reducible rfl)
  simp only [List.setIfInBounds_toArray, List.set_cons_zero, List.set_cons_succ]
  refine sk0 (v := ?_) 4 10 #[true, true, true, true, true, false, false, false, false, false, false, false, false, false, false, false, false, false, false, false, false, false, false, false, false, false, false, false] rfl rfl (by kernel_rfl) (by kernel_rfl) (by kernel_rfl) (by kernel_rfl) (fun _ _ _ h => h) (by kernel_rfl) (by rfl) ?hy (fun _ => hHeld.out) ?_
  case hy => intro W; first | (go_simp; done) | (go_simp; with_reducible rfl)
  simp only [List.setIfInBounds_toArray, List.set_cons_zero, List.set_cons_succ]
  refine sk0 (v := ?_) 5 11 #[true, true, true, true, true, true, false, false, false, false, false, false, false, false, false, false, false, false, false, false, false, false, false, false, false, false, false, false] rfl rfl (by kernel_rfl) (by kernel_rfl) (by kernel_rfl) (by kernel_rfl) (fun _ _ _ h => h) (by kernel_rfl) (by rfl) ?hy (fun _ => hHeld.out) ?_
  case hy => intro W; first | (go_simp; done) | (go_simp; with_reducible rfl)
  simp only [List.setIfInBounds_toArray, List.set_cons_zero, List.set_cons_succ]
  refine sk0 (v := ?_) 6 12 #[true, true, true, true, true, true, true, false, false, false, false, false, false, false, false, false, false, false, false, false, false, false, false, false, false, false, false, false] rfl rfl (by kernel_rfl) (by kernel_rfl) (by kernel_rfl) (by kernel_rfl) (fun _ _ _ h => h) (by kernel_rfl) (by rfl) ?hy (fun _ => hHeld.out) ?_
  case hy => intro W; first | (go_simp; done) | (go_simp; with_reducible rfl)
  simp only [List.setIfInBounds_toArray, List.set_cons_zero, List.set_cons_succ]
  refine sk0 (v := ?_) 7 13 #[true, true, true, true, true, true, true, true, false, false, false, false, false, false, false, false, false, false, false, false, false, false, false, false, false, false, false, false] rfl rfl (by kernel_rfl) (by kernel_rfl) (by kernel_rfl) (by kernel_rfl) (fun _ _ _ h => h) (by kernel_rfl) (by rfl) ?hy (fun _ => hHeld.out) ?_
  case hy => intro W; first | (go_simp; done) | (go_simp; with_reducible rfl)
  simp only [List.setIfInBounds_toArray, List.set_cons_zero, List.set_cons_succ]
  refine sk1 (v := ?_) 8 14 #[true, true, true, true, true, true, true, true, true, false, false, false, false, false, false, false, false, false, false, false, false, false, false, false, false, false, false, false] rfl rfl (by kernel_rfl) (by kernel_rfl) (by kernel_rfl) (by kernel_rfl) (by kernel_rfl) (by kernel_rfl) (fun _ _ _ h => h) (by kernel_rfl) (by rfl) ?hy hHeld.out ?_
  case hy => rintro W ⟨e1, e2, e4⟩; first | (go_simp; done) | (go_simp; with_reducible rfl)
  simp only [List.setIfInBounds_toArray, List.set_cons_zero, List.set_cons_succ]
  refine sk0 (v := ?_) 9 15 #[true, true, true, true, true, true, true, true, true, true, false, false, false, false, false, false, false, false, false, false, false, false, false, false, false, false, false, false] rfl rfl (by kernel_rfl) (by kernel_rfl) (by kernel_rfl) (by kernel_rfl) (fun _ _ _ h => h) (by kernel_rfl) (by rfl) ?hy (fun _ => hHeld.out) ?_
  case hy => intro W; first | (go_simp; done) | (go_simp; with_reducible rfl)
  simp only [List.setIfInBounds_toArray, List.set_cons_zero, List.set_cons_succ]
  refine sk0 (v := ?_) 10 16 #[true, true, true, true, true, true, true, true, true, true, true, false, false, false, false, false, false, false, false, false, false, false, false, false, false, false, false, false] rfl rfl (by kernel_rfl) (by kernel_rfl) (by kernel_rfl) (by kernel_rfl) (fun _ _ _ h => h) (by kernel_rfl) (by rfl) ?hy (fun _ => hHeld.out) ?_
  case hy => intro W; first | (go_simp; done) | (go_simp; with_reducible rfl)
  simp only [List.setIfInBounds_toArray, List.set_cons_zero, List.set_cons_succ]
  refine sk0 (v := ?_) 11 17 #[true, true, true, true, true, true, true, true, true, true, true, true, false, false, false, false, false, false, false, false, false, false, false, false, false, false, false, false] rfl rfl (by kernel_rfl) (by kernel_rfl) (by kernel_rfl) (by kernel_rfl) (fun _ _ _ h => h) (by kernel_rfl) (by rfl) ?hy (fun _ => hHeld.out) ?_
  case hy => intro W; first | (go_simp; done) | (go_simp; with_reducible rfl)
  simp only [List.setIfInBounds_toArray, List.set_cons_zero, List.set_cons_succ]
  refine sk0 (v := ?_) 12 18 #[true, true, true, true, true, true, true, true, true, true, true, true, true, false, false, false, false, false, false, false, false, false, false, false, false, false, false, false] rfl rfl (by kernel_rfl) (by kernel_rfl) (by kernel_rfl) (by kernel_rfl) (fun _ _ _ h => h) (by kernel_rfl) (by rfl) ?hy (fun _ => hHeld.out) ?_
  case hy => intro W; first | (go_simp; done) | (go_simp; with_reducible rfl)
  simp only [List.setIfInBounds_toArray, List.set_cons_zero, List.set_cons_succ]
  refine sk1 (v := ?_) 13 19 #[true, true, true, true, true, true, true, true, true, true, true, true, true, true, false, false, false, false, false, false, false, false, false, false, false, false, false, false] rfl rfl (by kernel_rfl) (by kernel_rfl) (by kernel_rfl) (by kernel_rfl) (by kernel_rfl) (by kernel_rfl) (fun _ _ _ h => h) (by kernel_rfl) (by rfl) ?hy hHeld.out ?_
  case hy => rintro W ⟨e1, e2, e4⟩; first | (go_simp; done) | (go_simp; with_reducible rfl)
  simp only [List.setIfInBounds_toArray, List.set_cons_zero, List.set_cons_succ]
  refine sk0 (v := ?_) 14 20 #[true, true, true, true, true, true, true, true, true, true, true, true, true, true, true, false, false, false, false, false, false, false, false, false, false, false, false, false] rfl rfl (by kernel_rfl) (by kernel_rfl) (by kernel_rfl) (by kernel_rfl) (fun _ _ _ h => h) (by kernel_rfl) (by rfl) ?hy (fun _ => hHeld.out) ?_
  case hy => intro W; first | (go_simp; done) | (go_simp; with_reducible rfl)
  simp only [List.setIfInBounds_toArray, List.set_cons_zero, List.set_cons_succ]
  refine sk0 (v := ?_) 15 21 #[true, true, true, true, true, true, true, true, true, true, true, true, true, true, true, true, false, false, false, false, false, false, false, false, false, false, false, false] rfl rfl (by kernel_rfl) (by kernel_rfl) (by kernel_rfl) (by kernel_rfl) (fun _ _ _ h => h) (by kernel_rfl) (by rfl) ?hy (fun _ => hHeld.out) ?_
  case hy => intro W; first | (go_simp; done) | (go_simp; with_reducible rfl)
  simp only [List.setIfInBounds_toArray, List.set_cons_zero, List.set_cons_succ]
  refine sk1 (v := ?_) 16 22 #[true, true, true, true, true, true, true, true, true, true, true, true, true, true, true, true, true, false, false, false, false, false, false, false, false, false, false, false] rfl rfl (by kernel_rfl) (by kernel_rfl) (by kernel_rfl) (by kernel_rfl) (by kernel_rfl) (by kernel_rfl) (fun _ _ _ h => h) (by kernel_rfl) (by rfl) ?hy hHeld.out ?_
  case hy => rintro W ⟨e1, e2, e4⟩; have q0 : W.cell? ⟨g, j * 3, none⟩ = some (.int .i64 y.1.1) := e4 0 _ rfl; have q1 : W.cell? ⟨g, j * 3 + 1, none⟩ = some (.int .i64 y.1.2) := e4 1 _ rfl; have q2 : W.cell? ⟨g, j * 3 + 2, none⟩ = some (.int .i64 (y.2 : Int)) := e4 2 _ rfl; first | (go_simp; done) | (go_simp; with_reducible rfl)
  simp only [List.setIfInBounds_toArray, List.set_cons_zero, List.set_cons_succ]
  refine sk0 (v := ?_) 17 23 #[true, true, true, true, true, true, true, true, true, true, true, true, true, true, true, true, true, true, false, false, false, false, false, false, false, false, false, false] rfl rfl (by kernel_rfl) (by kernel_rfl) (by kernel_rfl) (by kernel_rfl) (fun _ _ _ h => h) (by kernel_rfl) (by rfl) ?hy (fun _ => hHeld.out) ?_
  case hy => intro W; first | (go_simp; done) | (go_simp; with_reducible rfl)
  simp only [List.setIfInBounds_toArray, List.set_cons_zero, List.set_cons_succ]
  refine sk0 (v := ?_) 18 24 #[true, true, true, true, true, true, true, true, true, true, true, true, true, true, true, true, true, true, true, false, false, false, false, false, false, false, false, false] rfl rfl (by kernel_rfl) (by kernel_rfl) (by kernel_rfl) (by kernel_rfl) (fun _ _ _ h => h) (by kernel_rfl) (by rfl) ?hy (fun _ => hHeld.out) ?_
  case hy => intro W; first | (go_simp; done) | (go_simp; with_reducible rfl)
  simp only [List.setIfInBounds_toArray, List.set_cons_zero, List.set_cons_succ]
  refine sk0 (v := ?_) 19 25 #[true, true, true, true, true, true, true, true, true, true, true, true, true, true, true, true, true, true, true, true, false, false, false, false, false, false, false, false] rfl rfl (by kernel_rfl) (by kernel_rfl) (by kernel_rfl) (by kernel_rfl) (fun _ _ _ h => h) (by kernel_rfl) (by rfl) ?hy (fun _ => hHeld.out) ?_
  case hy => intro W; first | (go_simp; done) | (go_simp; with_reducible rfl)
  simp only [List.setIfInBounds_toArray, List.set_cons_zero, List.set_cons_succ]
  refine sk1 (v := ?_) 20 26 #[true, true, true, true, true, true, true, true, true, true, true, true, true, true, true, true, true, true, true, true, true, false, false, false, false, false, false, false] rfl rfl (by kernel_rfl) (by kernel_rfl) (by kernel_rfl) (by kernel_rfl) (by kernel_rfl) (by kernel_rfl) (fun _ _ _ h => h) (by kernel_rfl) (by rfl) ?hy hHeld.out ?_
  case hy => rintro W ⟨e1, e2, e4⟩; first | (go_simp; done) | (go_simp; with_reducible rfl)
  simp only [List.setIfInBounds_toArray, List.set_cons_zero, List.set_cons_succ]
  refine sk0 (v := ?_) 21 27 #[true, true, true, true, true, true, true, true, true, true, true, true, true, true, true, true, true, true, true, true, true, true, false, false, false, false, false, false] rfl rfl (by kernel_rfl) (by kernel_rfl) (by kernel_rfl) (by kernel_rfl) (fun _ _ _ h => h) (by kernel_rfl) (by rfl) ?hy (fun _ => hHeld.out) ?_
  case hy => intro W; first | (go_simp; done) | (go_simp; with_reducible rfl)
  simp only [List.setIfInBounds_toArray, List.set_cons_zero, List.set_cons_succ]
  refine sk0 (v := ?_) 22 28 #[true, true, true, true, true, true, true, true, true, true, true, true, true, true, true, true, true, true, true, true, true, true, true, false, false, false, false, false] rfl rfl (by kernel_rfl) (by kernel_rfl) (by kernel_rfl) (by kernel_rfl) (fun _ _ _ h => h) (by kernel_rfl) (by rfl) ?hy (fun _ => hHeld.out) ?_
  case hy => intro W; first | (go_simp; done) | (go_simp; with_reducible rfl)
  simp only [List.setIfInBounds_toArray, List.set_cons_zero, List.set_cons_succ]
  refine sk1 (v := ?_) 23 29 #[true, true, true, true, true, true, true, true, true, true, true, true, true, true, true, true, true, true, true, true, true, true, true, true, false, false, false, false] rfl rfl (by kernel_rfl) (by kernel_rfl) (by kernel_rfl) (by kernel_rfl) (by kernel_rfl) (by kernel_rfl) (fun _ _ _ h => h) (by kernel_rfl) (by rfl) ?hy hHeld.out ?_
  case hy => rintro W ⟨e1, e2, e4⟩; have q0 : W.cell? ⟨g, i * 3, none⟩ = some (.int .i64 x.1.1) := e2 0 _ rfl; have q1 : W.cell? ⟨g, i * 3 + 1, none⟩ = some (.int .i64 x.1.2) := e2 1 _ rfl; have q2 : W.cell? ⟨g, i * 3 + 2, none⟩ = some (.int .i64 (x.2 : Int)) := e2 2 _ rfl; first | (go_simp; done) | (go_simp; with_reducible rfl)
  simp only [List.setIfInBounds_toArray, List.set_cons_zero, List.set_cons_succ]
  refine sk0 (v := ?_) 24 30 #[true, true, true, true, true, true, true, true, true, true, true, true, true, true, true, true, true, true, true, true, true, true, true, true, true, false, false, false] rfl rfl (by kernel_rfl) (by kernel_rfl) (by kernel_rfl) (by kernel_rfl) (fun _ _ _ h => h) (by kernel_rfl) (by rfl) ?hy (fun _ => hHeld.out) ?_
  case hy => intro W; first | (go_simp; done) | (go_simp; with_reducible rfl)
  simp only [List.setIfInBounds_toArray, List.set_cons_zero, List.set_cons_succ]
  refine s_ready 25 #[true, true, true, true, true, true, true, true, true, true, true, true, true, true, true, true, true, true, true, true, true, true, true, true, true, true, false, false] rfl (by kernel_rfl) (by kernel_rfl) (by rfl) (fun K hK => ?_)
  refine wp_store_mid0 51 _ _ rfl rfl g (i * 3) (e3 y).toArray rfl rfl HT1.out Try.sizeEn (e3_all _) ?_
  refine hK.out _ _ (fun h => absurd h (by decide)) ?_
  clear hK K
  refine s_ready 26 #[true, true, true, true, true, true, true, true, true, true, true, true, true, true, true, true, true, true, true, true, true, true, true, true, true, true, true, false] rfl (by kernel_rfl) (by kernel_rfl) (by rfl) (fun K hK => ?_)
  go_simp
  refine hK.out _ _ (fun h => absurd h (by decide)) ?_
  clear hK K
  refine s_ready 27 #[true, true, true, true, true, true, true, true, true, true, true, true, true, true, true, true, true, true, true, true, true, true, true, true, true, true, true, true] rfl (by kernel_rfl) (by kernel_rfl) (by rfl) (fun K hK => ?_)
  refine wp_store_mid0 51 _ _ rfl rfl g (j * 3) (e3 x).toArray rfl rfl HT2.out Try.sizeEn (e3_all _) ?_
  refine hK.out _ _ (fun h => absurd h (by decide)) ?_
  clear hK K
  refine s_done (by kernel_rfl) ?_ _
  go_wp2_with fail
  refine bodyPost_end (results_none rfl _ _ _) rfl ?_
  exact ⟨⟨_, rfl⟩, HOd.out, HGd.out⟩
end Go.Proofs.Ytegemfkadclnkaa
