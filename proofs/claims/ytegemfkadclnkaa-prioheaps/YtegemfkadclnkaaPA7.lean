/-
  My own text: one is taken out (printed by mkpa7.py out of PA7.head, PA7.mid, PA7.end).
-/
import Derived.Test.YtegemfkadclnkaaPA6
namespace Go.Proofs.Ytegemfkadclnkaa
open Go.RowKit

theorem wp_store_row0 {P : Program} {o : Oper} {a : Act} {w : World} {K : Act → World → Prop} {Q : Exit → Act → World → Prop} (ty : TypeId) (x y : Operand) (ho : o.op = .store ty x y) (hd : o.dst = none)
    (g : Nat) (cells : Array Value) (hx : a.eval x = .pointer (some ⟨g, 0, none⟩)) (hy : a.eval y = .agg cells)
    (t : TypeId) (old : Array Value) (hg : w.heap[g]? = some (.cells old t (0, 0))) (hi : (P.info? ty).map (·.size) = some cells.size)
    (hold : old.size = cells.size) (h1 : cells.all (·.oneCell') = true)
    (h : K a (w.setRow g cells)) : o.wp P a w K Q := wp_store_row ty x y ho g cells hx hy t old hg hi hold h1 (by rw [hd]; exact h)
theorem wpList_store_mid0 {P : Program} {ops : Array Oper} {rest : List Oper} {op : Oper} {a : Act} {w : World} {Q : Exit → Act → World → Prop} (hgd : op.guard = none) (ty : TypeId) (x y : Operand) (ho : op.op = .store ty x y) (hd : op.dst = none)
    (b o : Nat) (cells : Array Value) (hx : a.eval x = .pointer (some ⟨b, o, none⟩)) (hy : a.eval y = .agg cells)
    (ht : w.there b o cells.size) (hi : (P.info? ty).map (·.size) = some cells.size) (h1 : cells.all (·.oneCell') = true)
    (h : wpList P ops Q rest a (w.setCells b o cells.toList)) : wpList P ops Q (op :: rest) a w := wpList_store_mid hgd ty x y ho b o cells hx hy ht hi h1 (by rw [hd]; exact h)
theorem HP.setv {w : World} {B hb lb : Nat} {lf : FuncId} {v v' : Value} {E E' : List En} {N : Nat} (h : HP w B hb lb lf v E N) (ho : OE w B v' E') : HP (w.setCell ⟨hb, 0, none⟩ v') B hb lb lf v' E' N := by
  have e1 := setCell_eq_setRow w hb 0 _ _ _ v' h.hdr
  refine ⟨by rw [e1]; exact setRow_heap w hb _ _ _ _ h.hdr, ?_, owns_later ho (fun g hg => Below.heap_setCell _ _ _ g (fun e => own_ne ho h.hdr (by decide) (by rw [show hb = g from e.symm]; exact hg.symm)))⟩
  rw [Below.heap_setCell _ _ _ lb (fun e => by
    have h1 := h.les
    rw [show lb = hb from e, h.hdr] at h1
    injection h1 with h1; injection h1 with _ h1; exact absurd h1 (by decide))]
  exact h.les
theorem Fq.put {w w' : World} {hb o : Nat} {v v' u : Value} (h : Below w.heap.size w w') (hv : ∀ g, v'.ownBlock = some g → v.ownBlock = some g ∨ w.heap.size ≤ g) : Fq w (w'.setCell ⟨hb, o, none⟩ u) hb v v' :=
  ⟨h.os, h.tape, h.output, by rw [(setCell_rest w' _ u).2.2.2]; exact h.size, fun g hg h1 _ => (Below.heap_setCell _ _ _ g h1).trans (h.block g hg), hv⟩
theorem HP.keep {w w' : World} {B hb lb : Nat} {lf : FuncId} {v : Value} {E : List En} {N : Nat} (h : HP w B hb lb lf v E N) (hk : ∀ g, g = hb ∨ g = lb ∨ v.ownBlock = some g → w'.heap[g]? = w.heap[g]?) : HP w' B hb lb lf v E N :=
  ⟨(hk _ (.inl rfl)).trans h.hdr, (hk _ (.inr (.inl rfl))).trans h.les, owns_later h.row (fun g hg => hk g (.inr (.inr hg)))⟩
theorem HP.ne_pr {w : World} {B hb lb : Nat} {lf : FuncId} {v : Value} {E : List En} {N : Nat} (h : HP w B hb lb lf v E N) {g : Nat} {cs : Array Value} {fz : Nat × Nat} (hg : w.heap[g]? = some (.cells cs 25 fz)) : g ≠ hb ∧ g ≠ lb ∧ some g ≠ v.ownBlock := by
  refine ⟨fun e => ?_, fun e => ?_, own_ne h.row hg (by decide)⟩
  · rw [e, h.hdr] at hg; injection hg with hg; injection hg with _ hg; exact absurd hg (by decide)
  · rw [e, h.les] at hg; injection hg with hg; injection hg with _ hg; exact absurd hg (by decide)
theorem out_end {w W : World} {B hb lb rb : Nat} {lf : FuncId} {v v' : Value} {E : List En} {N : Nat} {old cs : Array Value} {fz : Nat × Nat} (h : HP W B hb lb lf v' E N) (hf : Fq w W hb v v') (hr : w.heap.size ≤ rb) (hb' : W.heap[rb]? = some (.cells old 25 fz)) :
    HP (W.setRow rb cs) B hb lb lf v' E N ∧ Fq w (W.setRow rb cs) hb v v' := by
  obtain ⟨n1, n2, n3⟩ := h.ne_pr hb'
  refine ⟨h.keep (fun g hg => setRow_other _ _ _ _ (fun e => ?_)), ⟨hf.os, hf.tape, hf.output, ?_, fun g hg h1 h2 => (setRow_other _ _ _ _ (by omega)).trans (hf.block g hg h1 h2), hf.own⟩⟩
  · subst e
    rcases hg with q | q | q
    · exact n1 q
    · exact n2 q
    · exact n3 q.symm
  · have : (W.setRow rb cs).heap.size = W.heap.size := by simp [World.setRow]
    rw [this]; exact hf.size
set_option maxRecDepth 100000 in
set_option maxHeartbeats 8000000 in
theorem takeOut_any {lf : FuncId} {k : Pr → Int} (hl : LOk lf k) (p : Nat) (x : En) (B hb lb : Nat) (v : Value) (E : List En) (N : Nat) (w : World) (h : HP w B hb lb lf v E N) (hk : HeapOk (ltE k) E) (hx : E[p]? = some x) (hlen : E.length ≤ 5864062014805) (hB : B ≤ w.heap.size) :
    Calls Try.prog 24 #[.pointer (some ⟨hb, 0, none⟩), .int .i64 (p : Int)] w fun e w' => e = .returned (pv x.1) ∧ ∃ v' E', (x :: E').Perm E ∧ HeapOk (ltE k) E' ∧ HP w' B hb lb lf v' E' N ∧ Fq w w' hb v v' := by
  have hpl := (List.getElem?_eq_some_iff.1 hx).1
  obtain ⟨l, hll⟩ : ∃ l, E.length = l + 1 := ⟨E.length - 1, by omega⟩
  obtain ⟨y, hy⟩ : ∃ y, E[l]? = some y := ⟨_, List.getElem?_eq_getElem (by omega)⟩
  obtain ⟨g, cap, cur, rfl, hBg, hh, hc1, hc2, hcs, hct⟩ := h.row.parts (by omega)
  obtain ⟨n, hn⟩ : ∃ n, Hid (E.length = n) := ⟨_, hide rfl⟩
  have ho : OE w B (.slice (some ⟨g, 0, none⟩) E.length cap) E := h.row
  have hbl := blk_lt h.hdr
  have hgl := blk_lt hh
  have hgb : g ≠ hb := fun e => own_ne h.row h.hdr (by decide) (by rw [← e]; rfl)
  obtain ⟨W1, hW1⟩ : ∃ W, Hid (w.alloc (.cells #[.int .i64 0, .int .i64 0] 25) = W) := ⟨_, hide rfl⟩
  have b1 : Below w.heap.size w W1 := by rw [← hW1.out]; exact (Below.refl _ _).alloc (Nat.le_refl _) _
  have r1 : W1.heap[w.heap.size]? = some (.cells #[.int .i64 0, .int .i64 0] 25 (0, 0)) := by rw [← hW1.out]; exact alloc_new w _
  have s1 : W1.heap.size = w.heap.size + 1 := by rw [← hW1.out]; simp
  obtain ⟨W2a, hW2a⟩ : ∃ W, Hid ((W1.alloc (.cells #[.int .i64 0, .int .i64 0] 25)).drew = W) := ⟨_, hide rfl⟩
  have b2a : Below W1.heap.size W1 W2a := by rw [← hW2a.out]; exact ((Below.refl _ W1).alloc (Nat.le_refl _) _).trans drew_below
  have t2a : W2a.heap[W1.heap.size]? = some (.cells #[.int .i64 0, .int .i64 0] 25 (0, 0)) := by rw [← hW2a.out]; exact alloc_new W1 _
  obtain ⟨W2, hW2⟩ : ∃ W, Hid (W2a.setRow W1.heap.size #[.int .i64 x.1.1, .int .i64 x.1.2] = W) := ⟨_, hide rfl⟩
  have b2 : Below W1.heap.size W1 W2 := by
    rw [← hW2.out]
    exact ⟨b2a.os, b2a.tape, b2a.output, by have : (W2a.setRow W1.heap.size #[.int .i64 x.1.1, .int .i64 x.1.2]).heap.size = W2a.heap.size := by simp [World.setRow]
                                            rw [this]; exact b2a.size, fun q hq => (setRow_other _ _ _ _ (by omega)).trans (b2a.block q hq)⟩
  have t2 : W2.heap[W1.heap.size]? = some (.cells #[.int .i64 x.1.1, .int .i64 x.1.2] 25 (0, 0)) := by rw [← hW2.out]; exact setRow_heap _ _ _ _ _ _ t2a
  have b12 : Below w.heap.size w W2 := b1.trans (b2.mono b1.size)
  have h2 := h.later b12
  have r2 : W2.heap[w.heap.size]? = some (.cells #[.int .i64 0, .int .i64 0] 25 (0, 0)) := blk_later r1 b2
  obtain ⟨W3, hW3⟩ : ∃ W, Hid (W2.drew.setCells g (p * 3) (e3 y).toArray.toList = W) := ⟨_, hide rfl⟩
  have o2 : OE W2.drew B (.slice (some ⟨g, 0, none⟩) E.length cap) E := h2.row.drew
  have o3 : OE W3 B (.slice (some ⟨g, 0, none⟩) E.length cap) (E.set p y) := by rw [← hW3.out]; exact o2.set p y
  have g3 : W2.grownBy W3 (some g) := by rw [← hW3.out]; exact gb_drew (sc_grown _ _ _ _)
  have h3 : HP W3 B hb lb lf _ _ N := h2.moved g3 o3
  obtain ⟨W4, hW4⟩ : ∃ W, Hid (W3.setCells g (l * 3) (e3 (((0, 0), 0) : En)).toArray.toList = W) := ⟨_, hide rfl⟩
  have o4 : OE W4 B (.slice (some ⟨g, 0, none⟩) E.length cap) ((E.set p y).set l ((0, 0), 0)) := by
    have hq : (E.set p y).length = E.length := List.length_set ..
    have o3' : OE W3 B (.slice (some ⟨g, 0, none⟩) (E.set p y).length cap) (E.set p y) := by rw [hq]; exact o3
    have := o3'.set l ((0, 0), 0)
    rw [hq] at this
    rw [← hW4.out]; exact this
  have g4 : W3.grownBy W4 (some g) := by rw [← hW4.out]; exact sc_grown _ _ _ _
  have h4 : HP W4 B hb lb lf _ _ N := h3.moved g4 o4
  have o5 : OE W4 B (.slice (some ⟨g, 0, none⟩) l cap) ((E.set p y).take l) := by
    have hq : ((E.set p y).set l ((0, 0), 0)).length = E.length := by rw [List.length_set, List.length_set]
    have o4' : OE W4 B (.slice (some ⟨g, 0, none⟩) ((E.set p y).set l ((0, 0), 0)).length cap) ((E.set p y).set l ((0, 0), 0)) := by rw [hq]; exact o4
    have := o4'.cut (n := l) (by rw [hq]; omega)
    rw [List.take_set_of_le (Nat.le_refl _)] at this; exact this
  obtain ⟨W5, hW5⟩ : ∃ W, Hid (W4.setCell ⟨hb, 0, none⟩ (.slice (some ⟨g, 0, none⟩) l cap) = W) := ⟨_, hide rfl⟩
  have h5 : HP W5 B hb lb lf (.slice (some ⟨g, 0, none⟩) l cap) ((E.set p y).take l) N := by rw [← hW5.out]; exact h4.setv o5
  have f5 : Fq w W5 hb (.slice (some ⟨g, 0, none⟩) E.length cap) (.slice (some ⟨g, 0, none⟩) l cap) := by
    have q1 : Fq w W2 hb (.slice (some ⟨g, 0, none⟩) E.length cap) (.slice (some ⟨g, 0, none⟩) E.length cap) := Fq.of_below b12
    have q2 : Fq W2 W3 hb (.slice (some ⟨g, 0, none⟩) E.length cap) (.slice (some ⟨g, 0, none⟩) E.length cap) := Fq.of_gb g3
    have q3 : Fq W3 W4 hb (.slice (some ⟨g, 0, none⟩) E.length cap) (.slice (some ⟨g, 0, none⟩) E.length cap) := Fq.of_gb g4
    have q4 : Fq W4 W5 hb (.slice (some ⟨g, 0, none⟩) E.length cap) (.slice (some ⟨g, 0, none⟩) l cap) := by rw [← hW5.out]; exact Fq.hdr _ (fun q hq => .inl hq)
    exact ((q1.trans q2).trans q3).trans q4
  have k5 : ∀ q, w.heap.size ≤ q → q < W2.heap.size → W5.heap[q]? = W2.heap[q]? := fun q h1 h2' => by
    have e5 : W5.heap[q]? = W4.heap[q]? := by rw [← hW5.out]; exact Below.heap_setCell _ _ _ q (by show q ≠ hb; omega)
    rw [e5, g4.block q (by have := g3.size; omega) (by intro e; injection e with e; omega), g3.block q h2' (by intro e; injection e with e; omega)]
  have R5 := hide ((k5 w.heap.size (Nat.le_refl _) (blk_lt r2)).trans r2)
  have T5 := hide ((k5 W1.heap.size (by omega) (blk_lt t2)).trans t2)
  have HT2 := hide t2a
  have HT3 : Hid (W2.drew.there g (p * 3) (e3 y).toArray.size) := hide (by simp; exact OE.there h2.row hpl)
  have HT4 : Hid (W3.there g (l * 3) (e3 (((0, 0), 0) : En)).toArray.size) := hide (by rw [← hW3.out]; exact World.there_setCells (by simp; exact OE.there h2.row (by omega)) _ _ _)
  have rp := ho.range hx
  have ca : w.cell? ⟨g, p * 3, none⟩ = some (.int .i64 x.1.1) := rp 0 _ rfl
  have cb : w.cell? ⟨g, p * 3 + 1, none⟩ = some (.int .i64 x.1.2) := rp 1 _ rfl
  have cc := h.c0
  rw [hn.out] at cc
  have hS : ∀ W, Below w.heap.size w W → W.cell? ⟨hb, 0, none⟩ = some (.slice (some ⟨g, 0, none⟩) n cap) ∧ W.cell? ⟨g, p * 3, none⟩ = some (.int .i64 x.1.1) ∧ W.cell? ⟨g, p * 3 + 1, none⟩ = some (.int .i64 x.1.2) := fun W hb' =>
    ⟨(hb'.cell (p := ⟨hb, 0, none⟩) hbl).trans cc, (hb'.cell (p := ⟨g, _, none⟩) hgl).trans ca, (hb'.cell (p := ⟨g, _, none⟩) hgl).trans cb⟩
  have hHeld := hide (hS W1.drew (b1.trans drew_below))
  have HS2a := hide (hS W2a (b1.trans (b2a.mono b1.size)))
  have HS2 := hide (hS W2 b12)
  have HC2 := hide ((hS W2 b12).1)
  have HY2 : Hid (W2.drew.rangeAt g (l * 3) (e3 y)) := hide (by simp; exact OE.range h2.row hy)
  have c4 := h4.c0
  rw [hn.out] at c4
  have C4 := hide c4
  have F4 : Hid (W4.frozen? ⟨hb, 0, none⟩ = false) := hide (by unfold World.frozen?; simp [h4.hdr])
  have c3 := h3.c0
  rw [hn.out] at c3
  have C3 := hide c3
  have H5 := hide h5
  have FF5 := hide f5
  rw [hn.out] at FF5
  have P5 := hide (out_perm hx hll hy)
  have K5 := hide (out_hole (y := y) (l := l) (ltE_so k) hk hx)
  have KK : Hid (p = l → HeapOk (ltE k) ((E.set p y).take l)) := hide (fun e => by subst e; rw [List.take_set_of_le (Nat.le_refl _)]; exact hk.take _)
  have HLN : Hid (l ≤ 5864062014805 ∧ p < l + 1 ∧ ((E.set p y).take l).length = l) := hide ⟨by omega, by omega, by simp; omega⟩
  have HL := hide hl
  have HBB := hide hB
  have k0 : (0 : Int) ≤ (p : Int) := by omega
  have k1 : (p : Int) < (n : Int) := by have := hn.out; omega
  have k2 : (0 : Int) ≤ (l : Int) := by omega
  have k3 : (l : Int) < (n : Int) := by have := hn.out; omega
  have k4 : (l : Int) ≤ (cap : Int) := by omega
  have k6 : ¬ cap = 0 := by omega
  have wl : wrap64 ((n : Int) - 1) = (l : Int) := by have := hn.out; unfold wrap64; omega
  have wl' : IntKind.i64.wrap ((n : Int) - 1) = (l : Int) := by rw [IntKind.wrap_i64]; unfold wrap64 at wl; exact wl
  rw [hn.out]
  clear hk hx hy h h2 h3 h4 h5 f5 o2 o3 o4 o5 g3 g4 k5 ho rp ca cb cc hS b1 b2 b12 b2a t2a t2 r1 r2 hh hc1 hc2 hcs hct cur hBg hlen hB hl hgb hbl hgl s1 hpl hll c4 c3
  go_enter Try.func24, Try.ntmps24
  go_wp2_with fail
  rw [hW1.out]
  refine s_begins (S := fun W => W.cell? ⟨hb, 0, none⟩ = some (.slice (some ⟨g, 0, none⟩) n cap) ∧ W.cell? ⟨g, p * 3, none⟩ = some (.int .i64 x.1.1) ∧ W.cell? ⟨g, p * 3 + 1, none⟩ = some (.int .i64 x.1.2)) [] 17 #[false, false, false, false, false, false, false, false, false, false, false, false, false, false, false, false, false] (by kernel_rfl) (by kernel_rfl) (by kernel_rfl) ?_
  refine sk0 (v := ?_) 0 7 #[true, false, false, false, false, false, false, false, false, false, false, false, false, false, false, false, false] rfl rfl (by kernel_rfl) (by kernel_rfl) (by kernel_rfl) (by kernel_rfl) (fun _ _ _ h => h) (by kernel_rfl) (by rfl) ?hy (fun _ => hHeld.out) ?_
  case hy => intro W; first | (go_simp; done) | (go_simp; with_reducible rfl)
  simp only [List.setIfInBounds_toArray, List.set_cons_zero, List.set_cons_succ]
  refine sk0 (v := ?_) 1 8 #[true, true, false, false, false, false, false, false, false, false, false, false, false, false, false, false, false] rfl rfl (by kernel_rfl) (by kernel_rfl) (by kernel_rfl) (by kernel_rfl) (fun _ _ _ h => h) (by kernel_rfl) (by rfl) ?hy (fun _ => hHeld.out) ?_
  case hy => intro W; first | (go_simp; done) | (go_simp; with_reducible rfl)
  simp only [List.setIfInBounds_toArray, List.set_cons_zero, List.set_cons_succ]
  refine sk0 (v := ?_) 2 9 #[true, true, true, false, false, false, false, false, false, false, false, false, false, false, false, false, false] rfl rfl (by kernel_rfl) (by kernel_rfl) (by kernel_rfl) (by kernel_rfl) (fun _ _ _ h => h) (by kernel_rfl) (by rfl) ?hy (fun _ => hHeld.out) ?_
  case hy => intro W; first | (go_simp; done) | (go_simp; with_reducible rfl)
  simp only [List.setIfInBounds_toArray, List.set_cons_zero, List.set_cons_succ]
  refine sk1 (v := ?_) 3 10 #[true, true, true, true, false, false, false, false, false, false, false, false, false, false, false, false, false] rfl rfl (by kernel_rfl) (by kernel_rfl) (by kernel_rfl) (by kernel_rfl) (by kernel_rfl) (by kernel_rfl) (fun _ _ _ h => h) (by kernel_rfl) (by rfl) ?hy hHeld.out ?_
  case hy => rintro W ⟨e1, e2, e4⟩; first | (go_simp; done) | (go_simp; with_reducible rfl)
  simp only [List.setIfInBounds_toArray, List.set_cons_zero, List.set_cons_succ]
  refine sk0 (v := ?_) 4 11 #[true, true, true, true, true, false, false, false, false, false, false, false, false, false, false, false, false] rfl rfl (by kernel_rfl) (by kernel_rfl) (by kernel_rfl) (by kernel_rfl) (fun _ _ _ h => h) (by kernel_rfl) (by rfl) ?hy (fun _ => hHeld.out) ?_
  case hy => intro W; first | (go_simp; done) | (go_simp; with_reducible rfl)
  simp only [List.setIfInBounds_toArray, List.set_cons_zero, List.set_cons_succ]
  refine sk0 (v := ?_) 5 12 #[true, true, true, true, true, true, false, false, false, false, false, false, false, false, false, false, false] rfl rfl (by kernel_rfl) (by kernel_rfl) (by kernel_rfl) (by kernel_rfl) (fun _ _ _ h => h) (by kernel_rfl) (by rfl) ?hy (fun _ => hHeld.out) ?_
  case hy => intro W; first | (go_simp; done) | (go_simp; with_reducible rfl)
  simp only [List.setIfInBounds_toArray, List.set_cons_zero, List.set_cons_succ]
  refine sk0 (v := ?_) 6 13 #[true, true, true, true, true, true, true, false, false, false, false, false, false, false, false, false, false] rfl rfl (by kernel_rfl) (by kernel_rfl) (by kernel_rfl) (by kernel_rfl) (fun _ _ _ h => h) (by kernel_rfl) (by rfl) ?hy (fun _ => hHeld.out) ?_
  case hy => intro W; first | (go_simp; done) | (go_simp; with_reducible rfl)
  simp only [List.setIfInBounds_toArray, List.set_cons_zero, List.set_cons_succ]
  refine sk1 (v := ?_) 7 14 #[true, true, true, true, true, true, true, true, false, false, false, false, false, false, false, false, false] rfl rfl (by kernel_rfl) (by kernel_rfl) (by kernel_rfl) (by kernel_rfl) (by kernel_rfl) (by kernel_rfl) (fun _ _ _ h => h) (by kernel_rfl) (by rfl) ?hy hHeld.out ?_
  case hy => rintro W ⟨e1, e2, e4⟩; first | (go_simp; done) | (go_simp; with_reducible rfl)
  simp only [List.setIfInBounds_toArray, List.set_cons_zero, List.set_cons_succ]
  refine sk0 (v := ?_) 8 15 #[true, true, true, true, true, true, true, true, true, false, false, false, false, false, false, false, false] rfl rfl (by kernel_rfl) (by kernel_rfl) (by kernel_rfl) (by kernel_rfl) (fun _ _ _ h => h) (by kernel_rfl) (by rfl) ?hy (fun _ => hHeld.out) ?_
  case hy => intro W; first | (go_simp; done) | (go_simp; with_reducible rfl)
  simp only [List.setIfInBounds_toArray, List.set_cons_zero, List.set_cons_succ]
  refine sk0 (v := ?_) 9 16 #[true, true, true, true, true, true, true, true, true, true, false, false, false, false, false, false, false] rfl rfl (by kernel_rfl) (by kernel_rfl) (by kernel_rfl) (by kernel_rfl) (fun _ _ _ h => h) (by kernel_rfl) (by rfl) ?hy (fun _ => hHeld.out) ?_
  case hy => intro W; first | (go_simp; done) | (go_simp; with_reducible rfl)
  simp only [List.setIfInBounds_toArray, List.set_cons_zero, List.set_cons_succ]
  refine sk0 (v := ?_) 10 17 #[true, true, true, true, true, true, true, true, true, true, true, false, false, false, false, false, false] rfl rfl (by kernel_rfl) (by kernel_rfl) (by kernel_rfl) (by kernel_rfl) (fun _ _ _ h => h) (by kernel_rfl) (by rfl) ?hy (fun _ => hHeld.out) ?_
  case hy => intro W; first | (go_simp; done) | (go_simp; with_reducible rfl)
  simp only [List.setIfInBounds_toArray, List.set_cons_zero, List.set_cons_succ]
  refine sk1 (v := ?_) 11 18 #[true, true, true, true, true, true, true, true, true, true, true, true, false, false, false, false, false] rfl rfl (by kernel_rfl) (by kernel_rfl) (by kernel_rfl) (by kernel_rfl) (by kernel_rfl) (by kernel_rfl) (fun _ _ _ h => h) (by kernel_rfl) (by rfl) ?hy hHeld.out ?_
  case hy => rintro W ⟨e1, e2, e4⟩; first | (go_simp; done) | (go_simp; with_reducible rfl)
  simp only [List.setIfInBounds_toArray, List.set_cons_zero, List.set_cons_succ]
  refine sk0 (v := ?_) 12 19 #[true, true, true, true, true, true, true, true, true, true, true, true, true, false, false, false, false] rfl rfl (by kernel_rfl) (by kernel_rfl) (by kernel_rfl) (by kernel_rfl) (fun _ _ _ h => h) (by kernel_rfl) (by rfl) ?hy (fun _ => hHeld.out) ?_
  case hy => intro W; first | (go_simp; done) | (go_simp; with_reducible rfl)
  simp only [List.setIfInBounds_toArray, List.set_cons_zero, List.set_cons_succ]
  refine sk0 (v := ?_) 13 20 #[true, true, true, true, true, true, true, true, true, true, true, true, true, true, false, false, false] rfl rfl (by kernel_rfl) (by kernel_rfl) (by kernel_rfl) (by kernel_rfl) (fun _ _ _ h => h) (by kernel_rfl) (by rfl) ?hy (fun _ => hHeld.out) ?_
  case hy => intro W; first | (go_simp; done) | (go_simp; with_reducible rfl)
  simp only [List.setIfInBounds_toArray, List.set_cons_zero, List.set_cons_succ]
  refine s_ready 14 #[true, true, true, true, true, true, true, true, true, true, true, true, true, true, true, false, false] rfl (by kernel_rfl) (by kernel_rfl) (by rfl) (fun K hK => ?_)
  go_simp
  rw [hW2a.out]
  refine hK.out _ _ (fun _ => HS2a.out) ?_
  clear hK K
  refine s_ready 15 #[true, true, true, true, true, true, true, true, true, true, true, true, true, true, true, true, false] rfl (by kernel_rfl) (by kernel_rfl) (by rfl) (fun K hK => ?_)
  refine wp_store_row0 25 _ _ rfl rfl W1.heap.size #[.int .i64 x.1.1, .int .i64 x.1.2] rfl rfl _ _ HT2.out Try.sizePr rfl (by simp [Value.oneCell']) ?_
  rw [hW2.out]
  refine hK.out _ _ (fun _ => HS2.out) ?_
  clear hK K
  refine s_ready 16 #[true, true, true, true, true, true, true, true, true, true, true, true, true, true, true, true, true] rfl (by kernel_rfl) (by kernel_rfl) (by rfl) (fun K hK => ?_)
  go_simp
  refine hK.out _ _ (fun _ => HS2.out) ?_
  clear hK K
  refine s_done (by kernel_rfl) ?_ _
  clear hHeld
  have hHeld : Hid (W2.drew.cell? ⟨hb, 0, none⟩ = some (.slice (some ⟨g, 0, none⟩) n cap) ∧ W2.drew.rangeAt g (l * 3) (e3 y)) := hide ⟨HC2.out, HY2.out⟩
  go_wp2_with fail
  refine s_begins (S := fun W => W.cell? ⟨hb, 0, none⟩ = some (.slice (some ⟨g, 0, none⟩) n cap) ∧ W.rangeAt g (l * 3) (e3 y)) [13] 14 #[false, false, false, false, false, false, false, false, false, false, false, false, false, false] (by kernel_rfl) (by kernel_rfl) (by kernel_rfl) ?_
  refine sk0 (v := ?_) 0 21 #[true, false, false, false, false, false, false, false, false, false, false, false, false, false] rfl rfl (by kernel_rfl) (by kernel_rfl) (by kernel_rfl) (by kernel_rfl) (fun _ _ _ h => h) (by kernel_rfl) (by rfl) ?hy (fun _ => hHeld.out) ?_
  case hy => intro W; first | (go_simp; done) | (go_simp; with_reducible rfl)
  simp only [List.setIfInBounds_toArray, List.set_cons_zero, List.set_cons_succ]
  refine sk0 (v := ?_) 1 22 #[true, true, false, false, false, false, false, false, false, false, false, false, false, false] rfl rfl (by kernel_rfl) (by kernel_rfl) (by kernel_rfl) (by kernel_rfl) (fun _ _ _ h => h) (by kernel_rfl) (by rfl) ?hy (fun _ => hHeld.out) ?_
  case hy => intro W; first | (go_simp; done) | (go_simp; with_reducible rfl)
  simp only [List.setIfInBounds_toArray, List.set_cons_zero, List.set_cons_succ]
  refine sk0 (v := ?_) 2 23 #[true, true, true, false, false, false, false, false, false, false, false, false, false, false] rfl rfl (by kernel_rfl) (by kernel_rfl) (by kernel_rfl) (by kernel_rfl) (fun _ _ _ h => h) (by kernel_rfl) (by rfl) ?hy (fun _ => hHeld.out) ?_
  case hy => intro W; first | (go_simp; done) | (go_simp; with_reducible rfl)
  simp only [List.setIfInBounds_toArray, List.set_cons_zero, List.set_cons_succ]
  refine sk1 (v := ?_) 3 24 #[true, true, true, true, false, false, false, false, false, false, false, false, false, false] rfl rfl (by kernel_rfl) (by kernel_rfl) (by kernel_rfl) (by kernel_rfl) (by kernel_rfl) (by kernel_rfl) (fun _ _ _ h => h) (by kernel_rfl) (by rfl) ?hy hHeld.out ?_
  case hy => rintro W ⟨e1, e2⟩; first | (go_simp; done) | (go_simp; with_reducible rfl)
  simp only [List.setIfInBounds_toArray, List.set_cons_zero, List.set_cons_succ]
  refine sk0 (v := ?_) 4 25 #[true, true, true, true, true, false, false, false, false, false, false, false, false, false] rfl rfl (by kernel_rfl) (by kernel_rfl) (by kernel_rfl) (by kernel_rfl) (fun _ _ _ h => h) (by kernel_rfl) (by rfl) ?hy (fun _ => hHeld.out) ?_
  case hy => intro W; first | (go_simp; done) | (go_simp; with_reducible rfl)
  simp only [List.setIfInBounds_toArray, List.set_cons_zero, List.set_cons_succ]
  refine sk0 (v := ?_) 5 26 #[true, true, true, true, true, true, false, false, false, false, false, false, false, false] rfl rfl (by kernel_rfl) (by kernel_rfl) (by kernel_rfl) (by kernel_rfl) (fun _ _ _ h => h) (by kernel_rfl) (by rfl) ?hy (fun _ => hHeld.out) ?_
  case hy => intro W; first | (go_simp; done) | (go_simp; with_reducible rfl)
  simp only [List.setIfInBounds_toArray, List.set_cons_zero, List.set_cons_succ]
  refine sk0 (v := ?_) 6 27 #[true, true, true, true, true, true, true, false, false, false, false, false, false, false] rfl rfl (by kernel_rfl) (by kernel_rfl) (by kernel_rfl) (by kernel_rfl) (fun _ _ _ h => h) (by kernel_rfl) (by rfl) ?hy (fun _ => hHeld.out) ?_
  case hy => intro W; first | (go_simp; done) | (go_simp; with_reducible rfl)
  simp only [List.setIfInBounds_toArray, List.set_cons_zero, List.set_cons_succ]
  refine sk0 (v := ?_) 7 28 #[true, true, true, true, true, true, true, true, false, false, false, false, false, false] rfl rfl (by kernel_rfl) (by kernel_rfl) (by kernel_rfl) (by kernel_rfl) (fun _ _ _ h => h) (by kernel_rfl) (by rfl) ?hy (fun _ => hHeld.out) ?_
  case hy => intro W; first | (go_simp; done) | (go_simp; with_reducible rfl)
  simp only [List.setIfInBounds_toArray, List.set_cons_zero, List.set_cons_succ]
  refine sk1 (v := ?_) 8 29 #[true, true, true, true, true, true, true, true, true, false, false, false, false, false] rfl rfl (by kernel_rfl) (by kernel_rfl) (by kernel_rfl) (by kernel_rfl) (by kernel_rfl) (by kernel_rfl) (fun _ _ _ h => h) (by kernel_rfl) (by rfl) ?hy hHeld.out ?_
  case hy => rintro W ⟨e1, e2⟩; first | (go_simp; done) | (go_simp; with_reducible rfl)
  simp only [List.setIfInBounds_toArray, List.set_cons_zero, List.set_cons_succ]
  refine sk0 (v := ?_) 9 30 #[true, true, true, true, true, true, true, true, true, true, false, false, false, false] rfl rfl (by kernel_rfl) (by kernel_rfl) (by kernel_rfl) (by kernel_rfl) (fun _ _ _ h => h) (by kernel_rfl) (by rfl) ?hy (fun _ => hHeld.out) ?_
  case hy => intro W; first | (go_simp; done) | (go_simp; with_reducible rfl)
  simp only [List.setIfInBounds_toArray, List.set_cons_zero, List.set_cons_succ]
  refine sk0 (v := ?_) 10 31 #[true, true, true, true, true, true, true, true, true, true, true, false, false, false] rfl rfl (by kernel_rfl) (by kernel_rfl) (by kernel_rfl) (by kernel_rfl) (fun _ _ _ h => h) (by kernel_rfl) (by rfl) ?hy (fun _ => hHeld.out) ?_
  case hy => intro W; first | (go_simp; done) | (go_simp; with_reducible rfl)
  simp only [List.setIfInBounds_toArray, List.set_cons_zero, List.set_cons_succ]
  refine sk1 (v := ?_) 11 32 #[true, true, true, true, true, true, true, true, true, true, true, true, false, false] rfl rfl (by kernel_rfl) (by kernel_rfl) (by kernel_rfl) (by kernel_rfl) (by kernel_rfl) (by kernel_rfl) (fun _ _ _ h => h) (by kernel_rfl) (by rfl) ?hy hHeld.out ?_
  case hy => rintro W ⟨e1, e2⟩; have q0 : W.cell? ⟨g, l * 3, none⟩ = some (.int .i64 y.1.1) := e2 0 _ rfl; have q1 : W.cell? ⟨g, l * 3 + 1, none⟩ = some (.int .i64 y.1.2) := e2 1 _ rfl; have q2 : W.cell? ⟨g, l * 3 + 2, none⟩ = some (.int .i64 (y.2 : Int)) := e2 2 _ rfl; first | (go_simp; done) | (go_simp; with_reducible rfl)
  simp only [List.setIfInBounds_toArray, List.set_cons_zero, List.set_cons_succ]
  refine s_ready 12 #[true, true, true, true, true, true, true, true, true, true, true, true, true, false] rfl (by kernel_rfl) (by kernel_rfl) (by rfl) (fun K hK => ?_)
  go_simp
  refine hK.out _ _ (fun _ => hHeld.out) ?_
  clear hK K
  refine s_ready 13 #[true, true, true, true, true, true, true, true, true, true, true, true, true, true] rfl (by kernel_rfl) (by kernel_rfl) (by rfl) (fun K hK => ?_)
  refine wp_store_mid0 51 _ _ rfl rfl g (p * 3) (e3 y).toArray rfl rfl HT3.out Try.sizeEn (e3_all _) ?_
  rw [hW3.out]
  refine hK.out _ _ (fun h => absurd h (by decide)) ?_
  clear hK K
  refine s_done (by kernel_rfl) ?_ _
  have c3 := C3.out
  have c4 := C4.out
  have f4 := F4.out
  have w4 : wrap64 (4 * (l : Int)) = 4 * (l : Int) := by have := HLN.out.1; unfold wrap64; omega
  have w5 : wrap64 (4 * (l : Int) + 64) = 4 * (l : Int) + 64 := by have := HLN.out.1; unfold wrap64; omega
  have NR : Hid (w.heap.size ≠ hb ∧ some w.heap.size ≠ (Value.slice (some ⟨g, 0, none⟩) l cap).ownBlock) := hide ⟨(H5.out.ne_pr R5.out).1, (H5.out.ne_pr R5.out).2.2⟩
  have NT : Hid (W1.heap.size ≠ hb ∧ some W1.heap.size ≠ (Value.slice (some ⟨g, 0, none⟩) l cap).ownBlock) := hide ⟨(H5.out.ne_pr T5.out).1, (H5.out.ne_pr T5.out).2.2⟩
  clear hHeld HS2a HS2 HC2 HY2 C3 C4 F4 HT2 HT3 wl wl'
  by_cases hpl : p < l
  · have d1 : decide ((p : Int) < (l : Int)) = true := by rw [decide_eq_true_eq]; omega
    have HRI := hide (rise_any HL.out p B hb lb _ _ N W5 H5.out (by have := HLN.out; omega) K5.out (by have := HLN.out; omega))
    go_wp2_with (refine wpList_store_mid0 rfl 51 _ _ rfl rfl g (l * 3) (e3 (((0, 0), 0) : En)).toArray rfl rfl HT4.out Try.sizeEn (e3_all _) ?_; rw [hW4.out])
    rw [hW5.out]
    refine HRI.out.mono ?_
    rintro e w6 ⟨q, E6, rfl, hq1, hq2, hq3, _, hq5, hq6⟩
    have HSI := hide (sink_any HL.out q B hb lb _ _ N w6 hq5 (by have := HLN.out; have := hq2.length_eq; omega) hq3 (by have := HLN.out; have := hq2.length_eq; omega))
    have HQ2 := hide hq2
    have F56 := hide (Fq.of_gb (hb := hb) hq6)
    clear hq2 hq3 hq5 hq6 HRI
    go_wp2_with fail
    refine HSI.out.mono ?_
    rintro e w7 ⟨⟨u, rfl⟩, E7, hr1, hr2, hr3, hr4⟩
    have HB := hide hr3
    have F5B := hide (F56.out.trans (Fq.of_gb hr4))
    have FB := hide (FF5.out.trans F5B.out)
    have PD := hide (((hr1.trans HQ2.out).cons x).trans P5.out)
    have KD := hide hr2
    have HLB : Hid (E7.length = l) := hide (by have := HLN.out; have := (hr1.trans HQ2.out).length_eq; omega)
    clear hr1 hr2 hr3 hr4 HSI F56 HQ2 c3 c4 f4
    have RB := hide ((F5B.out.block w.heap.size (blk_lt R5.out) NR.out.1 NR.out.2).trans R5.out)
    have TB := hide ((F5B.out.block W1.heap.size (blk_lt T5.out) NT.out.1 NT.out.2).trans T5.out)
    have cb0 : w7.cell? ⟨hb, 0, none⟩ = some (.slice (some ⟨g, 0, none⟩) l cap) := HB.out.c0
    by_cases hcap : 4 * l + 64 < cap
    · have d2 : decide (4 * (l : Int) + 64 < (cap : Int)) = true := by rw [decide_eq_true_eq]; omega
      have HCP := hide (copied_any B hb lb lf _ _ N w7 HB.out (by have := HLB.out; have := HLN.out.1; omega))
      go_wp2_with fail
      refine HCP.out.mono ?_
      rintro e w8 ⟨v8, rfl, ho8, hb8⟩
      have h8 := HB.out.later hb8
      obtain ⟨a8, cap8, hv8, _⟩ := ho8.slc
      have c8 := h8.c0
      have f8 : w8.frozen? ⟨hb, 0, none⟩ = false := by unfold World.frozen?; simp [h8.hdr]
      have hBW : B ≤ w7.heap.size := Nat.le_trans HBB.out FB.out.size
      have HD := hide (h8.setv (ho8.mono hBW))
      have FD := hide (FB.out.trans (Fq.put (hb := hb) (o := 0) (u := v8) (v' := v8) hb8 (fun q hq => .inr (ho8.lt q hq).1)))
      have RD : Hid ((w8.setCell ⟨hb, 0, none⟩ v8).heap[w.heap.size]? = _) := hide ((Below.heap_setCell _ _ _ _ NR.out.1).trans (blk_later RB.out hb8))
      have TD : Hid ((w8.setCell ⟨hb, 0, none⟩ v8).heap[W1.heap.size]? = _) := hide ((Below.heap_setCell _ _ _ _ NT.out.1).trans (blk_later TB.out hb8))
      have t0 : (w8.setCell ⟨hb, 0, none⟩ v8).cell? ⟨W1.heap.size, 0, none⟩ = some (.int .i64 x.1.1) := by rw [cell_of_row _ _ 0 _ _ _ TD.out]; rfl
      have t1 : (w8.setCell ⟨hb, 0, none⟩ v8).cell? ⟨W1.heap.size, 1, none⟩ = some (.int .i64 x.1.2) := by rw [cell_of_row _ _ 1 _ _ _ TD.out]; rfl
      subst hv8
      clear HB FB RB TB HLN cb0 hBW ho8 hb8 h8 HCP TD F5B
      go_wp2_with (refine wpList_store_row rfl 25 _ _ rfl w.heap.size #[.int .i64 x.1.1, .int .i64 x.1.2] rfl rfl _ _ RD.out Try.sizePr rfl (by simp [Value.oneCell']) ?_)
      have hE := out_end (cs := #[.int .i64 x.1.1, .int .i64 x.1.2]) HD.out FD.out (Nat.le_refl _) RD.out
      refine bodyPost_ret (v := pv x.1) ?_ rfl ⟨rfl, _, _, PD.out, KD.out, hE.1, hE.2⟩
      rw [results_cell_row rfl _ _ w.heap.size 25 #[.int .i64 x.1.1, .int .i64 x.1.2] (0, 0) _ rfl (setRow_heap _ _ _ _ _ _ RD.out) Try.underlying25 rfl Try.sizePr]
      rfl
    · have d2 : decide (4 * (l : Int) + 64 < (cap : Int)) = false := by rw [decide_eq_false_iff_not]; omega
      have HD := hide HB.out
      have FD := hide FB.out
      have RD := hide RB.out
      have TD := hide TB.out
      have t0 : w7.cell? ⟨W1.heap.size, 0, none⟩ = some (.int .i64 x.1.1) := by rw [cell_of_row _ _ 0 _ _ _ TD.out]; rfl
      have t1 : w7.cell? ⟨W1.heap.size, 1, none⟩ = some (.int .i64 x.1.2) := by rw [cell_of_row _ _ 1 _ _ _ TD.out]; rfl
      clear HB FB RB TB HLN
      go_wp2_with (refine wpList_store_row rfl 25 _ _ rfl w.heap.size #[.int .i64 x.1.1, .int .i64 x.1.2] rfl rfl _ _ RD.out Try.sizePr rfl (by simp [Value.oneCell']) ?_)
      have hE := out_end (cs := #[.int .i64 x.1.1, .int .i64 x.1.2]) HD.out FD.out (Nat.le_refl _) RD.out
      refine bodyPost_ret (v := pv x.1) ?_ rfl ⟨rfl, _, _, PD.out, KD.out, hE.1, hE.2⟩
      rw [results_cell_row rfl _ _ w.heap.size 25 #[.int .i64 x.1.1, .int .i64 x.1.2] (0, 0) _ rfl (setRow_heap _ _ _ _ _ _ RD.out) Try.underlying25 rfl Try.sizePr]
      rfl
  · have hpe : p = l := by have := HLN.out; omega
    have d1 : decide ((p : Int) < (l : Int)) = false := by rw [decide_eq_false_iff_not]; omega
    have HB := hide H5.out
    have F5B := hide (Fq.of_below (hb := hb) (v := .slice (some ⟨g, 0, none⟩) l cap) (Below.refl W5.heap.size W5))
    have FB := hide FF5.out
    have PD := hide P5.out
    have KD := hide (KK.out hpe)
    have HLB : Hid (_ = l) := hide HLN.out.2.2
    have HQQ := hide hpe
    have e5 := hW5.out
    clear hpe hW5
    subst e5
    generalize (E.set p y).take l = E5 at *
    have RB := hide ((F5B.out.block w.heap.size (blk_lt R5.out) NR.out.1 NR.out.2).trans R5.out)
    have TB := hide ((F5B.out.block W1.heap.size (blk_lt T5.out) NT.out.1 NT.out.2).trans T5.out)
    have cb0 : (W4.setCell ⟨hb, 0, none⟩ (.slice (some ⟨g, 0, none⟩) l cap)).cell? ⟨hb, 0, none⟩ = some (.slice (some ⟨g, 0, none⟩) l cap) := HB.out.c0
    by_cases hcap : 4 * l + 64 < cap
    · have d2 : decide (4 * (l : Int) + 64 < (cap : Int)) = true := by rw [decide_eq_true_eq]; omega
      have HCP := hide (copied_any B hb lb lf _ _ N (W4.setCell ⟨hb, 0, none⟩ (.slice (some ⟨g, 0, none⟩) l cap)) HB.out (by have := HLB.out; have := HLN.out.1; omega))
      go_wp2_with (refine wpList_store_mid0 rfl 51 _ _ rfl rfl g (l * 3) (e3 (((0, 0), 0) : En)).toArray rfl rfl HT4.out Try.sizeEn (e3_all _) ?_; rw [hW4.out])
      refine HCP.out.mono ?_
      rintro e w8 ⟨v8, rfl, ho8, hb8⟩
      have h8 := HB.out.later hb8
      obtain ⟨a8, cap8, hv8, _⟩ := ho8.slc
      have c8 := h8.c0
      have f8 : w8.frozen? ⟨hb, 0, none⟩ = false := by unfold World.frozen?; simp [h8.hdr]
      have hBW : B ≤ (W4.setCell ⟨hb, 0, none⟩ (.slice (some ⟨g, 0, none⟩) l cap)).heap.size := Nat.le_trans HBB.out FB.out.size
      have HD := hide (h8.setv (ho8.mono hBW))
      have FD := hide (FB.out.trans (Fq.put (hb := hb) (o := 0) (u := v8) (v' := v8) hb8 (fun q hq => .inr (ho8.lt q hq).1)))
      have RD : Hid ((w8.setCell ⟨hb, 0, none⟩ v8).heap[w.heap.size]? = _) := hide ((Below.heap_setCell _ _ _ _ NR.out.1).trans (blk_later RB.out hb8))
      have TD : Hid ((w8.setCell ⟨hb, 0, none⟩ v8).heap[W1.heap.size]? = _) := hide ((Below.heap_setCell _ _ _ _ NT.out.1).trans (blk_later TB.out hb8))
      have t0 : (w8.setCell ⟨hb, 0, none⟩ v8).cell? ⟨W1.heap.size, 0, none⟩ = some (.int .i64 x.1.1) := by rw [cell_of_row _ _ 0 _ _ _ TD.out]; rfl
      have t1 : (w8.setCell ⟨hb, 0, none⟩ v8).cell? ⟨W1.heap.size, 1, none⟩ = some (.int .i64 x.1.2) := by rw [cell_of_row _ _ 1 _ _ _ TD.out]; rfl
      subst hv8
      clear HB FB RB TB HLN cb0 hBW ho8 hb8 h8 HCP TD F5B
      go_wp2_with (refine wpList_store_row rfl 25 _ _ rfl w.heap.size #[.int .i64 x.1.1, .int .i64 x.1.2] rfl rfl _ _ RD.out Try.sizePr rfl (by simp [Value.oneCell']) ?_)
      have hE := out_end (cs := #[.int .i64 x.1.1, .int .i64 x.1.2]) HD.out FD.out (Nat.le_refl _) RD.out
      refine bodyPost_ret (v := pv x.1) ?_ rfl ⟨rfl, _, _, PD.out, KD.out, hE.1, hE.2⟩
      rw [results_cell_row rfl _ _ w.heap.size 25 #[.int .i64 x.1.1, .int .i64 x.1.2] (0, 0) _ rfl (setRow_heap _ _ _ _ _ _ RD.out) Try.underlying25 rfl Try.sizePr]
      rfl
    · have d2 : decide (4 * (l : Int) + 64 < (cap : Int)) = false := by rw [decide_eq_false_iff_not]; omega
      have HD := hide HB.out
      have FD := hide FB.out
      have RD := hide RB.out
      have TD := hide TB.out
      have t0 : (W4.setCell ⟨hb, 0, none⟩ (.slice (some ⟨g, 0, none⟩) l cap)).cell? ⟨W1.heap.size, 0, none⟩ = some (.int .i64 x.1.1) := by rw [cell_of_row _ _ 0 _ _ _ TD.out]; rfl
      have t1 : (W4.setCell ⟨hb, 0, none⟩ (.slice (some ⟨g, 0, none⟩) l cap)).cell? ⟨W1.heap.size, 1, none⟩ = some (.int .i64 x.1.2) := by rw [cell_of_row _ _ 1 _ _ _ TD.out]; rfl
      clear HB FB RB TB HLN
      go_wp2_with (first | (refine wpList_store_mid0 rfl 51 _ _ rfl rfl g (l * 3) (e3 (((0, 0), 0) : En)).toArray rfl rfl HT4.out Try.sizeEn (e3_all _) ?_; rw [hW4.out]) | (refine wpList_store_row rfl 25 _ _ rfl w.heap.size #[.int .i64 x.1.1, .int .i64 x.1.2] rfl rfl _ _ RD.out Try.sizePr rfl (by simp [Value.oneCell']) ?_))
      have hE := out_end (cs := #[.int .i64 x.1.1, .int .i64 x.1.2]) HD.out FD.out (Nat.le_refl _) RD.out
      refine bodyPost_ret (v := pv x.1) ?_ rfl ⟨rfl, _, _, PD.out, KD.out, hE.1, hE.2⟩
      rw [results_cell_row rfl _ _ w.heap.size 25 #[.int .i64 x.1.1, .int .i64 x.1.2] (0, 0) _ rfl (setRow_heap _ _ _ _ _ _ RD.out) Try.underlying25 rfl Try.sizePr]
      rfl
end Go.Proofs.Ytegemfkadclnkaa
