/-
  My own text: a heap of texts: new; Len, Peek, Pop, Push (printed by mksa8.py).
-/
import Derived.Test.YtolmngjppnmkoaaSA7
namespace Go.Proofs.Ytolmngjppnmkoaa.SG
open Go.RowKit

set_option maxRecDepth 100000 in
set_option maxHeartbeats 1000000 in
theorem new_any (lf : FuncId) (B : Nat) (w : World) :
    Calls Try.prog 29 #[.func (Fn.func lf) #[] #[]] w fun e w' => e = .returned (.pointer (some ⟨w.heap.size + 1, 0, none⟩)) ∧ HP w' B (w.heap.size + 1) w.heap.size lf (.slice none 0 0) [] 0 ∧ Below w.heap.size w w' := by
  have hs : (w.alloc (.cells #[.func (Fn.func lf) #[] #[]] 57)).heap.size = w.heap.size + 1 := by simp
  have HH : Hid (HP ((w.alloc (.cells #[.func (Fn.func lf) #[] #[]] 57)).alloc (.cells #[.slice none 0 0, .func (Fn.func 49) #[] #[.pointer (some ⟨w.heap.size, 0, none⟩)], .int .i64 0] 85)) B (w.heap.size + 1) w.heap.size lf (.slice none 0 0) [] 0) := hide
    ⟨by rw [← hs]; exact alloc_new _ _, by rw [Below.heap_alloc _ _ _ (by simp)]; exact alloc_new w _, World.ownsRow_nil _ _ _ 2⟩
  have HB := hide (((Below.refl w.heap.size w).alloc (Nat.le_refl _) (.cells #[.func (Fn.func lf) #[] #[]] 57)).alloc (by simp) (.cells #[.slice none 0 0, .func (Fn.func 49) #[] #[.pointer (some ⟨w.heap.size, 0, none⟩)], .int .i64 0] 85))
  clear hs
  go_enter Try.func29, Try.ntmps29
  go_wp2_with fail
  go_ret
  exact ⟨rfl, HH.out, HB.out⟩
set_option maxRecDepth 100000 in
theorem len_any (B hb lb : Nat) (lf : FuncId) (v : Value) (E : List En) (N : Nat) (w : World) (h : HP w B hb lb lf v E N) :
    Calls Try.prog 33 #[.pointer (some ⟨hb, 0, none⟩)] w fun e w' => e = .returned (.int .i64 (E.length : Int)) ∧ w' = w := by
  have c0 := h.c0
  obtain ⟨a, cap, rfl, _⟩ := h.row.slc
  clear h
  go_enter Try.func33, Try.ntmps33
  go_wp2_with fail
  go_ret
  exact ⟨rfl, rfl⟩
set_option maxRecDepth 100000 in
set_option maxHeartbeats 1000000 in
theorem peek_no (B hb lb : Nat) (lf : FuncId) (v : Value) (N : Nat) (w : World) (h : HP w B hb lb lf v [] N) :
    Calls Try.prog 35 #[.pointer (some ⟨hb, 0, none⟩)] w fun e w' => e = .returned (.tuple #[pv [], .bool false]) ∧ Below w.heap.size w w' := by
  have c0 := h.c0
  obtain ⟨a, cap, hv, _⟩ := h.row.slc
  have hv' : v = .slice a 0 cap := hv
  subst hv'
  clear h hv
  go_enter Try.func35, Try.ntmps35
  go_wp2_with fail
  go_ret2
  exact ⟨rfl, Below.refl _ _⟩
set_option maxRecDepth 100000 in
set_option maxHeartbeats 1000000 in
theorem peek_yes (B hb lb : Nat) (lf : FuncId) (v : Value) (E : List En) (x : En) (N : Nat) (w : World) (h : HP w B hb lb lf v E N) (hx : E[0]? = some x) :
    Calls Try.prog 35 #[.pointer (some ⟨hb, 0, none⟩)] w fun e w' => e = .returned (.tuple #[pv x.1, .bool true]) ∧ Below w.heap.size w w' := by
  have hl := (List.getElem?_eq_some_iff.1 hx).1
  have c0 := h.c0
  have rx0 := h.row
  obtain ⟨g, cap, cur, rfl, hB, hh, hq⟩ := h.row.parts hl
  have rx := OE.range rx0 hx
  have x0 : w.cell? ⟨g, 0, none⟩ = some (.string ⟨x.1.toArray⟩) := rx 0 _ rfl
  have d1 : ((E.length : Int) == 0) = false := by rw [beq_eq_false_iff_ne]; omega
  have k0 : (0 : Int) < (E.length : Int) := by omega
  have k1 : ¬ E.length = 0 := by omega
  clear h rx hB hh hq hx cur rx0
  generalize E.length = n at *
  go_enter Try.func35, Try.ntmps35
  go_wp2_with fail
  go_ret2
  exact ⟨rfl, Below.refl _ _⟩
set_option maxRecDepth 100000 in
set_option maxHeartbeats 1000000 in
theorem pop_no (B hb lb : Nat) (lf : FuncId) (v : Value) (N : Nat) (w : World) (h : HP w B hb lb lf v [] N) :
    Calls Try.prog 36 #[.pointer (some ⟨hb, 0, none⟩)] w fun e w' => e = .returned (.tuple #[pv [], .bool false]) ∧ Below w.heap.size w w' := by
  have c0 := h.c0
  obtain ⟨a, cap, hv, _⟩ := h.row.slc
  have hv' : v = .slice a 0 cap := hv
  subst hv'
  clear h hv
  go_enter Try.func36, Try.ntmps36
  go_wp2_with fail
  go_ret2
  exact ⟨rfl, Below.refl _ _⟩
set_option maxRecDepth 100000 in
set_option maxHeartbeats 1000000 in
theorem pop_yes {lf : FuncId} {k : St → Int} (hl : LOk lf k) (x : En) (B hb lb : Nat) (v : Value) (E : List En) (N : Nat) (w : World) (h : HP w B hb lb lf v E N) (hk : HeapOk (ltE k) E) (hx : E[0]? = some x) (hlen : E.length ≤ 5864062014805) (hB : B ≤ w.heap.size) :
    Calls Try.prog 36 #[.pointer (some ⟨hb, 0, none⟩)] w fun e w' => e = .returned (.tuple #[pv x.1, .bool true]) ∧ ∃ v' E', (x :: E').Perm E ∧ HeapOk (ltE k) E' ∧ HP w' B hb lb lf v' E' N ∧ Fq w w' hb v v' := by
  have hl0 := (List.getElem?_eq_some_iff.1 hx).1
  have c0 := h.c0
  have HT := hide (takeOut_any hl 0 x B hb lb v E N w h hk hx hlen hB)
  obtain ⟨g, cap, cur, rfl, hB', hh, hq⟩ := h.row.parts hl0
  have d1 : ((E.length : Int) == 0) = false := by rw [beq_eq_false_iff_ne]; omega
  have k1 : ¬ E.length = 0 := by omega
  clear h hB' hh hq hx cur hk hl hlen hB hl0
  obtain ⟨n, hn⟩ : ∃ n, Hid (E.length = n) := ⟨_, hide rfl⟩
  rw [hn.out] at c0 HT d1 k1 ⊢
  go_enter Try.func36, Try.ntmps36
  go_wp2_with fail
  refine HT.out.mono ?_
  rintro e w2 ⟨rfl, v', E', h1, h2, h3, h4⟩
  have HE := hide (And.intro h1 (And.intro h2 (And.intro h3 h4)))
  clear h1 h2 h3 h4 HT
  unfold pv
  go_wp2_with fail
  go_ret2
  exact ⟨rfl, _, _, HE.out⟩
theorem HP.setn {w : World} {B hb lb : Nat} {lf : FuncId} {v : Value} {E : List En} {N M : Nat} (h : HP w B hb lb lf v E N) : HP (w.setCell ⟨hb, 2, none⟩ (.int .i64 (M : Int))) B hb lb lf v E M := by
  have e1 := setCell_eq_setRow w hb 2 _ _ _ (.int .i64 (M : Int)) h.hdr
  refine ⟨by rw [e1]; exact setRow_heap w hb _ _ _ _ h.hdr, ?_, owns_later h.row (fun g hg => Below.heap_setCell _ _ _ g (fun e => own_ne h.row h.hdr (by decide) (by rw [show hb = g from e.symm]; exact hg.symm)))⟩
  rw [Below.heap_setCell _ _ _ lb (fun e => by
    have h1 := h.les
    rw [show lb = hb from e, h.hdr] at h1
    injection h1 with h1; injection h1 with _ h1; exact absurd h1 (by decide))]
  exact h.les
set_option maxRecDepth 100000 in
set_option maxHeartbeats 4000000 in
theorem push_any {lf : FuncId} {k : St → Int} (hl : LOk lf k) (x : St) (B hb lb : Nat) (v : Value) (E : List En) (N : Nat) (w : World) (h : HP w B hb lb lf v E N) (hk : HeapOk (ltE k) E) (hlen : E.length < 5864062014805) (hN : N < 4611686018427387904) (hB : B ≤ w.heap.size) :
    Calls Try.prog 31 #[.pointer (some ⟨hb, 0, none⟩), pv x] w fun e w' => (∃ u, e = .returned u) ∧ ∃ v' E', E'.Perm (E ++ [(x, N)]) ∧ HeapOk (ltE k) E' ∧ HP w' B hb lb lf v' E' (N + 1) ∧ Fq w w' hb v v' := by
  unfold pv
  obtain ⟨i0, hi, hz0, hz1, hz2⟩ := info_parts Try.infoEnS
  obtain ⟨W2, hW2⟩ : ∃ W, Hid ((w.alloc (.cells #[.string ⟨x.toArray⟩, .int .i64 (N : Int)] 81)).drew = W) := ⟨_, hide rfl⟩
  have b2 : Below w.heap.size w W2 := by rw [← hW2.out]; exact ((Below.refl _ w).alloc (Nat.le_refl _) _).trans drew_below
  have l2 : W2.heap[w.heap.size]? = some (.cells #[.string ⟨x.toArray⟩, .int .i64 (N : Int)] 81 (0, 0)) := by rw [← hW2.out]; exact alloc_new w _
  have h2 := h.later b2
  obtain ⟨n, hn⟩ : ∃ n, Hid (E.length = n) := ⟨_, hide rfl⟩
  obtain ⟨v', W3, hrun, o3, g3, q3⟩ := (fun ty => run_append_own2 (P := Try.prog) W2 B 83 ty 81 i0 _ 2 24 Try.underlying83 hi hz0 hz1 hz2 rfl (by decide) v E.length (ec E) h2.row ⟨w.heap.size, 0, none⟩ 1 1 (e3 (x, N)) rfl (fun j u hj => by
      rw [Addr.add_lit, cell_of_row _ _ _ _ _ _ l2]
      match j, hj with
      | 0, hj => exact hj
      | 1, hj => exact hj) (by intro u hu; simp [e3] at hu; rcases hu with rfl | rfl <;> rfl) (by unfold maxLen; omega) (by omega) (by have := b2.size; omega)) 83
  have o3' : OE W3 B v' (E ++ [(x, N)]) := by
    unfold OE
    rw [List.length_append, ec_app]; exact o3
  have hhd : some hb ≠ v.ownBlock := own_ne h2.row h2.hdr (by decide)
  have hd3 := (g3.block hb (blk_lt h2.hdr) hhd).trans h2.hdr
  have le3 := (g3.block lb (blk_lt h2.les) (own_ne h2.row h2.les (by decide))).trans h2.les
  obtain ⟨W4, hW4⟩ : ∃ W, Hid (W3.setCell ⟨hb, 0, none⟩ v' = W) := ⟨_, hide rfl⟩
  -- the heap in W3, its old header with the new row's owner
  have h4 : HP W4 B hb lb lf v' (E ++ [(x, N)]) N := by
    rw [← hW4.out]
    have e1 := setCell_eq_setRow W3 hb 0 _ _ _ v' hd3
    refine ⟨by rw [e1]; exact setRow_heap W3 hb _ _ _ _ hd3, ?_, owns_later o3' (fun g hg => Below.heap_setCell _ _ _ g (fun e => own_ne o3' hd3 (by decide) (by rw [show hb = g from e.symm]; exact hg.symm)))⟩
    rw [Below.heap_setCell _ _ _ lb (fun e => by
      have h1 := le3
      rw [show lb = hb from e, hd3] at h1
      injection h1 with h1; injection h1 with _ h1; exact absurd h1 (by decide))]
    exact le3
  obtain ⟨W5, hW5⟩ : ∃ W, Hid (W4.setCell ⟨hb, 2, none⟩ (.int .i64 ((N : Int) + 1)) = W) := ⟨_, hide rfl⟩
  have h5 : HP W5 B hb lb lf v' (E ++ [(x, N)]) (N + 1) := by rw [← hW5.out]; exact h4.setn (M := N + 1)
  have f5 : Fq w W5 hb v v' := by
    have q1 : Fq w W2 hb v v := Fq.of_below b2
    have q2 : Fq W2 W3 hb v v := Fq.of_gb g3
    have q4 : Fq W2 W4 hb v v' := ⟨by rw [← hW4.out]; exact g3.os, by rw [← hW4.out]; exact g3.tape, by rw [← hW4.out]; exact g3.output, by rw [← hW4.out, (setCell_rest W3 _ v').2.2.2]; exact g3.size, fun g hg a1 a2 => by rw [← hW4.out]; exact (Below.heap_setCell _ _ _ g a1).trans (g3.block g hg a2), q3⟩
    have q5 : Fq W4 W5 hb v' v' := by rw [← hW5.out]; exact Fq.hdr _ (fun q hq => .inl hq)
    exact (q1.trans q4).trans q5
  obtain ⟨u1, u2⟩ := push_hole hk (x, N)
  have HRI := hide (rise_any hl E.length B hb lb v' _ (N + 1) W5 h5 (by simp) u1 (by simp; omega))
  rw [hn.out] at HRI u2
  have HU2 := hide u2
  have F5 := hide f5
  obtain ⟨a', cap', hv', _⟩ := h5.row.slc
  obtain ⟨m, hm⟩ : ∃ m : Nat, Hid ((E ++ [(x, N)]).length = m) := ⟨_, hide rfl⟩
  rw [hm.out] at hv'
  obtain ⟨a, cap, hv, _⟩ := h.row.slc
  rw [hn.out] at hv
  have c5 := h5.c0
  have c42 := h4.c2
  have f4 : W4.frozen? ⟨hb, 2, none⟩ = false := by unfold World.frozen?; simp [h4.hdr]
  have f3 : W3.frozen? ⟨hb, 0, none⟩ = false := by unfold World.frozen?; simp [hd3]
  have c3 : W3.cell? ⟨hb, 0, none⟩ = some v := by rw [cell_of_row _ _ 0 _ _ _ hd3]; rfl
  have hS : ∀ W : World, W.heap[hb]? = some (.cells #[v, .func (Fn.func 49) #[] #[.pointer (some ⟨lb, 0, none⟩)], .int .i64 (N : Int)] 85 (0, 0)) → W.cell? ⟨hb, 0, none⟩ = some v ∧ W.cell? ⟨hb, 2, none⟩ = some (.int .i64 (N : Int)) := fun W e1 =>
    ⟨by rw [cell_of_row _ _ 0 _ _ _ e1]; rfl, by rw [cell_of_row _ _ 2 _ _ _ e1]; rfl⟩
  have hHeld := hide (hS w.drew h.hdr)
  have HS2 := hide (hS W2 h2.hdr)
  have HS3 := hide (hS W3 hd3)
  have HRUN : Hid (∀ ty, (Builtin.append_ #[83, 83] ty #[v, .slice (some ⟨w.heap.size, 0, none⟩) 1 1]).run Try.prog W2 = .ok v' W3) := hide (fun ty => hrun)
  have wN : wrap64 ((N : Int) + 1) = (N : Int) + 1 := by unfold wrap64; omega
  have wm : wrap64 ((m : Int) - 1) = (n : Int) := by
    have h1 := hm.out
    have h2 := hn.out
    rw [List.length_append] at h1
    have h3 : E.length + 1 = m := h1
    unfold wrap64; omega
  subst hv
  subst hv'
  have e5 := hW5.out
  clear hW5
  subst e5
  clear h h2 h4 h5 b2 l2 o3 o3' g3 q3 hhd hd3 le3 f5 hk hl hlen hN hB u1 u2 hS hrun hi hz0 hz1 hz2 i0
  go_enter Try.func31, Try.ntmps31
  go_wp2_with fail
  refine s_begins (S := fun W => W.cell? ⟨hb, 0, none⟩ = some (.slice a n cap) ∧ W.cell? ⟨hb, 2, none⟩ = some (.int .i64 (N : Int))) [15] 16 #[false, false, false, false, false, false, false, false, false, false, false, false, false, false, false, false] (by kernel_rfl) (by kernel_rfl) (by kernel_rfl) ?_
  refine sk0 (v := ?_) 0 4 #[true, false, false, false, false, false, false, false, false, false, false, false, false, false, false, false] rfl rfl (by kernel_rfl) (by kernel_rfl) (by kernel_rfl) (by kernel_rfl) (fun _ _ _ h => h) (by kernel_rfl) (by rfl) ?hy (fun _ => hHeld.out) ?_
  case hy => intro W; first | (go_simp; done) | (go_simp; with_reducible rfl)
  simp only [List.setIfInBounds_toArray, List.set_cons_zero, List.set_cons_succ]
  refine sk0 (v := ?_) 1 5 #[true, true, false, false, false, false, false, false, false, false, false, false, false, false, false, false] rfl rfl (by kernel_rfl) (by kernel_rfl) (by kernel_rfl) (by kernel_rfl) (fun _ _ _ h => h) (by kernel_rfl) (by rfl) ?hy (fun _ => hHeld.out) ?_
  case hy => intro W; first | (go_simp; done) | (go_simp; with_reducible rfl)
  simp only [List.setIfInBounds_toArray, List.set_cons_zero, List.set_cons_succ]
  refine sk0 (v := ?_) 2 6 #[true, true, true, false, false, false, false, false, false, false, false, false, false, false, false, false] rfl rfl (by kernel_rfl) (by kernel_rfl) (by kernel_rfl) (by kernel_rfl) (fun _ _ _ h => h) (by kernel_rfl) (by rfl) ?hy (fun _ => hHeld.out) ?_
  case hy => intro W; first | (go_simp; done) | (go_simp; with_reducible rfl)
  simp only [List.setIfInBounds_toArray, List.set_cons_zero, List.set_cons_succ]
  refine sk0 (v := ?_) 3 7 #[true, true, true, true, false, false, false, false, false, false, false, false, false, false, false, false] rfl rfl (by kernel_rfl) (by kernel_rfl) (by kernel_rfl) (by kernel_rfl) (fun _ _ _ h => h) (by kernel_rfl) (by rfl) ?hy (fun _ => hHeld.out) ?_
  case hy => intro W; first | (go_simp; done) | (go_simp; with_reducible rfl)
  simp only [List.setIfInBounds_toArray, List.set_cons_zero, List.set_cons_succ]
  refine sk1 (v := ?_) 4 8 #[true, true, true, true, true, false, false, false, false, false, false, false, false, false, false, false] rfl rfl (by kernel_rfl) (by kernel_rfl) (by kernel_rfl) (by kernel_rfl) (by kernel_rfl) (by kernel_rfl) (fun _ _ _ h => h) (by kernel_rfl) (by rfl) ?hy hHeld.out ?_
  case hy => rintro W ⟨e1, e2⟩; first | (go_simp; done) | (go_simp; with_reducible rfl)
  simp only [List.setIfInBounds_toArray, List.set_cons_zero, List.set_cons_succ]
  refine sk0 (v := ?_) 5 9 #[true, true, true, true, true, true, false, false, false, false, false, false, false, false, false, false] rfl rfl (by kernel_rfl) (by kernel_rfl) (by kernel_rfl) (by kernel_rfl) (fun _ _ _ h => h) (by kernel_rfl) (by rfl) ?hy (fun _ => hHeld.out) ?_
  case hy => intro W; first | (go_simp; done) | (go_simp; with_reducible rfl)
  simp only [List.setIfInBounds_toArray, List.set_cons_zero, List.set_cons_succ]
  refine sk0 (v := ?_) 6 10 #[true, true, true, true, true, true, true, false, false, false, false, false, false, false, false, false] rfl rfl (by kernel_rfl) (by kernel_rfl) (by kernel_rfl) (by kernel_rfl) (fun _ _ _ h => h) (by kernel_rfl) (by rfl) ?hy (fun _ => hHeld.out) ?_
  case hy => intro W; first | (go_simp; done) | (go_simp; with_reducible rfl)
  simp only [List.setIfInBounds_toArray, List.set_cons_zero, List.set_cons_succ]
  refine sk0 (v := ?_) 7 11 #[true, true, true, true, true, true, true, true, false, false, false, false, false, false, false, false] rfl rfl (by kernel_rfl) (by kernel_rfl) (by kernel_rfl) (by kernel_rfl) (fun _ _ _ h => h) (by kernel_rfl) (by rfl) ?hy (fun _ => hHeld.out) ?_
  case hy => intro W; first | (go_simp; done) | (go_simp; with_reducible rfl)
  simp only [List.setIfInBounds_toArray, List.set_cons_zero, List.set_cons_succ]
  refine sk0 (v := ?_) 8 12 #[true, true, true, true, true, true, true, true, true, false, false, false, false, false, false, false] rfl rfl (by kernel_rfl) (by kernel_rfl) (by kernel_rfl) (by kernel_rfl) (fun _ _ _ h => h) (by kernel_rfl) (by rfl) ?hy (fun _ => hHeld.out) ?_
  case hy => intro W; first | (go_simp; done) | (go_simp; with_reducible rfl)
  simp only [List.setIfInBounds_toArray, List.set_cons_zero, List.set_cons_succ]
  refine sk1 (v := ?_) 9 13 #[true, true, true, true, true, true, true, true, true, true, false, false, false, false, false, false] rfl rfl (by kernel_rfl) (by kernel_rfl) (by kernel_rfl) (by kernel_rfl) (by kernel_rfl) (by kernel_rfl) (fun _ _ _ h => h) (by kernel_rfl) (by rfl) ?hy hHeld.out ?_
  case hy => rintro W ⟨e1, e2⟩; first | (go_simp; done) | (go_simp; with_reducible rfl)
  simp only [List.setIfInBounds_toArray, List.set_cons_zero, List.set_cons_succ]
  refine sk0 (v := ?_) 10 14 #[true, true, true, true, true, true, true, true, true, true, true, false, false, false, false, false] rfl rfl (by kernel_rfl) (by kernel_rfl) (by kernel_rfl) (by kernel_rfl) (fun _ _ _ h => h) (by kernel_rfl) (by rfl) ?hy (fun _ => hHeld.out) ?_
  case hy => intro W; first | (go_simp; done) | (go_simp; with_reducible rfl)
  simp only [List.setIfInBounds_toArray, List.set_cons_zero, List.set_cons_succ]
  refine s_ready 11 #[true, true, true, true, true, true, true, true, true, true, true, true, false, false, false, false] rfl (by kernel_rfl) (by kernel_rfl) (by rfl) (fun K hK => ?_)
  go_simp
  rw [hW2.out]
  refine hK.out _ _ (fun _ => HS2.out) ?_
  clear hK K
  refine s_ready 12 #[true, true, true, true, true, true, true, true, true, true, true, true, true, false, false, false] rfl (by kernel_rfl) (by kernel_rfl) (by rfl) (fun K hK => ?_)
  refine op_append_gen _ _ rfl (.slice a n cap) ⟨w.heap.size, 0, none⟩ 1 1 rfl rfl _ W3 (HRUN.out _) ?_
  simp only [Act.put, List.setIfInBounds_toArray]
  refine hK.out _ _ (fun _ => HS3.out) ?_
  clear hK K
  refine s_ready 13 #[true, true, true, true, true, true, true, true, true, true, true, true, true, true, false, false] rfl (by kernel_rfl) (by kernel_rfl) (by rfl) (fun K hK => ?_)
  go_simp
  refine hK.out _ _ (fun _ => HS3.out) ?_
  clear hK K
  refine s_ready 14 #[true, true, true, true, true, true, true, true, true, true, true, true, true, true, true, false] rfl (by kernel_rfl) (by kernel_rfl) (by rfl) (fun K hK => ?_)
  go_simp
  refine hK.out _ _ (fun _ => HS3.out) ?_
  clear hK K
  refine s_ready 15 #[true, true, true, true, true, true, true, true, true, true, true, true, true, true, true, true] rfl (by kernel_rfl) (by kernel_rfl) (by rfl) (fun K hK => ?_)
  go_simp
  rw [hW4.out]
  refine hK.out _ _ (fun h => absurd h (by decide)) ?_
  clear hK K
  refine s_done (by kernel_rfl) ?_ _
  go_wp2_with fail
  refine HRI.out.mono ?_
  rintro e w6 ⟨q, E6, rfl, q1, q2, q3, q4, q5, q6⟩
  have HE : Hid (E6.Perm (E ++ [(x, N)]) ∧ HeapOk (ltE k) E6 ∧ HP w6 B hb lb lf _ E6 (N + 1) ∧ Fq w w6 hb _ _) := hide ⟨q2, q4 HU2.out, q5, F5.out.trans (Fq.of_gb q6)⟩
  clear q1 q2 q3 q4 q5 q6 HRI
  go_wp2_with fail
  refine bodyPost_end (results_none rfl _ _ _) rfl ?_
  exact ⟨⟨_, rfl⟩, _, _, HE.out⟩
end Go.Proofs.Ytolmngjppnmkoaa.SG
