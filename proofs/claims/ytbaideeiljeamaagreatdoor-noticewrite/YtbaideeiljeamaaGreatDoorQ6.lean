/-
  My own text: QT, Q6 in one.
-/
import Derived.Test.YtbaideeiljeamaaGreatDoorQ4
import Derived.Test.YtbaideeiljeamaaGreatDoorGr0
import Derived.Deep.Quiet
import Derived.Test.YtbaideeiljeamaaGreatDoorQA
namespace Go.Proofs.YtbaideeiljeamaaGreatDoor.TG
open Go.RowKit

section
variable {P : Program} {ops : Array Oper} {md : Region.Mode} {C : World → Prop} {n : Nat} {L : Act → Prop}
/-- However the others come up: then L. -/
def anyT (P : Program) (md : Region.Mode) (ops : Array Oper) (C : World → Prop) (n : Nat) (L : Act → Prop) : Nat → Array Bool → Act → Prop
  | 0, ls, a => (Region.seqB md ops 1 n ls = true) ∧ L a
  | f + 1, ls, a => Region.ready md ops ls ≠ [] ∧ ∀ i ∈ Region.ready md ops ls, i < n ∧ qOp P ops C i (anyT P md ops C n L f (ls.setIfInBounds i true)) a
theorem anyT_sound {Q : Exit → Act → World → Prop} {o : Oper} (ho : ops[n]? = some o) (hn : ops.size = n + 1) (hL : ∀ a w, C w → L a → wpList P ops Q [o] a w) :
    ∀ (f : Nat) (ls : Array Bool) (a : Act) (w : World), C w → anyT P md ops C n L f ls a → wpAny P md ops Q (f + 1) ls a w
  | 0, ls, a, w, hw, h => by
    have := wpAny_of_seq (P := P) (md := md) (Q' := Q) [o] n ls a w (fun j => by
      cases j with
      | zero => simpa using ho.symm
      | succ j => rw [Array.getElem?_eq_none (by omega)]; rfl) (by simpa using h.1) (hL a w hw h.2)
    simpa using this
  | f + 1, ls, a, w, hw, h => ⟨fun h0 => absurd h0 h.1, fun i hi => wpOp_of_qOp hw (fun a' w' hw' h' => anyT_sound ho hn hL f _ a' w' hw' h') (h.2 i hi).2⟩
/-- One that may come up may be taken ahead. -/
theorem anyT_take {i : Nat} {oi : Oper} {v : Value} (hi : ops[i]? = some oi) (hsel : Region.noSelect ops = true) (hs : Region.sinkB md ops n = true) (hc : Region.chainB md ops n = true) (hn : n < ops.size) (hin : i < n) :
    ∀ (f : Nat) (ls : Array Bool) (a : Act), HeadInv md ops n ls →
      (∀ j oj, ops[j]? = some oj → j ≠ i → ls.getD j true = false → (∀ e ∈ oj.after, Region.binds md e = true → e.on ≠ i) → oi.apart ops oj = true) →
      i ∈ Region.ready md ops ls → YieldsIn P ops C oi v a → anyT P md ops C n L f (ls.setIfInBounds i true) (a.put oi.dst v) → anyT P md ops C n L (f + 1) ls a := by
  intro f
  induction f with
  | zero =>
    intro ls a inv _ hr hy H
    have hun := (mem_ready.1 hr).1
    refine ⟨List.ne_nil_of_mem hr, fun j hj => ?_⟩
    have hjn : j < n := Nat.lt_of_not_le fun h => tail_waits hs hc hn inv _ i rfl hin hun j h hj
    refine ⟨hjn, ?_⟩
    by_cases hji : j = i
    · subst hji; exact hy.qOp hi H
    · exact absurd (seqB_ready H.1 j (ready_mono hj hji)) (by omega)
  | succ f ih =>
    intro ls a inv hfree hr hy H
    have hun := (mem_ready.1 hr).1
    refine ⟨List.ne_nil_of_mem hr, fun j hj => ?_⟩
    have hjn : j < n := Nat.lt_of_not_le fun h => tail_waits hs hc hn inv _ i rfl hin hun j h hj
    refine ⟨hjn, ?_⟩
    by_cases hji : j = i
    · subst hji; exact hy.qOp hi H
    · have h1 := (H.2 j (ready_mono hj hji)).2
      obtain ⟨hjun, oj, hoj, hall⟩ := mem_ready.1 hj
      have hno : ∀ e ∈ oj.after, Region.binds md e = true → e.on ≠ i := by
        intro e he hb heq
        have h2 := hall e he hb
        rw [heq, getD_both hun] at h2
        exact absurd h2 (by decide)
      have hap := hfree j oj hoj hji hjun hno
      have h2 := qOp_put hoj hap (fun cs b => Region.noSelect_spec hsel i oi cs b hi) (fun cs b => Region.noSelect_spec hsel j oj cs b hoj) hy h1
      refine qOp_mono (fun a' h3 => ih (ls.setIfInBounds j true) a' (inv.set hj hjn) (fun k ok hk hki hku hkn => hfree k ok hk hki ?_ hkn) (ready_mono hr (Ne.symm hji)) h3.1 ?_) h2
      · by_cases hjk : j = k
        · subst hjk; exact hjun
        · rwa [getD_set_ne true hjk] at hku
      · rw [Array.setIfInBounds_comm _ _ hji]; exact h3.2
theorem anyT_lex (hsel : Region.noSelect ops = true) (hs : Region.sinkB md ops n = true) (hc : Region.chainB md ops n = true) (hn : n < ops.size) :
    ∀ (l : List Oper) (k : Nat) (ls : Array Bool) (a : Act), (∀ j, j < l.length → l[j]? = ops[k + j]?) → k + l.length = n → HeadInv md ops n ls →
    Region.lexHead md ops 1 l.length k ls = true → wpQuiet P ops C L l a → anyT P md ops C n L l.length ls a
  | [], k, ls, a, _, hk, _, hB, h => by
    obtain rfl : k = n := by simpa using hk
    exact ⟨by simpa [Region.lexHead] using hB, h⟩
  | o :: l, k, ls, a, hl, hk, inv, hB, h => by
    have h0 : ops[k]? = some o := by simpa using (hl 0 (by simp)).symm
    simp only [List.length_cons, Region.lexHead, Bool.and_eq_true] at hB
    rw [List.length_cons] at hk
    have hr : k ∈ Region.ready md ops ls := by simpa using hB.1.1
    have hq : qOp P ops C k (wpQuiet P ops C L l) a := by unfold qOp; simp only [h0]; exact h
    obtain ⟨v, hy, hK⟩ := yieldsIn_of_qOp h0 hq
    refine anyT_take h0 hsel hs hc hn (by omega) l.length ls a inv (Region.free_spec h0 hB.1.2) hr hy ?_
    refine anyT_lex hsel hs hc hn l (k + 1) _ _ (fun j hj => ?_) (by omega) (inv.set hr (by omega)) hB.2 hK
    have := hl (j + 1) (by simpa using hj)
    rw [show k + 1 + j = k + (j + 1) by omega, ← this]; rfl
end
/-- The others quiet in a class of worlds, then the last one. -/
theorem region_qtail {P : Program} {C : World → Prop} {id : Nat} {Q : Exit → Act → World → Prop} {a : Act} {w : World} {l : List Oper} (n : Nat) {o : Oper} (ho : l.toArray[n]? = some o) (hn : l.toArray.size = n + 1) (hm : P.follows .mixedOrders = true) (hB : Region.lexTailB .any l.toArray n = true) (hC : C w.drew)
    (h : wpQuiet P l.toArray C (fun a' => ∀ w', C w' → wpList P l.toArray Q [o] a' w') (l.take n) a) : (Code.region id l.toArray true).wp P Q a w := by
  simp only [Region.lexTailB, Bool.and_eq_true, decide_eq_true_eq] at hB
  obtain ⟨⟨⟨⟨hsel, hlt⟩, hs⟩, hc⟩, hlex⟩ := hB
  have htl : (l.take n).length = n := by simp at hn ⊢; omega
  have inv0 : HeadInv .any l.toArray n (Array.replicate l.toArray.size false) := ⟨by simp, fun j oj _ hl => (by rw [getD_replicate_false] at hl; cases hl), fun t _ ht => getD_in (by simpa using ht) (getD_replicate_false _ _)⟩
  have H := anyT_lex (P := P) (C := C) (L := fun a' => ∀ w', C w' → wpList P l.toArray Q [o] a' w') hsel hs hc hlt (l.take n) 0 (Array.replicate l.toArray.size false) a (fun j hj => by
    rw [htl] at hj; simp [hj]) (by omega) inv0 (by rw [htl]; rw [show l.toArray.size - n = 1 by omega] at hlex; exact hlex) h
  rw [htl] at H
  refine wp_region_any hm ?_
  have := anyT_sound ho hn (fun a w hw h => h w hw) n _ a w.drew hC H
  have e : wpAny P .any l.toArray Q l.toArray.size (Array.replicate l.toArray.size false) a w.drew := by rw [show wpAny P .any l.toArray Q l.toArray.size = wpAny P .any l.toArray Q (n + 1) by rw [hn]]; exact this
  exact e
end Go.Proofs.YtbaideeiljeamaaGreatDoor.TG
namespace Go.Proofs.YtbaideeiljeamaaGreatDoor.TG
open Go.RowKit

def SQ (B : Nat) (w : World) (v : Value) (g : Nat) : Prop := B ≤ g ∧ g < w.heap.size ∧ v.ownBlock ≠ some g
/-- The items read so far, a row of the call's own. -/
structure IW (w : World) (B : Nat) (v : Value) (l : List Tr) (V : List Value) : Prop where
  len : V.length = l.length
  row : w.ownsRow B 58 5 v l.length (ic l V)
  kids : ∀ (j : Nat) (a : Tr) (u : Value), l[j]? = some a → V[j]? = some u → PT w (SQ B w v) u a.kids
theorem IW.nil (w : World) (B : Nat) : IW w B (.slice none 0 0) [] [] := ⟨rfl, World.ownsRow_nil _ _ _ _, fun j a u h _ => by simp at h⟩
theorem IW.move {w w' : World} {B : Nat} {v : Value} {l : List Tr} {V : List Value} (h : IW w B v l V) (hs : w.heap.size ≤ w'.heap.size) (hb : ∀ g, B ≤ g → g < w.heap.size → w'.heap[g]? = w.heap[g]?) : IW w' B v l V :=
  ⟨h.len, owns_blkq h.row (fun g hg => hb g (own_ltq h.row g hg).1 (own_ltq h.row g hg).2), fun j a u h1 h2 => PT_kept (fun g hg hg2 => hb g hg.1 hg2) hs (fun _ hg _ => ⟨hg.1, Nat.lt_of_lt_of_le hg.2.1 hs, hg.2.2⟩) _ _ _ (Nat.le_refl _) (h.kids j a u h1 h2)⟩
theorem IW.later {w w' : World} {B : Nat} {v : Value} {l : List Tr} {V : List Value} (h : IW w B v l V) (hb : Below w.heap.size w w') : IW w' B v l V := h.move hb.size (fun g _ hg => hb.block g hg)
theorem IW.mv {w w' : World} {B p q : Nat} {v : Value} {l : List Tr} {V : List Value} (h : IW w B v l V) (hm : Mv p q w w') (hp : p < B) (hq : q < B) : IW w' B v l V := h.move hm.size (fun g hB hg => hm.block g hg (by omega) (by omega))
theorem IW.snoc {w w1 : World} {B lo : Nat} {v v' u : Value} {l : List Tr} {V : List Value} {a : Tr} (h : IW w B v l V) (hO : w1.ownsRow B 58 5 v' (l.length + 1) (ic l V ++ (iC a.itm u).toList)) (hg : ∀ x, x < w.heap.size → v.ownBlock ≠ some x → w1.heap[x]? = w.heap[x]?) (hs : w.heap.size ≤ w1.heap.size) (hr : ∀ x, v'.ownBlock = some x → v.ownBlock = some x ∨ w.heap.size ≤ x)
    (hlo : B ≤ lo) (hv : ∀ x, v.ownBlock = some x → x < lo) (hu : PT w (fun x => lo ≤ x ∧ x < w.heap.size) u a.kids) : IW w1 B v' (l ++ [a]) (V ++ [u]) := by
  have new : ∀ x, B ≤ x → x < w.heap.size → v.ownBlock ≠ some x → SQ B w1 v' x := fun x h1 h2 h3 => ⟨h1, by omega, fun e => by
    rcases hr x e with h | h
    · exact h3 h
    · omega⟩
  refine ⟨by simp [h.len], ?_, ?_⟩
  · rw [ic_snoc _ _ _ _ h.len.symm, List.length_append]; exact hO
  · intro j b x h1 h2
    by_cases hj : j < l.length
    · rw [List.getElem?_append_left hj] at h1
      rw [List.getElem?_append_left (by rw [h.len]; exact hj)] at h2
      exact PT_kept (fun g hg' hg2 => hg g hg2 hg'.2.2) hs (fun g hg' hg2 => new g hg'.1 hg2 hg'.2.2) _ _ _ (Nat.le_refl _) (h.kids j b x h1 h2)
    · rw [List.getElem?_append_right (by omega)] at h1
      rw [List.getElem?_append_right (by rw [h.len]; omega)] at h2
      have hj0 : j - l.length = 0 := by have := (List.getElem?_eq_some_iff.1 h1).1; simp at this; omega
      rw [hj0] at h1; rw [h.len, hj0] at h2
      simp at h1 h2; subst h1; subst h2
      exact PT_kept (fun g hg' hg2 => hg g hg2 (fun e => by have := hv g e; omega)) hs (fun g hg' hg2 => new g (by omega) hg2 (fun e => by have := hv g e; omega)) _ _ _ (Nat.le_refl _) hu
/-- What a reading ends with. -/
theorem IW.done {w : World} {B : Nat} {v : Value} {l : List Tr} {V : List Value} (h : IW w B v l V) : PT w (fun x => B ≤ x ∧ x < w.heap.size) v l := by
  rcases h.row.2 with ⟨rfl, h0⟩ | ⟨g, cap, cur, rfl, hb, hh, _⟩
  · have : l = [] := List.length_eq_zero_iff.1 h0
    subst this
    exact ⟨none, 0, rfl, .inl rfl⟩
  · have hlt := (Array.getElem?_eq_some_iff.1 hh).1
    refine ⟨_, _, rfl, .inr ⟨g, 0, rfl, hlt, ⟨hb, hlt⟩, PR_mk (fun k a hk => ?_)⟩⟩
    have hc : ∀ j u, (ic l V)[j]? = some u → w.cell? ⟨g, j, none⟩ = some u := fun j u hj => by
      have := World.ownsRow.cells h.row rfl j u hj
      rw [Addr.add_lit, Nat.zero_add] at this; exact this
    have hkl := (List.getElem?_eq_some_iff.1 hk).1
    obtain ⟨u, hu⟩ : ∃ u, V[k]? = some u := ⟨_, List.getElem?_eq_getElem (by rw [h.len]; exact hkl)⟩
    obtain ⟨e0, e1, e2, e3, e4⟩ := ic_at l V k a u hk hu
    rw [Nat.zero_add]
    exact PI_iff.2 ⟨hc _ _ e0, hc _ _ e1, hc _ _ e2, hc _ _ e3, u, hc _ _ e4, PT_kept (fun _ _ _ => rfl) (Nat.le_refl _) (fun x hx _ => ⟨hx.1, hx.2.1⟩) _ _ _ (Nat.le_refl _) (h.kids k a u hk hu)⟩
end Go.Proofs.YtbaideeiljeamaaGreatDoor.TG
