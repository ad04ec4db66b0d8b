/-
  My own text: QT2, QReg, QRz in one.
-/
import Derived.StillTailTactics
import Derived.Test.YtbaideeiljeamaaGreatDoorGr0
import Derived.Deep.Quiet
import Derived.Deep.RegionHeld3
namespace Go.Proofs.YtbaideeiljeamaaGreatDoor.TG
open Go.RowKit

section
variable {P : Program} {ops : Array Oper} {md : Region.Mode} {C : World → Prop} {n m : Nat} {L : Act → Prop}
/-- However the others come up: then L. -/
def anyU (P : Program) (md : Region.Mode) (ops : Array Oper) (C : World → Prop) (n m : Nat) (L : Act → Prop) : Nat → Array Bool → Act → Prop
  | 0, ls, a => (Region.seqB md ops (m + 1) n ls = true) ∧ L a
  | f + 1, ls, a => Region.ready md ops ls ≠ [] ∧ ∀ i ∈ Region.ready md ops ls, i < n ∧ qOp P ops C i (anyU P md ops C n m L f (ls.setIfInBounds i true)) a
theorem anyU_sound {Q : Exit → Act → World → Prop} {tl : List Oper} (ht : ∀ j, tl[j]? = ops[n + j]?) (hm : tl.length = m + 1) (hL : ∀ a w, C w → L a → wpList P ops Q tl a w) :
    ∀ (f : Nat) (ls : Array Bool) (a : Act) (w : World), C w → anyU P md ops C n m L f ls a → wpAny P md ops Q (f + (m + 1)) ls a w
  | 0, ls, a, w, hw, h => by
    have := wpAny_of_seq (P := P) (md := md) (Q' := Q) tl n ls a w ht (by rw [hm]; exact h.1) (hL a w hw h.2)
    rw [hm] at this
    simpa using this
  | f + 1, ls, a, w, hw, h => by
    rw [show f + 1 + (m + 1) = (f + (m + 1)) + 1 by omega]
    exact ⟨fun h0 => absurd h0 h.1, fun i hi => wpOp_of_qOp hw (fun a' w' hw' h' => anyU_sound ht hm hL f _ a' w' hw' h') (h.2 i hi).2⟩
/-- One that may come up may be taken ahead. -/
theorem anyU_take {i : Nat} {oi : Oper} {v : Value} (hi : ops[i]? = some oi) (hsel : Region.noSelect ops = true) (hs : Region.sinkB md ops n = true) (hc : Region.chainB md ops n = true) (hn : n < ops.size) (hin : i < n) :
    ∀ (f : Nat) (ls : Array Bool) (a : Act), HeadInv md ops n ls →
      (∀ j oj, ops[j]? = some oj → j ≠ i → ls.getD j true = false → (∀ e ∈ oj.after, Region.binds md e = true → e.on ≠ i) → oi.apart ops oj = true) →
      i ∈ Region.ready md ops ls → YieldsIn P ops C oi v a → anyU P md ops C n m L f (ls.setIfInBounds i true) (a.put oi.dst v) → anyU P md ops C n m L (f + 1) ls a := by
  intro f
  induction f with
  | zero =>
    intro ls a inv _ hr hy H
    have hun := (mem_ready.1 hr).1
    refine ⟨List.ne_nil_of_mem hr, fun j hj => ?_⟩
    have hjn : j < n := Nat.lt_of_not_le fun h => tail_waits hs hc hn inv _ i rfl hin hun j h hj
    refine ⟨hjn, ?_⟩
    by_cases hji : j = i
    · subst hji; exact hy.qOp hi H
    · exact absurd (seqB_ready H.1 j (ready_mono hj hji)) (by omega)
  | succ f ih =>
    intro ls a inv hfree hr hy H
    have hun := (mem_ready.1 hr).1
    refine ⟨List.ne_nil_of_mem hr, fun j hj => ?_⟩
    have hjn : j < n := Nat.lt_of_not_le fun h => tail_waits hs hc hn inv _ i rfl hin hun j h hj
    refine ⟨hjn, ?_⟩
    by_cases hji : j = i
    · subst hji; exact hy.qOp hi H
    · have h1 := (H.2 j (ready_mono hj hji)).2
      obtain ⟨hjun, oj, hoj, hall⟩ := mem_ready.1 hj
      have hno : ∀ e ∈ oj.after, Region.binds md e = true → e.on ≠ i := by
        intro e he hb heq
        have h2 := hall e he hb
        rw [heq, getD_both hun] at h2
        exact absurd h2 (by decide)
      have hap := hfree j oj hoj hji hjun hno
      have h2 := qOp_put hoj hap (fun cs b => Region.noSelect_spec hsel i oi cs b hi) (fun cs b => Region.noSelect_spec hsel j oj cs b hoj) hy h1
      refine qOp_mono (fun a' h3 => ih (ls.setIfInBounds j true) a' (inv.set hj hjn) (fun k ok hk hki hku hkn => hfree k ok hk hki ?_ hkn) (ready_mono hr (Ne.symm hji)) h3.1 ?_) h2
      · by_cases hjk : j = k
        · subst hjk; exact hjun
        · rwa [getD_set_ne true hjk] at hku
      · rw [Array.setIfInBounds_comm _ _ hji]; exact h3.2
theorem anyU_lex (hsel : Region.noSelect ops = true) (hs : Region.sinkB md ops n = true) (hc : Region.chainB md ops n = true) (hn : n < ops.size) :
    ∀ (l : List Oper) (k : Nat) (ls : Array Bool) (a : Act), (∀ j, j < l.length → l[j]? = ops[k + j]?) → k + l.length = n → HeadInv md ops n ls →
    Region.lexHead md ops (m + 1) l.length k ls = true → wpQuiet P ops C L l a → anyU P md ops C n m L l.length ls a
  | [], k, ls, a, _, hk, _, hB, h => by
    obtain rfl : k = n := by simpa using hk
    exact ⟨by simpa [Region.lexHead] using hB, h⟩
  | o :: l, k, ls, a, hl, hk, inv, hB, h => by
    have h0 : ops[k]? = some o := by simpa using (hl 0 (by simp)).symm
    simp only [List.length_cons, Region.lexHead, Bool.and_eq_true] at hB
    rw [List.length_cons] at hk
    have hr : k ∈ Region.ready md ops ls := by simpa using hB.1.1
    have hq : qOp P ops C k (wpQuiet P ops C L l) a := by unfold qOp; simp only [h0]; exact h
    obtain ⟨v, hy, hK⟩ := yieldsIn_of_qOp h0 hq
    refine anyU_take h0 hsel hs hc hn (by omega) l.length ls a inv (Region.free_spec h0 hB.1.2) hr hy ?_
    refine anyU_lex hsel hs hc hn l (k + 1) _ _ (fun j hj => ?_) (by omega) (inv.set hr (by omega)) hB.2 hK
    have := hl (j + 1) (by simpa using hj)
    rw [show k + 1 + j = k + (j + 1) by omega, ← this]; rfl
end
/-- The others quiet in a class of worlds, then the last ones. -/
theorem region_qtails {P : Program} {C : World → Prop} {id : Nat} {Q : Exit → Act → World → Prop} {a : Act} {w : World} {l : List Oper} (n m : Nat) (hn : l.length = n + (m + 1)) (hm : P.follows .mixedOrders = true) (hB : Region.lexTailB .any l.toArray n = true) (hC : C w.drew)
    (h : wpQuiet P l.toArray C (fun a' => ∀ w', C w' → wpList P l.toArray Q (l.drop n) a' w') (l.take n) a) : (Code.region id l.toArray true).wp P Q a w := by
  simp only [Region.lexTailB, Bool.and_eq_true, decide_eq_true_eq] at hB
  obtain ⟨⟨⟨⟨hsel, hlt⟩, hs⟩, hc⟩, hlex⟩ := hB
  have htl : (l.take n).length = n := by simp; omega
  have inv0 : HeadInv .any l.toArray n (Array.replicate l.toArray.size false) := ⟨by simp, fun j oj _ hl => (by rw [getD_replicate_false] at hl; cases hl), fun t _ ht => getD_in (by simpa using ht) (getD_replicate_false _ _)⟩
  have H := anyU_lex (P := P) (C := C) (m := m) (L := fun a' => ∀ w', C w' → wpList P l.toArray Q (l.drop n) a' w') hsel hs hc hlt (l.take n) 0 (Array.replicate l.toArray.size false) a (fun j hj => by
    rw [htl] at hj; simp [hj]) (by omega) inv0 (by rw [htl]; rw [show l.toArray.size - n = m + 1 by simp; omega] at hlex; exact hlex) h
  rw [htl] at H
  refine wp_region_any hm ?_
  have := anyU_sound (tl := l.drop n) (fun j => by simp [List.getElem?_drop]) (by simp; omega) (fun a w hw h => h w hw) n _ a w.drew hC H
  have e : wpAny P .any l.toArray Q l.toArray.size (Array.replicate l.toArray.size false) a w.drew := by rw [show l.toArray.size = n + (m + 1) by simpa using hn] at this ⊢; exact this
  exact e
end Go.Proofs.YtbaideeiljeamaaGreatDoor.TG
namespace Go.Proofs.YtbaideeiljeamaaGreatDoor.TG
open Go.RowKit

section
variable {P : Program} {ops : Array Oper} {Q : Exit → Act → World → Prop} {md : Region.Mode} {S : World → Prop}
/-- Taken first: what it yields lies in slot d. -/
theorem tk {fuel : Nat} {listed : Array Bool} {tmps : Array Value} {df : List Deferred} {w : World} {oi : Oper} {v : Value} (i d : Nat) (listed' : Array Bool) (hi : ops[i]? = some oi) (hd : oi.dst = some d)
    (hs : Region.noSelect ops = true) (hf : Region.free md ops listed i = true) (hr : (Region.ready md ops listed).contains i = true)
    (hQ : ∀ c a w, Q (.panic c) (a.put oi.dst v) w → Q (.panic c) a w) (hl : listed.setIfInBounds i true = listed')
    (hw : Region.wanted oi (yielded ops tmps) = true) (hy : ∀ w, S w → (execOp (Act.eval ⟨tmps, df⟩) oi).run P w = .ok (.value v) w) (hS : S w)
    (h : wpAnyH P md ops Q S fuel listed' ⟨tmps.setIfInBounds d v, df⟩ w) : wpAnyH P md ops Q S (fuel + 1) listed ⟨tmps, df⟩ w := by
  refine wpAnyH_take hi hs hf hr hQ (Or.inl ⟨hw, hy⟩) hS ?_
  rw [hl, hd]
  exact h
/-- Passed by: its guard says no. -/
theorem sk {fuel : Nat} {listed : Array Bool} {tmps : Array Value} {df : List Deferred} {w : World} {oi : Oper} (i d : Nat) (listed' : Array Bool) (hi : ops[i]? = some oi) (hd : oi.dst = some d)
    (hs : Region.noSelect ops = true) (hf : Region.free md ops listed i = true) (hr : (Region.ready md ops listed).contains i = true)
    (hQ : ∀ c a w, Q (.panic c) (a.put oi.dst undef) w → Q (.panic c) a w) (hl : listed.setIfInBounds i true = listed')
    (hw : Region.wanted oi (yielded ops tmps) = false) (hS : S w)
    (h : wpAnyH P md ops Q S fuel listed' ⟨tmps.setIfInBounds d undef, df⟩ w) : wpAnyH P md ops Q S (fuel + 1) listed ⟨tmps, df⟩ w := by
  refine wpAnyH_take hi hs hf hr hQ (Or.inr ⟨hw, rfl⟩) hS ?_
  rw [hl, hd]
  exact h
/-- The beginning, with the list of those that have come up written out. -/
theorem begins_held {id : Nat} {a : Act} {w : World} (fuel : Nat) (listed : Array Bool) (hm : P.follows .mixedOrders = true) (hf : ops.size = fuel) (hl : Array.replicate ops.size false = listed) (hS : S w.drew)
    (h : S w.drew → wpAnyH P .any ops Q S fuel listed a w.drew) : (Code.region id ops true).wp P Q a w := by
  subst hf hl
  exact wp_region_held_drew hm hS h
/-- The one that may come up, with the list written out. -/
theorem one_ready {fuel : Nat} {listed : Array Bool} {a : Act} {w : World} {oi : Oper} (i : Nat) (listed' : Array Bool) (hi : ops[i]? = some oi) (hr : Region.ready md ops listed = [i]) (hl : listed.setIfInBounds i true = listed')
    (hw : Region.wanted oi (yielded ops a.tmps) = true)
    (h : ∀ K' : Act → World → Prop, Shut (∀ a w, S w → (S w → wpAnyH P md ops Q S fuel listed' a w) → K' a w) → Oper.wp P oi a w K' Q) : wpAnyH P md ops Q S (fuel + 1) listed a w := by
  refine wpAnyH_ready hr (by simp) (AllReadyH.cons hi (fun K' hK => ?_) AllReadyH.nil)
  rw [if_pos hw]
  exact h K' (by rw [hl] at hK; exact hK)
end
end Go.Proofs.YtbaideeiljeamaaGreatDoor.TG
namespace Go.Proofs.YtbaideeiljeamaaGreatDoor.TG
open Go.RowKit

section
variable {P : Program} {ops : Array Oper} {Q : Exit → Act → World → Prop} {md : Region.Mode} {S : World → Prop} {z : Nat}
/-- In whatever order; S holds behind each one but z. -/
def anyZ (P : Program) (md : Region.Mode) (ops : Array Oper) (Q : Exit → Act → World → Prop) (S : World → Prop) (z : Nat) : Nat → Array Bool → Act → World → Prop
  | 0, ls, a, w => Region.ready md ops ls = [] ∧ Q .normal a w
  | f + 1, ls, a, w => (Region.ready md ops ls = [] → Q .normal a w) ∧ ∀ i ∈ Region.ready md ops ls, wpOp P ops Q i (fun a' w' => (i ≠ z → S w') ∧ anyZ P md ops Q S z f (ls.setIfInBounds i true) a' w') a w
theorem anyZ_any : ∀ (f : Nat) (ls : Array Bool) (a : Act) (w : World), anyZ P md ops Q S z f ls a w → wpAny P md ops Q f ls a w
  | 0, _, _, _, h => h
  | f + 1, _, _, _, h => ⟨h.1, fun i hi => wpOp_mono (fun a' w' h' => anyZ_any f _ a' w' h'.2) (h.2 i hi)⟩
/-- Does z wait for i? -/
def waitsB (md : Region.Mode) (ops : Array Oper) (z i : Nat) : Bool := match ops[z]? with
  | some o => o.after.any fun e => Region.binds md e && e.on == i
  | none => false
theorem waits_not {i : Nat} {ls : Array Bool} (h : waitsB md ops z i = true) (hi : ls.getD i true = false) : z ∉ Region.ready md ops ls := by
  intro hz
  obtain ⟨_, o, ho, hall⟩ := mem_ready.1 hz
  unfold waitsB at h
  rw [ho] at h
  dsimp only at h
  obtain ⟨k, hk, he⟩ := Array.any_iff_exists.1 h
  obtain ⟨hk2, he2⟩ := he
  rw [Bool.and_eq_true, beq_iff_eq] at he2
  have h1 := hall _ (Array.getElem_mem hk) he2.2.1
  rw [he2.2.2] at h1
  rcases Nat.lt_or_ge i ls.size with h' | h'
  · simp [h'] at hi h1; rw [hi] at h1; cases h1
  · simp [Array.getElem?_eq_none h'] at h1
theorem anyZ_first {i : Nat} {oi : Oper} {v : Value} (hi : ops[i]? = some oi) (hsel : ∀ (j : Nat) (o : Oper) cs b, ops[j]? = some o → o.op ≠ .select cs b) (hQ : ∀ c a w, Q (.panic c) (a.put oi.dst v) w → Q (.panic c) a w) (hz : waitsB md ops z i = true) :
    ∀ (f : Nat) (ls : Array Bool) (a : Act) (w : World), (∀ j oj, ops[j]? = some oj → j ≠ i → ls.getD j true = false → (∀ e ∈ oj.after, Region.binds md e = true → e.on ≠ i) → oi.apart ops oj = true) →
      i ∈ Region.ready md ops ls → YieldsIf P ops S oi v a → S w → anyZ P md ops Q S z f (ls.setIfInBounds i true) (a.put oi.dst v) w → anyZ P md ops Q S z (f + 1) ls a w := by
  intro f
  induction f with
  | zero =>
    intro ls a w _ hr hy hS H
    refine ⟨fun h => (by rw [h] at hr; cases hr), fun j hj => ?_⟩
    by_cases hji : j = i
    · subst hji; exact hy.wpOp hi hS ⟨fun _ => hS, H⟩
    · have := ready_mono hj hji
      rw [H.1] at this; cases this
  | succ f ih =>
    intro ls a w hfree hr hy hS H
    refine ⟨fun h => (by rw [h] at hr; cases hr), fun j hj => ?_⟩
    have hun := (mem_ready.1 hr).1
    by_cases hji : j = i
    · subst hji; exact hy.wpOp hi hS ⟨fun _ => hS, H⟩
    · have hjz : j ≠ z := fun e => waits_not hz hun (by rw [← e]; exact hj)
      have h1 := H.2 j (ready_mono hj hji)
      obtain ⟨hjun, oj, hoj, hall⟩ := mem_ready.1 hj
      have hno : ∀ e ∈ oj.after, Region.binds md e = true → e.on ≠ i := by
        intro e he hb heq
        have h2 := hall e he hb
        rw [heq] at h2
        rcases Nat.lt_or_ge i ls.size with h' | h'
        · simp [h'] at hun h2; rw [hun] at h2; cases h2
        · simp [Array.getElem?_eq_none h'] at h2
      have h2 := wpOp_putIf hoj (hfree j oj hoj hji hjun hno) (fun cs b => hsel i oi cs b hi) (fun cs b => hsel j oj cs b hoj) hQ hy h1
      refine wpOp_mono (fun a' w' h3 => ⟨fun _ => h3.2.1 hjz, ih (ls.setIfInBounds j true) a' w' (fun k ok hk hki hku hkn => hfree k ok hk hki ?_ hkn) (ready_mono hr (Ne.symm hji)) h3.1 (h3.2.1 hjz) ?_⟩) h2
      · by_cases hjk : j = k
        · subst hjk; exact hjun
        · rwa [getD_set_ne true hjk] at hku
      · rw [Array.setIfInBounds_comm _ _ hji]; exact h3.2.2
/-- Taken ahead: what it yields lies in slot d. -/
theorem zk {f : Nat} {ls : Array Bool} {tmps : Array Value} {df : List Deferred} {w : World} {oi : Oper} {v : Value} (i d : Nat) (ls' : Array Bool) (hi : ops[i]? = some oi) (hd : oi.dst = some d)
    (hs : Region.noSelect ops = true) (hf : Region.free md ops ls i = true) (hr : (Region.ready md ops ls).contains i = true) (hz : waitsB md ops z i = true)
    (hQ : ∀ c a w, Q (.panic c) (a.put oi.dst v) w → Q (.panic c) a w) (hl : ls.setIfInBounds i true = ls')
    (hw : Region.wanted oi (yielded ops tmps) = true) (hy : ∀ w, S w → (execOp (Act.eval ⟨tmps, df⟩) oi).run P w = .ok (.value v) w) (hS : S w)
    (h : anyZ P md ops Q S z f ls' ⟨tmps.setIfInBounds d v, df⟩ w) : anyZ P md ops Q S z (f + 1) ls ⟨tmps, df⟩ w := by
  refine anyZ_first hi (Region.noSelect_spec hs) hQ hz f ls _ w (Region.free_spec hi hf) (by simpa using hr) (Or.inl ⟨hw, hy⟩) hS ?_
  rw [hl, hd]; exact h
/-- The one that may come up. -/
theorem z_ready {f : Nat} {ls : Array Bool} {a : Act} {w : World} {oi : Oper} (i : Nat) (ls' : Array Bool) (hi : ops[i]? = some oi) (hr : Region.ready md ops ls = [i]) (hl : ls.setIfInBounds i true = ls')
    (hw : Region.wanted oi (yielded ops a.tmps) = true)
    (h : ∀ K' : Act → World → Prop, Shut (∀ a w, (i ≠ z → S w) → ((i ≠ z → S w) → anyZ P md ops Q S z f ls' a w) → K' a w) → Oper.wp P oi a w K' Q) : anyZ P md ops Q S z (f + 1) ls a w := by
  refine ⟨fun h0 => (by rw [hr] at h0; cases h0), fun j hj => ?_⟩
  rw [hr] at hj
  obtain rfl := List.mem_singleton.1 hj
  refine wpOp_step hi (fun K' hK => ?_)
  rw [if_pos hw]
  refine h K' (fun a w h1 h2 => hK a w ⟨h1, ?_⟩)
  rw [hl]; exact h2 h1
theorem z_done {ls : Array Bool} {a : Act} {w : World} (hr : Region.ready md ops ls = []) (h : Q .normal a w) : ∀ f, anyZ P md ops Q S z f ls a w
  | 0 => ⟨hr, h⟩
  | _ + 1 => ⟨fun _ => h, by rw [hr]; simp⟩
theorem z_begins {id : Nat} {a : Act} {w : World} (z f : Nat) (ls : Array Bool) (hm : P.follows .mixedOrders = true) (hf : ops.size = f) (hl : Array.replicate ops.size false = ls) (hS : S w.drew)
    (h : S w.drew → anyZ P .any ops Q S z f ls a w.drew) : (Code.region id ops true).wp P Q a w := by
  subst hf hl
  exact wp_region_any hm (anyZ_any _ _ _ _ (h hS))
end
end Go.Proofs.YtbaideeiljeamaaGreatDoor.TG
