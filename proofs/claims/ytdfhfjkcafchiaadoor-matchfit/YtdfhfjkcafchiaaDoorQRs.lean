/-
  My own text: a drawn region with several stores at its end: what is asked of the world is asked as long as none of them has come; what reads no memory may be taken at any time.
-/
import Derived.Test.YtdfhfjkcafchiaaDoorQRz
namespace Go.Proofs.YtdfhfjkcafchiaaDoor
open Go.RowKit

section
variable {P : Program} {ops : Array Oper} {Q : Exit → Act → World → Prop} {md : Region.Mode} {S : World → Prop} {zs : List Nat}
/-- None of them has come. -/
def unl (zs : List Nat) (ls : Array Bool) : Bool := zs.all fun z => !ls.getD z true
theorem unl_set {ls : Array Bool} {j : Nat} (hj : j ∉ zs) : unl zs (ls.setIfInBounds j true) = unl zs ls := by
  unfold unl
  rw [Bool.eq_iff_iff, List.all_eq_true, List.all_eq_true]
  have e : ∀ z ∈ zs, (ls.setIfInBounds j true).getD z true = ls.getD z true := fun z hz => getD_set_ne true (fun e => hj (e ▸ hz))
  exact ⟨fun h z hz => by rw [← e z hz]; exact h z hz, fun h z hz => by rw [e z hz]; exact h z hz⟩
def anyS (P : Program) (md : Region.Mode) (ops : Array Oper) (Q : Exit → Act → World → Prop) (S : World → Prop) (zs : List Nat) : Nat → Array Bool → Act → World → Prop
  | 0, ls, a, w => Region.ready md ops ls = [] ∧ Q .normal a w
  | f + 1, ls, a, w => (Region.ready md ops ls = [] → Q .normal a w) ∧ ∀ i ∈ Region.ready md ops ls, wpOp P ops Q i (fun a' w' => (unl zs (ls.setIfInBounds i true) = true → S w') ∧ anyS P md ops Q S zs f (ls.setIfInBounds i true) a' w') a w
theorem anyS_any : ∀ (f : Nat) (ls : Array Bool) (a : Act) (w : World), anyS P md ops Q S zs f ls a w → wpAny P md ops Q f ls a w
  | 0, _, _, _, h => h
  | f + 1, _, _, _, h => ⟨h.1, fun i hi => wpOp_mono (fun a' w' h' => anyS_any f _ a' w' h'.2) (h.2 i hi)⟩
theorem anyS_first {i : Nat} {oi : Oper} {v : Value} (hi : ops[i]? = some oi) (hsel : ∀ (j : Nat) (o : Oper) cs b, ops[j]? = some o → o.op ≠ .select cs b) (hQ : ∀ c a w, Q (.panic c) (a.put oi.dst v) w → Q (.panic c) a w) (hz : zs.all (fun z => waitsB md ops z i) = true) (hiz : i ∉ zs) :
    ∀ (f : Nat) (ls : Array Bool) (a : Act) (w : World), (∀ j oj, ops[j]? = some oj → j ≠ i → ls.getD j true = false → (∀ e ∈ oj.after, Region.binds md e = true → e.on ≠ i) → oi.apart ops oj = true) →
      i ∈ Region.ready md ops ls → YieldsIf P ops S oi v a → unl zs ls = true → S w → anyS P md ops Q S zs f (ls.setIfInBounds i true) (a.put oi.dst v) w → anyS P md ops Q S zs (f + 1) ls a w := by
  intro f
  induction f with
  | zero =>
    intro ls a w _ hr hy _ hS H
    refine ⟨fun h => (by rw [h] at hr; cases hr), fun j hj => ?_⟩
    by_cases hji : j = i
    · subst hji; exact hy.wpOp hi hS ⟨fun _ => hS, H⟩
    · have := ready_mono hj hji
      rw [H.1] at this; cases this
  | succ f ih =>
    intro ls a w hfree hr hy hu hS H
    refine ⟨fun h => (by rw [h] at hr; cases hr), fun j hj => ?_⟩
    have hun := (mem_ready.1 hr).1
    by_cases hji : j = i
    · subst hji; exact hy.wpOp hi hS ⟨fun _ => hS, H⟩
    · have hjz : j ∉ zs := fun e => waits_not (List.all_eq_true.1 hz j e) hun hj
      have h1 := H.2 j (ready_mono hj hji)
      obtain ⟨hjun, oj, hoj, hall⟩ := mem_ready.1 hj
      have hno : ∀ e ∈ oj.after, Region.binds md e = true → e.on ≠ i := by
        intro e he hb heq
        have h2 := hall e he hb
        rw [heq] at h2
        rcases Nat.lt_or_ge i ls.size with h' | h'
        · simp [h'] at hun h2; rw [hun] at h2; cases h2
        · simp [Array.getElem?_eq_none h'] at h2
      have h2 := wpOp_putIf hoj (hfree j oj hoj hji hjun hno) (fun cs b => hsel i oi cs b hi) (fun cs b => hsel j oj cs b hoj) hQ hy h1
      refine wpOp_mono (fun a' w' h3 => ?_) h2
      have hS' : S w' := h3.2.1 (by rw [unl_set hjz, unl_set hiz]; exact hu)
      refine ⟨fun _ => hS', ih (ls.setIfInBounds j true) a' w' (fun k ok hk hki hku hkn => hfree k ok hk hki ?_ hkn) (ready_mono hr (Ne.symm hji)) h3.1 (by rw [unl_set hjz]; exact hu) hS' ?_⟩
      · by_cases hjk : j = k
        · subst hjk; exact hjun
        · rwa [getD_set_ne true hjk] at hku
      · rw [Array.setIfInBounds_comm _ _ hji]; exact h3.2.2
/-- What reads no memory. -/
theorem anyS_pure {i : Nat} {oi : Oper} {v : Value} (hi : ops[i]? = some oi) (hsel : ∀ (j : Nat) (o : Oper) cs b, ops[j]? = some o → o.op ≠ .select cs b) (hQ : ∀ c a w, Q (.panic c) (a.put oi.dst v) w → Q (.panic c) a w) (hiz : i ∉ zs) :
    ∀ (f : Nat) (ls : Array Bool) (a : Act) (w : World), (∀ j oj, ops[j]? = some oj → j ≠ i → ls.getD j true = false → (∀ e ∈ oj.after, Region.binds md e = true → e.on ≠ i) → oi.apart ops oj = true) →
      i ∈ Region.ready md ops ls → YieldsIf P ops (fun _ => True) oi v a → (unl zs ls = true → S w) → anyS P md ops Q S zs f (ls.setIfInBounds i true) (a.put oi.dst v) w → anyS P md ops Q S zs (f + 1) ls a w := by
  intro f
  induction f with
  | zero =>
    intro ls a w _ hr hy hS H
    refine ⟨fun h => (by rw [h] at hr; cases hr), fun j hj => ?_⟩
    by_cases hji : j = i
    · subst hji; exact hy.wpOp hi trivial ⟨fun e => hS (by rw [← e, unl_set hiz]), H⟩
    · have := ready_mono hj hji
      rw [H.1] at this; cases this
  | succ f ih =>
    intro ls a w hfree hr hy hS H
    refine ⟨fun h => (by rw [h] at hr; cases hr), fun j hj => ?_⟩
    have hun := (mem_ready.1 hr).1
    by_cases hji : j = i
    · subst hji; exact hy.wpOp hi trivial ⟨fun e => hS (by rw [← e, unl_set hiz]), H⟩
    · have h1 := H.2 j (ready_mono hj hji)
      obtain ⟨hjun, oj, hoj, hall⟩ := mem_ready.1 hj
      have hno : ∀ e ∈ oj.after, Region.binds md e = true → e.on ≠ i := by
        intro e he hb heq
        have h2 := hall e he hb
        rw [heq] at h2
        rcases Nat.lt_or_ge i ls.size with h' | h'
        · simp [h'] at hun h2; rw [hun] at h2; cases h2
        · simp [Array.getElem?_eq_none h'] at h2
      have h2 := wpOp_putIf (S := fun _ => True) hoj (hfree j oj hoj hji hjun hno) (fun cs b => hsel i oi cs b hi) (fun cs b => hsel j oj cs b hoj) hQ hy h1
      refine wpOp_mono (fun a' w' h3 => ?_) h2
      have hS' : unl zs (ls.setIfInBounds j true) = true → S w' := fun e => h3.2.1 (by rw [← Array.setIfInBounds_comm _ _ hji, unl_set hiz]; exact e)
      refine ⟨hS', ih (ls.setIfInBounds j true) a' w' (fun k ok hk hki hku hkn => hfree k ok hk hki ?_ hkn) (ready_mono hr (Ne.symm hji)) h3.1 hS' ?_⟩
      · by_cases hjk : j = k
        · subst hjk; exact hjun
        · rwa [getD_set_ne true hjk] at hku
      · rw [Array.setIfInBounds_comm _ _ hji]; exact h3.2.2
/-- Taken ahead: what it yields lies in slot d. -/
theorem sk1 {f : Nat} {ls : Array Bool} {tmps : Array Value} {df : List Deferred} {w : World} {oi : Oper} {v : Value} (i d : Nat) (ls' : Array Bool) (hi : ops[i]? = some oi) (hd : oi.dst = some d)
    (hs : Region.noSelect ops = true) (hf : Region.free md ops ls i = true) (hr : (Region.ready md ops ls).contains i = true) (hz : zs.all (fun z => waitsB md ops z i) = true) (hiz : zs.contains i = false) (hu : unl zs ls = true)
    (hQ : ∀ c a w, Q (.panic c) (a.put oi.dst v) w → Q (.panic c) a w) (hl : ls.setIfInBounds i true = ls')
    (hw : Region.wanted oi (yielded ops tmps) = true) (hy : ∀ w, S w → (execOp (Act.eval ⟨tmps, df⟩) oi).run P w = .ok (.value v) w) (hS : S w)
    (h : anyS P md ops Q S zs f ls' ⟨tmps.setIfInBounds d v, df⟩ w) : anyS P md ops Q S zs (f + 1) ls ⟨tmps, df⟩ w := by
  refine anyS_first hi (Region.noSelect_spec hs) hQ hz (fun e => by rw [List.contains_iff_mem.2 e] at hiz; cases hiz) f ls _ w (Region.free_spec hi hf) (by simpa using hr) (Or.inl ⟨hw, hy⟩) hu hS ?_
  rw [hl, hd]; exact h
theorem sk0 {f : Nat} {ls : Array Bool} {tmps : Array Value} {df : List Deferred} {w : World} {oi : Oper} {v : Value} (i d : Nat) (ls' : Array Bool) (hi : ops[i]? = some oi) (hd : oi.dst = some d)
    (hs : Region.noSelect ops = true) (hf : Region.free md ops ls i = true) (hr : (Region.ready md ops ls).contains i = true) (hiz : zs.contains i = false)
    (hQ : ∀ c a w, Q (.panic c) (a.put oi.dst v) w → Q (.panic c) a w) (hl : ls.setIfInBounds i true = ls')
    (hw : Region.wanted oi (yielded ops tmps) = true) (hy : ∀ w, (execOp (Act.eval ⟨tmps, df⟩) oi).run P w = .ok (.value v) w) (hS : unl zs ls = true → S w)
    (h : anyS P md ops Q S zs f ls' ⟨tmps.setIfInBounds d v, df⟩ w) : anyS P md ops Q S zs (f + 1) ls ⟨tmps, df⟩ w := by
  refine anyS_pure hi (Region.noSelect_spec hs) hQ (fun e => by rw [List.contains_iff_mem.2 e] at hiz; cases hiz) f ls _ w (Region.free_spec hi hf) (by simpa using hr) (Or.inl ⟨hw, fun w _ => hy w⟩) hS ?_
  rw [hl, hd]; exact h
/-- Passed by: its guard says no. -/
theorem sk2 {f : Nat} {ls : Array Bool} {tmps : Array Value} {df : List Deferred} {w : World} {oi : Oper} (i d : Nat) (ls' : Array Bool) (hi : ops[i]? = some oi) (hd : oi.dst = some d)
    (hs : Region.noSelect ops = true) (hf : Region.free md ops ls i = true) (hr : (Region.ready md ops ls).contains i = true) (hiz : zs.contains i = false)
    (hQ : ∀ c a w, Q (.panic c) (a.put oi.dst undef) w → Q (.panic c) a w) (hl : ls.setIfInBounds i true = ls')
    (hw : Region.wanted oi (yielded ops tmps) = false) (hS : unl zs ls = true → S w)
    (h : anyS P md ops Q S zs f ls' ⟨tmps.setIfInBounds d undef, df⟩ w) : anyS P md ops Q S zs (f + 1) ls ⟨tmps, df⟩ w := by
  refine anyS_pure hi (Region.noSelect_spec hs) hQ (fun e => by rw [List.contains_iff_mem.2 e] at hiz; cases hiz) f ls _ w (Region.free_spec hi hf) (by simpa using hr) (Or.inr ⟨hw, rfl⟩) hS ?_
  rw [hl, hd]; exact h
/-- The one that may come up. -/
theorem s_ready {f : Nat} {ls : Array Bool} {a : Act} {w : World} {oi : Oper} (i : Nat) (ls' : Array Bool) (hi : ops[i]? = some oi) (hr : Region.ready md ops ls = [i]) (hl : ls.setIfInBounds i true = ls')
    (hw : Region.wanted oi (yielded ops a.tmps) = true)
    (h : ∀ K' : Act → World → Prop, Shut (∀ a w, (unl zs ls' = true → S w) → anyS P md ops Q S zs f ls' a w → K' a w) → Oper.wp P oi a w K' Q) : anyS P md ops Q S zs (f + 1) ls a w := by
  refine ⟨fun h0 => (by rw [hr] at h0; cases h0), fun j hj => ?_⟩
  rw [hr] at hj
  obtain rfl := List.mem_singleton.1 hj
  refine wpOp_step hi (fun K' hK => ?_)
  rw [if_pos hw]
  rw [hl] at hK
  exact h K' (fun a w h1 h2 => hK a w ⟨h1, h2⟩)
theorem s_done {ls : Array Bool} {a : Act} {w : World} (hr : Region.ready md ops ls = []) (h : Q .normal a w) : ∀ f, anyS P md ops Q S zs f ls a w
  | 0 => ⟨hr, h⟩
  | _ + 1 => ⟨fun _ => h, by rw [hr]; simp⟩
theorem s_begins {id : Nat} {a : Act} {w : World} (zs : List Nat) (f : Nat) (ls : Array Bool) (hm : P.follows .mixedOrders = true) (hf : ops.size = f) (hl : Array.replicate ops.size false = ls)
    (h : anyS P .any ops Q S zs f ls a w.drew) : (Code.region id ops true).wp P Q a w := by
  subst hf hl
  exact wp_region_any hm (anyS_any _ _ _ _ h)
end
end Go.Proofs.YtdfhfjkcafchiaaDoor
