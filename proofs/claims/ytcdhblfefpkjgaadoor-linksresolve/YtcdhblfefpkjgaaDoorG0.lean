/-
  My own text: LK0, QT2, G0 in one.
-/
import Derived.Test.YtcdhblfefpkjgaaDoorHeld
import Derived.StillTailTactics
import Derived.Deep.Quiet
import Derived.BigQuiet
import Derived.Deep.QuietTactic
import Derived.ArgAppend
import Derived.OneCell
import Derived.Deep.MidRow
import Derived.Deep.Onto
import Derived.Deep.AppendLies
import Derived.Deep.DeepAppendWide
import Derived.Deep.DeepAppendRoom
import Derived.Deep.RegionWith
import Derived.Deep.RegionHeld3
import Derived.Laws.StructEq
import Derived.ChangeKeysEq
namespace Go.Proofs.YtcdhblfefpkjgaaDoor
open Go.RowKit

/-- A list that leads each thing to a lesser one of its group, R the group's least. -/
structure Lead (n : Nat) (L : List Nat) (R : Nat → Nat) : Prop where
  len : L.length = n
  at_ : ∀ x y, L[x]? = some y → y ≤ x ∧ R y = R x ∧ (y = x → R x = x)
theorem Lead.ex {n : Nat} {L : List Nat} {R : Nat → Nat} (h : Lead n L R) {x : Nat} (hx : x < n) : ∃ y, L[x]? = some y ∧ y ≤ x :=
  ⟨_, List.getElem?_eq_getElem (by rw [h.len]; exact hx), (h.at_ x _ (List.getElem?_eq_getElem (by rw [h.len]; exact hx))).1⟩
theorem Lead.root {n : Nat} {L : List Nat} {R : Nat → Nat} (h : Lead n L R) : ∀ (k x : Nat), x ≤ k → x < n → R x ≤ x ∧ R (R x) = R x ∧ L[R x]? = some (R x)
  | k, x, hk, hx => by
    obtain ⟨y, hy, hyx⟩ := h.ex hx
    obtain ⟨_, h2, h3⟩ := h.at_ x y hy
    by_cases e : y = x
    · have h4 := h3 e
      refine ⟨by omega, by rw [h4, h4], ?_⟩
      rw [h4, hy, e]
    · match k with
      | 0 => omega
      | k + 1 =>
        obtain ⟨a, b, c⟩ := h.root k y (by omega) (by omega)
        rw [h2] at a b c
        exact ⟨by omega, b, c⟩
theorem Lead.halve {n : Nat} {L : List Nat} {R : Nat → Nat} (h : Lead n L R) {x y z : Nat} (hy : L[x]? = some y) (hz : L[y]? = some z) : Lead n (L.set x z) R := by
  obtain ⟨a, b, c⟩ := h.at_ x y hy
  obtain ⟨a', b', c'⟩ := h.at_ y z hz
  refine ⟨by rw [List.length_set]; exact h.len, fun u v hv => ?_⟩
  rw [List.getElem?_set] at hv
  split at hv
  · rename_i e
    split at hv
    · cases hv; subst e
      exact ⟨by omega, by rw [b', b], fun e => by
        have : y = x := by omega
        exact c this⟩
    · cases hv
  · exact h.at_ u v hv
/-- Two groups become one. -/
def mrg (R : Nat → Nat) (p : Nat × Nat) : Nat → Nat := fun y => if R y = max (R p.1) (R p.2) then min (R p.1) (R p.2) else R y
theorem Lead.union {n : Nat} {L : List Nat} {R : Nat → Nat} (h : Lead n L R) {p : Nat × Nat} (h1 : p.1 < n) (h2 : p.2 < n) : Lead n (L.set (max (R p.1) (R p.2)) (min (R p.1) (R p.2))) (mrg R p) := by
  obtain ⟨a1, b1, _⟩ := h.root p.1 p.1 (Nat.le_refl _) h1
  obtain ⟨a2, b2, _⟩ := h.root p.2 p.2 (Nat.le_refl _) h2
  obtain ⟨M, hM⟩ : ∃ M, max (R p.1) (R p.2) = M := ⟨_, rfl⟩
  obtain ⟨m, hm⟩ : ∃ m, min (R p.1) (R p.2) = m := ⟨_, rfl⟩
  have hMR : R M = M := by rw [← hM, Nat.max_def]; split <;> assumption
  have hmR : R m = m := by rw [← hm, Nat.min_def]; split <;> assumption
  have hle : m ≤ M := by omega
  have hmm : mrg R p m = m := by unfold mrg; rw [hM, hm, hmR]; split <;> rfl
  have hMm : mrg R p M = m := by unfold mrg; rw [hM, hm, hMR, if_pos rfl]
  rw [hM, hm]
  refine ⟨by rw [List.length_set]; exact h.len, fun x y hy => ?_⟩
  rw [List.getElem?_set] at hy
  split at hy
  · rename_i e
    split at hy
    · cases hy; subst e
      exact ⟨hle, by rw [hmm, hMm], fun e => by rw [hMm, e]⟩
    · cases hy
  · rename_i e
    obtain ⟨a, b, c⟩ := h.at_ x y hy
    refine ⟨a, by unfold mrg; rw [b], fun e2 => ?_⟩
    have := c e2
    unfold mrg
    rw [this, hM, if_neg (by omega)]
/-- The least of each thing's group, by these pairs. -/
def rk (ps : List (Nat × Nat)) : Nat → Nat := ps.foldl mrg (fun x => x)
theorem rk_snoc (ps : List (Nat × Nat)) (p : Nat × Nat) : rk (ps ++ [p]) = mrg (rk ps) p := by unfold rk; rw [List.foldl_append]; rfl
theorem rk_nil : rk [] = fun x => x := rfl
theorem snoc_ind {α : Type} {P : List α → Prop} (h0 : P []) (h1 : ∀ l a, P l → P (l ++ [a])) : ∀ l, P l := by
  intro l
  have : ∀ m : List α, P m.reverse := by
    intro m
    induction m with
    | nil => exact h0
    | cons a t ih => rw [List.reverse_cons]; exact h1 _ _ ih
  have h := this l.reverse
  rwa [List.reverse_reverse] at h
theorem rk_le (ps : List (Nat × Nat)) : ∀ x, rk ps x ≤ x ∧ rk ps (rk ps x) = rk ps x := by
  refine snoc_ind (P := fun ps => ∀ x, rk ps x ≤ x ∧ rk ps (rk ps x) = rk ps x) (fun x => ⟨Nat.le_refl _, rfl⟩) (fun l p ih x => ?_) ps
  rw [rk_snoc]
  obtain ⟨R, hR⟩ : ∃ R, rk l = R := ⟨_, rfl⟩
  rw [hR] at ih ⊢
  have i1 := ih p.1
  have i2 := ih p.2
  obtain ⟨M, hM⟩ : ∃ M, max (R p.1) (R p.2) = M := ⟨_, rfl⟩
  obtain ⟨m, hm⟩ : ∃ m, min (R p.1) (R p.2) = m := ⟨_, rfl⟩
  have hmR : R m = m := by rw [← hm, Nat.min_def]; split; exact i1.2; exact i2.2
  have ix := ih x
  unfold mrg
  rw [hM, hm]
  by_cases e : R x = M
  · rw [if_pos e, hmR]
    refine ⟨by omega, by split <;> rfl⟩
  · rw [if_neg e, ix.2, if_neg e]
    exact ⟨ix.1, rfl⟩
theorem mrg_pair (R : Nat → Nat) (p : Nat × Nat) : mrg R p p.1 = mrg R p p.2 := by
  unfold mrg
  by_cases e : R p.1 = R p.2
  · rw [e]
  · rcases Nat.lt_or_ge (R p.1) (R p.2) with h | h
    · rw [if_neg (by omega), if_pos (by omega)]; omega
    · rw [if_pos (by omega), if_neg (by omega)]; omega
theorem rk_pair (ps : List (Nat × Nat)) : ∀ p ∈ ps, rk ps p.1 = rk ps p.2 := by
  refine snoc_ind (P := fun ps => ∀ p ∈ ps, rk ps p.1 = rk ps p.2) (fun p hp => by simp at hp) (fun l q ih p hp => ?_) ps
  rw [rk_snoc]
  rw [List.mem_append] at hp
  rcases hp with hp | hp
  · unfold mrg; rw [ih p hp]
  · simp at hp; subst hp; exact mrg_pair _ _
/-- What is the same for the two of each pair is the same all over a group. -/
theorem rk_closed {α : Type} (f : Nat → α) (ps : List (Nat × Nat)) (h : ∀ p ∈ ps, f p.1 = f p.2) : ∀ x, f (rk ps x) = f x := by
  revert h
  refine snoc_ind (P := fun ps => (∀ p ∈ ps, f p.1 = f p.2) → ∀ x, f (rk ps x) = f x) (fun _ x => rfl) (fun l q ih h x => ?_) ps
  have ih := ih fun p hp => h p (List.mem_append_left _ hp)
  have hq := h q (List.mem_append_right _ (List.mem_singleton.2 rfl))
  rw [rk_snoc]
  unfold mrg
  by_cases e : rk l x = max (rk l q.1) (rk l q.2)
  · rw [if_pos e]
    have i1 := ih q.1
    have i2 := ih q.2
    have ix := ih x
    rw [e] at ix
    rw [← ix]
    rcases Nat.lt_or_ge (rk l q.1) (rk l q.2) with h | h
    · rw [show min (rk l q.1) (rk l q.2) = rk l q.1 by omega, show max (rk l q.1) (rk l q.2) = rk l q.2 by omega, i1, i2, hq]
    · rw [show min (rk l q.1) (rk l q.2) = rk l q.2 by omega, show max (rk l q.1) (rk l q.2) = rk l q.1 by omega, i1, i2, hq]
  · rw [if_neg e]; exact ih x
theorem Lead.start (n : Nat) : Lead n (List.range n) (rk []) :=
  ⟨List.length_range, fun x y hy => by
    have hx : x < n := by have := (List.getElem?_eq_some_iff.1 hy).1; rwa [List.length_range] at this
    rw [List.getElem?_range hx] at hy
    cases hy
    exact ⟨Nat.le_refl _, rfl, fun _ => rfl⟩⟩
/-- The answer. -/
def grp (n : Nat) (ps : List (Nat × Nat)) : List Nat := (List.range n).map (rk ps)
theorem grp_len (n : Nat) (ps : List (Nat × Nat)) : (grp n ps).length = n := by simp [grp]
theorem grp_at {n : Nat} (ps : List (Nat × Nat)) {x : Nat} (h : x < n) : (grp n ps)[x]? = some (rk ps x) := by
  unfold grp; rw [List.getElem?_map, List.getElem?_range h]; rfl
/-- The first k things lead to their least one. -/
theorem Lead.done {n : Nat} {L : List Nat} {ps : List (Nat × Nat)} (h : Lead n L (rk ps)) (hk : ∀ x, x < n → L[x]? = some (rk ps x)) : L = grp n ps := by
  apply List.ext_getElem?
  intro x
  by_cases hx : x < n
  · rw [hk x hx, grp_at ps hx]
  · rw [List.getElem?_eq_none (by rw [h.len]; omega), List.getElem?_eq_none (by rw [grp_len]; omega)]
theorem Lead.last {n : Nat} {L : List Nat} {R : Nat → Nat} (h : Lead n L R) {k y z : Nat} (hk : ∀ x, x < k → L[x]? = some (R x)) (hy : L[k]? = some y) (hz : L[y]? = some z) : z = R k ∧ ∀ x, x < k + 1 → (L.set k z)[x]? = some (R x) := by
  obtain ⟨a, b, c⟩ := h.at_ k y hy
  have hkl := (List.getElem?_eq_some_iff.1 hy).1
  have e : z = R k := by
    by_cases e : y = k
    · have := c e
      subst e
      rw [hz] at hy
      cases hy
      exact this.symm
    · have := hk y (by omega)
      rw [hz] at this
      cases this
      exact b
  refine ⟨e, fun x hx => ?_⟩
  rw [List.getElem?_set]
  by_cases ex : k = x
  · subst ex; rw [if_pos rfl, if_pos hkl, e]
  · rw [if_neg ex]; exact hk x (by omega)

/-! the document's way -/
structure Dl (n : Nat) (l : List Nat) (R : Nat → Nat) : Prop where
  len : l.length = n
  at_ : ∀ x y, l[x]? = some y → y ≤ x ∧ R y = R x
theorem Dl.start (n : Nat) (R : Nat → Nat) : Dl n (List.range n) R :=
  ⟨List.length_range, fun x y hy => by
    have hx : x < n := by have := (List.getElem?_eq_some_iff.1 hy).1; rwa [List.length_range] at this
    rw [List.getElem?_range hx] at hy
    cases hy
    exact ⟨Nat.le_refl _, rfl⟩⟩
theorem Dl.take {n : Nat} {l : List Nat} {R : Nat → Nat} (h : Dl n l R) {a b x y : Nat} (ha : l[a]? = some x) (hb : l[b]? = some y) (hR : R a = R b) (hlt : x < y) : Dl n (l.set b x) R := by
  obtain ⟨_, a2⟩ := h.at_ a x ha
  obtain ⟨b1, b2⟩ := h.at_ b y hb
  refine ⟨by rw [List.length_set]; exact h.len, fun u v hv => ?_⟩
  rw [List.getElem?_set] at hv
  split at hv
  · rename_i e
    split at hv
    · cases hv; subst e
      exact ⟨by omega, by rw [a2, hR]⟩
    · cases hv
  · exact h.at_ u v hv
theorem sum_set : ∀ {l : List Nat} {b x y : Nat}, l[b]? = some y → x < y → (l.set b x).sum < l.sum
  | c :: t, 0, x, y, h, hlt => by simp at h; subst h; simp; omega
  | c :: t, b + 1, x, y, h, hlt => by
    have h' : t[b]? = some y := by simpa using h
    have := sum_set h' hlt
    simp; omega
theorem Dl.closed {n : Nat} {l : List Nat} {ps : List (Nat × Nat)} (h : Dl n l (rk ps)) (hc : ∀ p ∈ ps, l[p.1]? = l[p.2]?) : l = grp n ps := by
  apply List.ext_getElem?
  intro x
  by_cases hx : x < n
  · rw [grp_at ps hx]
    have hl := List.getElem?_eq_getElem (l := l) (i := x) (by rw [h.len]; exact hx)
    obtain ⟨y, hy⟩ : ∃ y, l[x]? = some y := ⟨_, hl⟩
    have h1 := rk_closed (fun z => l[z]?) ps hc x
    have h2 := (rk_le ps x).1
    simp only [hy] at h1
    obtain ⟨a1, a2⟩ := h.at_ _ _ h1
    have a3 := (rk_le ps y).1
    rw [hy]
    rw [a2, (rk_le ps x).2] at a3
    congr 1; omega
  · rw [List.getElem?_eq_none (by rw [h.len]; omega), List.getElem?_eq_none (by rw [grp_len]; omega)]

/-! what is met -/
def cnt (m : List Bool) : Nat := m.countP (· = true)
theorem cnt_le (m : List Bool) : cnt m ≤ m.length := List.countP_le_length
theorem cnt_set : ∀ {m : List Bool} {a : Nat}, m[a]? = some false → cnt (m.set a true) = cnt m + 1
  | b :: t, 0, h => by simp at h; subst h; simp [cnt]
  | b :: t, a + 1, h => by
    have h' : t[a]? = some false := by simpa using h
    have := cnt_set h'
    unfold cnt at this ⊢
    rw [List.set_cons_succ, List.countP_cons, List.countP_cons, this]; omega
theorem cnt_same {m : List Bool} {a : Nat} (h : m[a]? = some true) : m.set a true = m := by
  apply List.ext_getElem?
  intro x
  rw [List.getElem?_set]
  split
  · rename_i e; subst e
    rw [if_pos (List.getElem?_eq_some_iff.1 h).1, h]
  · rfl
theorem cnt_mono (m : List Bool) (a : Nat) : cnt m ≤ cnt (m.set a true) := by
  by_cases ha : a < m.length
  · cases e : m[a]? with
    | none => rw [List.getElem?_eq_none_iff] at e; omega
    | some b =>
      cases b with
      | true => rw [cnt_same e]; omega
      | false => rw [cnt_set e]; omega
  · rw [List.set_eq_of_length_le (by omega)]; omega
/-- One pair looked at. -/
def mst (m : List Bool) (p : Nat × Nat) : List Bool := if (m[p.1]? == some true) || (m[p.2]? == some true) then (m.set p.1 true).set p.2 true else m
theorem mst_len (m : List Bool) (p : Nat × Nat) : (mst m p).length = m.length := by unfold mst; split <;> simp
theorem mst_mono (m : List Bool) (p : Nat × Nat) : cnt m ≤ cnt (mst m p) := by
  unfold mst; split
  · exact Nat.le_trans (cnt_mono m p.1) (cnt_mono _ p.2)
  · exact Nat.le_refl _
theorem mst_keep {m : List Bool} {p : Nat × Nat} {x : Nat} (h : m[x]? = some true) : (mst m p)[x]? = some true := by
  have hx := (List.getElem?_eq_some_iff.1 h).1
  unfold mst; split
  · rw [List.getElem?_set, List.getElem?_set]
    split
    · rename_i e; rw [if_pos (by rw [List.length_set]; omega)]
    · split
      · rename_i e; rw [if_pos (by omega)]
      · exact h
  · exact h
/-- A pair changes nothing: the two are both met or both not; or one more is met. -/
theorem mst_step (m : List Bool) (p : Nat × Nat) (h1 : p.1 < m.length) (h2 : p.2 < m.length) : (mst m p = m ∧ m[p.1]? = m[p.2]?) ∨ cnt m + 1 ≤ cnt (mst m p) := by
  obtain ⟨a, ha⟩ : ∃ a, m[p.1]? = some a := ⟨_, List.getElem?_eq_getElem h1⟩
  obtain ⟨b, hb⟩ : ∃ b, m[p.2]? = some b := ⟨_, List.getElem?_eq_getElem h2⟩
  unfold mst
  rw [ha, hb]
  cases a <;> cases b
  · left; simp
  · right
    rw [if_pos (by simp)]
    exact Nat.le_trans (by rw [cnt_set ha]; omega) (cnt_mono _ _)
  · right
    rw [if_pos (by simp), cnt_same ha, cnt_set hb]; omega
  · left
    rw [if_pos (by simp), cnt_same ha, cnt_same hb]
    exact ⟨rfl, rfl⟩
/-- All pairs looked at, one behind the other. -/
def mrd (m : List Bool) (ps : List (Nat × Nat)) : List Bool := ps.foldl mst m
theorem mrd_snoc (m : List Bool) (ps : List (Nat × Nat)) (p : Nat × Nat) : mrd m (ps ++ [p]) = mst (mrd m ps) p := by unfold mrd; rw [List.foldl_append]; rfl
theorem mrd_len (m : List Bool) (ps : List (Nat × Nat)) : (mrd m ps).length = m.length := by
  refine snoc_ind (P := fun ps => (mrd m ps).length = m.length) rfl (fun l p ih => ?_) ps
  rw [mrd_snoc, mst_len, ih]
theorem mrd_keep (m : List Bool) (ps : List (Nat × Nat)) {x : Nat} (h : m[x]? = some true) : (mrd m ps)[x]? = some true := by
  refine snoc_ind (P := fun ps => (mrd m ps)[x]? = some true) h (fun l p ih => ?_) ps
  rw [mrd_snoc]; exact mst_keep ih
theorem mrd_round (m : List Bool) (ps : List (Nat × Nat)) : (∀ p ∈ ps, p.1 < m.length ∧ p.2 < m.length) → (mrd m ps = m ∧ ∀ p ∈ ps, m[p.1]? = m[p.2]?) ∨ cnt m + 1 ≤ cnt (mrd m ps) := by
  refine snoc_ind (P := fun ps => (∀ p ∈ ps, p.1 < m.length ∧ p.2 < m.length) → (mrd m ps = m ∧ ∀ p ∈ ps, m[p.1]? = m[p.2]?) ∨ cnt m + 1 ≤ cnt (mrd m ps)) (fun _ => .inl ⟨rfl, fun p hp => by simp at hp⟩) (fun l p ih h => ?_) ps
  have hp := h p (List.mem_append_right _ (List.mem_singleton.2 rfl))
  rw [mrd_snoc]
  rcases ih fun q hq => h q (List.mem_append_left _ hq) with ⟨e, hc⟩ | hlt
  · rw [e]
    rcases mst_step m p hp.1 hp.2 with ⟨e2, hc2⟩ | hlt
    · refine .inl ⟨e2, fun q hq => ?_⟩
      rw [List.mem_append] at hq
      rcases hq with hq | hq
      · exact hc q hq
      · simp at hq; subst hq; exact hc2
    · exact .inr hlt
  · exact .inr (Nat.le_trans hlt (mst_mono _ _))
/-- So many rounds. -/
def mrs (m : List Bool) (ps : List (Nat × Nat)) : Nat → List Bool
  | 0 => m
  | k + 1 => mrd (mrs m ps k) ps
theorem mrs_len (m : List Bool) (ps : List (Nat × Nat)) : ∀ k, (mrs m ps k).length = m.length
  | 0 => rfl
  | k + 1 => by show (mrd _ _).length = _; rw [mrd_len, mrs_len m ps k]
theorem mrs_keep (m : List Bool) (ps : List (Nat × Nat)) {x : Nat} (h : m[x]? = some true) : ∀ k, (mrs m ps k)[x]? = some true
  | 0 => h
  | k + 1 => mrd_keep _ _ (mrs_keep m ps h k)
theorem mrs_rounds (m : List Bool) (ps : List (Nat × Nat)) (h : ∀ p ∈ ps, p.1 < m.length ∧ p.2 < m.length) : ∀ k, (∀ p ∈ ps, (mrs m ps k)[p.1]? = (mrs m ps k)[p.2]?) ∨ cnt m + k ≤ cnt (mrs m ps k)
  | 0 => .inr (Nat.le_refl _)
  | k + 1 => by
    have hl := mrs_len m ps k
    have hk : ∀ p ∈ ps, p.1 < (mrs m ps k).length ∧ p.2 < (mrs m ps k).length := fun p hp => by rw [hl]; exact h p hp
    show (∀ p ∈ ps, (mrd (mrs m ps k) ps)[p.1]? = (mrd (mrs m ps k) ps)[p.2]?) ∨ cnt m + (k + 1) ≤ cnt (mrd (mrs m ps k) ps)
    rcases mrd_round _ ps hk with ⟨e, hc⟩ | hlt
    · rw [e]; exact .inl hc
    · rcases mrs_rounds m ps h k with hc | hc
      · left
        have : mrd (mrs m ps k) ps = mrs m ps k := by
          have hst : ∀ l : List (Nat × Nat), (∀ p ∈ l, p ∈ ps) → mrd (mrs m ps k) l = mrs m ps k := by
            refine snoc_ind (fun _ => rfl) (fun l p ih hl2 => ?_)
            rw [mrd_snoc, ih fun q hq => hl2 q (List.mem_append_left _ hq)]
            have hp := hl2 p (List.mem_append_right _ (List.mem_singleton.2 rfl))
            have e2 := hc p hp
            obtain ⟨a, ha⟩ : ∃ a, (mrs m ps k)[p.1]? = some a := ⟨_, List.getElem?_eq_getElem (hk p hp).1⟩
            unfold mst
            rw [← e2, ha]
            cases a
            · rfl
            · rw [if_pos (by rfl), cnt_same ha, cnt_same (by rw [← e2]; exact ha)]
          exact hst ps fun _ hp => hp
        rw [this]; exact hc
      · right; omega
/-- All are met behind as many rounds as there are things. -/
theorem met_all {n : Nat} {ps : List (Nat × Nat)} {m : List Bool} (hl : m.length = n) (hn : ∀ p ∈ ps, p.1 < n ∧ p.2 < n) (h0 : ∀ x, x < n → m[x]? = some (decide (rk ps x = x))) : ∀ x, x < n → (mrs m ps n)[x]? = some true := by
  intro x hx
  have h1 : ∀ p ∈ ps, p.1 < m.length ∧ p.2 < m.length := fun p hp => by rw [hl]; exact hn p hp
  have hc : ∀ p ∈ ps, (mrs m ps n)[p.1]? = (mrs m ps n)[p.2]? := by
    rcases mrs_rounds m ps h1 n with hc | hc
    · exact hc
    · exfalso
      have h2 := cnt_le (mrs m ps n)
      rw [mrs_len, hl] at h2
      have h3 : 1 ≤ cnt m := by
        have e : m[0]? = some true := by rw [h0 0 (by omega)]; simp; have := (rk_le ps 0).1; omega
        unfold cnt
        exact List.countP_pos_iff.2 ⟨true, List.mem_of_getElem? e, by simp⟩
      omega
  have h4 := rk_closed (fun z => (mrs m ps n)[z]?) ps hc x
  have h5 := rk_le ps x
  rw [← h4]
  exact mrs_keep m ps (by rw [h0 _ (by omega), h5.2]; simp) n
end Go.Proofs.YtcdhblfefpkjgaaDoor
namespace Go.Proofs.YtcdhblfefpkjgaaDoor
open Go.RowKit

section
variable {P : Program} {ops : Array Oper} {md : Region.Mode} {C : World → Prop} {n m : Nat} {L : Act → Prop}
/-- However the others come up: then L. -/
def anyU (P : Program) (md : Region.Mode) (ops : Array Oper) (C : World → Prop) (n m : Nat) (L : Act → Prop) : Nat → Array Bool → Act → Prop
  | 0, ls, a => (Region.seqB md ops (m + 1) n ls = true) ∧ L a
  | f + 1, ls, a => Region.ready md ops ls ≠ [] ∧ ∀ i ∈ Region.ready md ops ls, i < n ∧ qOp P ops C i (anyU P md ops C n m L f (ls.setIfInBounds i true)) a
theorem anyU_sound {Q : Exit → Act → World → Prop} {tl : List Oper} (ht : ∀ j, tl[j]? = ops[n + j]?) (hm : tl.length = m + 1) (hL : ∀ a w, C w → L a → wpList P ops Q tl a w) :
    ∀ (f : Nat) (ls : Array Bool) (a : Act) (w : World), C w → anyU P md ops C n m L f ls a → wpAny P md ops Q (f + (m + 1)) ls a w
  | 0, ls, a, w, hw, h => by
    have := wpAny_of_seq (P := P) (md := md) (Q' := Q) tl n ls a w ht (by rw [hm]; exact h.1) (hL a w hw h.2)
    rw [hm] at this
    simpa using this
  | f + 1, ls, a, w, hw, h => by
    rw [show f + 1 + (m + 1) = (f + (m + 1)) + 1 by omega]
    exact ⟨fun h0 => absurd h0 h.1, fun i hi => wpOp_of_qOp hw (fun a' w' hw' h' => anyU_sound ht hm hL f _ a' w' hw' h') (h.2 i hi).2⟩
/-- One that may come up may be taken ahead. -/
theorem anyU_take {i : Nat} {oi : Oper} {v : Value} (hi : ops[i]? = some oi) (hsel : Region.noSelect ops = true) (hs : Region.sinkB md ops n = true) (hc : Region.chainB md ops n = true) (hn : n < ops.size) (hin : i < n) :
    ∀ (f : Nat) (ls : Array Bool) (a : Act), HeadInv md ops n ls →
      (∀ j oj, ops[j]? = some oj → j ≠ i → ls.getD j true = false → (∀ e ∈ oj.after, Region.binds md e = true → e.on ≠ i) → oi.apart ops oj = true) →
      i ∈ Region.ready md ops ls → YieldsIn P ops C oi v a → anyU P md ops C n m L f (ls.setIfInBounds i true) (a.put oi.dst v) → anyU P md ops C n m L (f + 1) ls a := by
  intro f
  induction f with
  | zero =>
    intro ls a inv _ hr hy H
    have hun := (mem_ready.1 hr).1
    refine ⟨List.ne_nil_of_mem hr, fun j hj => ?_⟩
    have hjn : j < n := Nat.lt_of_not_le fun h => tail_waits hs hc hn inv _ i rfl hin hun j h hj
    refine ⟨hjn, ?_⟩
    by_cases hji : j = i
    · subst hji; exact hy.qOp hi H
    · exact absurd (seqB_ready H.1 j (ready_mono hj hji)) (by omega)
  | succ f ih =>
    intro ls a inv hfree hr hy H
    have hun := (mem_ready.1 hr).1
    refine ⟨List.ne_nil_of_mem hr, fun j hj => ?_⟩
    have hjn : j < n := Nat.lt_of_not_le fun h => tail_waits hs hc hn inv _ i rfl hin hun j h hj
    refine ⟨hjn, ?_⟩
    by_cases hji : j = i
    · subst hji; exact hy.qOp hi H
    · have h1 := (H.2 j (ready_mono hj hji)).2
      obtain ⟨hjun, oj, hoj, hall⟩ := mem_ready.1 hj
      have hno : ∀ e ∈ oj.after, Region.binds md e = true → e.on ≠ i := by
        intro e he hb heq
        have h2 := hall e he hb
        rw [heq, getD_both hun] at h2
        exact absurd h2 (by decide)
      have hap := hfree j oj hoj hji hjun hno
      have h2 := qOp_put hoj hap (fun cs b => Region.noSelect_spec hsel i oi cs b hi) (fun cs b => Region.noSelect_spec hsel j oj cs b hoj) hy h1
      refine qOp_mono (fun a' h3 => ih (ls.setIfInBounds j true) a' (inv.set hj hjn) (fun k ok hk hki hku hkn => hfree k ok hk hki ?_ hkn) (ready_mono hr (Ne.symm hji)) h3.1 ?_) h2
      · by_cases hjk : j = k
        · subst hjk; exact hjun
        · rwa [getD_set_ne true hjk] at hku
      · rw [Array.setIfInBounds_comm _ _ hji]; exact h3.2
theorem anyU_lex (hsel : Region.noSelect ops = true) (hs : Region.sinkB md ops n = true) (hc : Region.chainB md ops n = true) (hn : n < ops.size) :
    ∀ (l : List Oper) (k : Nat) (ls : Array Bool) (a : Act), (∀ j, j < l.length → l[j]? = ops[k + j]?) → k + l.length = n → HeadInv md ops n ls →
    Region.lexHead md ops (m + 1) l.length k ls = true → wpQuiet P ops C L l a → anyU P md ops C n m L l.length ls a
  | [], k, ls, a, _, hk, _, hB, h => by
    obtain rfl : k = n := by simpa using hk
    exact ⟨by simpa [Region.lexHead] using hB, h⟩
  | o :: l, k, ls, a, hl, hk, inv, hB, h => by
    have h0 : ops[k]? = some o := by simpa using (hl 0 (by simp)).symm
    simp only [List.length_cons, Region.lexHead, Bool.and_eq_true] at hB
    rw [List.length_cons] at hk
    have hr : k ∈ Region.ready md ops ls := by simpa using hB.1.1
    have hq : qOp P ops C k (wpQuiet P ops C L l) a := by unfold qOp; simp only [h0]; exact h
    obtain ⟨v, hy, hK⟩ := yieldsIn_of_qOp h0 hq
    refine anyU_take h0 hsel hs hc hn (by omega) l.length ls a inv (Region.free_spec h0 hB.1.2) hr hy ?_
    refine anyU_lex hsel hs hc hn l (k + 1) _ _ (fun j hj => ?_) (by omega) (inv.set hr (by omega)) hB.2 hK
    have := hl (j + 1) (by simpa using hj)
    rw [show k + 1 + j = k + (j + 1) by omega, ← this]; rfl
end
/-- The others quiet in a class of worlds, then the last ones. -/
theorem region_qtails {P : Program} {C : World → Prop} {id : Nat} {Q : Exit → Act → World → Prop} {a : Act} {w : World} {l : List Oper} (n m : Nat) (hn : l.length = n + (m + 1)) (hm : P.follows .mixedOrders = true) (hB : Region.lexTailB .any l.toArray n = true) (hC : C w.drew)
    (h : wpQuiet P l.toArray C (fun a' => ∀ w', C w' → wpList P l.toArray Q (l.drop n) a' w') (l.take n) a) : (Code.region id l.toArray true).wp P Q a w := by
  simp only [Region.lexTailB, Bool.and_eq_true, decide_eq_true_eq] at hB
  obtain ⟨⟨⟨⟨hsel, hlt⟩, hs⟩, hc⟩, hlex⟩ := hB
  have htl : (l.take n).length = n := by simp; omega
  have inv0 : HeadInv .any l.toArray n (Array.replicate l.toArray.size false) := ⟨by simp, fun j oj _ hl => (by rw [getD_replicate_false] at hl; cases hl), fun t _ ht => getD_in (by simpa using ht) (getD_replicate_false _ _)⟩
  have H := anyU_lex (P := P) (C := C) (m := m) (L := fun a' => ∀ w', C w' → wpList P l.toArray Q (l.drop n) a' w') hsel hs hc hlt (l.take n) 0 (Array.replicate l.toArray.size false) a (fun j hj => by
    rw [htl] at hj; simp [hj]) (by omega) inv0 (by rw [htl]; rw [show l.toArray.size - n = m + 1 by simp; omega] at hlex; exact hlex) h
  rw [htl] at H
  refine wp_region_any hm ?_
  have := anyU_sound (tl := l.drop n) (fun j => by simp [List.getElem?_drop]) (by simp; omega) (fun a w hw h => h w hw) n _ a w.drew hC H
  have e : wpAny P .any l.toArray Q l.toArray.size (Array.replicate l.toArray.size false) a w.drew := by rw [show l.toArray.size = n + (m + 1) by simpa using hn] at this ⊢; exact this
  exact e
end Go.Proofs.YtcdhblfefpkjgaaDoor
namespace Go.Proofs.YtcdhblfefpkjgaaDoor
open Go.RowKit

theorem info_parts {P : Program} {t : TypeId} {z : Value} {s b : Nat} (h : (P.info? t).map (fun i => (i.zero, i.size, i.bytes)) = some (some z, s, b)) : ∃ i, P.info? t = some i ∧ i.zero = some z ∧ i.size = s ∧ i.bytes = b := by
  obtain ⟨i, hi, hz⟩ := Option.map_eq_some_iff.1 h
  simp only [Prod.mk.injEq] at hz
  exact ⟨i, hi, hz.1, hz.2.1, hz.2.2⟩
theorem owns_lat {B : Nat} {e : TypeId} {k : Nat} {v : Value} {n : Nat} {xs : List Value} {w w' : World} (h : w.ownsRow B e k v n xs) (hb : Below w.heap.size w w') : w'.ownsRow B e k v n xs := by
  refine ⟨h.1, ?_⟩
  rcases h.2 with h2 | ⟨g, cap, cur, hv, hg, hh, h3⟩
  · exact .inl h2
  · exact .inr ⟨g, cap, cur, hv, hg, (hb.block g (Array.getElem?_eq_some_iff.1 hh).1).trans hh, h3⟩
theorem owns_blk {w w' : World} {B : Nat} {e : TypeId} {k : Nat} {v : Value} {n : Nat} {xs : List Value} (h : w.ownsRow B e k v n xs) (hb : ∀ g, v.ownBlock = some g → w'.heap[g]? = w.heap[g]?) : w'.ownsRow B e k v n xs := by
  refine ⟨h.1, ?_⟩
  rcases h.2 with h2 | ⟨g, cap, cur, hv, hg, hh, h3⟩
  · exact .inl h2
  · exact .inr ⟨g, cap, cur, hv, hg, (hb g (by rw [hv]; rfl)).trans hh, h3⟩
theorem ownsRow_kind {w : World} {B : Nat} {e : TypeId} {size : Nat} {v : Value} {n : Nat} {xs : List Value} (h : w.ownsRow B e size v n xs) : ∀ g, v.ownBlock = some g → ∃ c fz, w.heap[g]? = some (.cells c e fz) := by
  intro g hg
  rcases h.2 with ⟨rfl, _⟩ | ⟨g', cap, cur, rfl, hb, hh, h3⟩
  · cases hg
  · cases hg; exact ⟨cur, (0, 0), hh⟩
theorem alloc_new (w : World) (o : Obj) : (w.alloc o).heap[w.heap.size]? = some o := (MapKept.heap_alloc w o).1
theorem alloc_block {w : World} {b : Nat} {o x : Obj} (hh : w.heap[b]? = some x) : (w.alloc o).heap[b]? = some x := by
  have hlt := (Array.getElem?_eq_some_iff.1 hh).1
  exact (Below.heap_alloc w o b hlt).trans hh
theorem blk_later {w w' : World} {g : Nat} {o : Obj} (h : w.heap[g]? = some o) (hb : Below w.heap.size w w') : w'.heap[g]? = some o := (hb.block g (Array.getElem?_eq_some_iff.1 h).1).trans h
theorem below_dN {B : Nat} {a w : World} (h : Below B a w) (n : Nat) : Below B a (w.drewN n) := h.trans ⟨rfl, rfl, rfl, Nat.le_refl _, fun _ _ => rfl⟩
theorem pair_cells {w : World} {o : Obj} {a b : Value} {t : TypeId} {g : Nat} (h : w.heap[g]? = some o) (ho : o = .cells #[a, b] t (0, 0)) : w.cell? ⟨g, 0, none⟩ = some a ∧ w.cell? ⟨g, 1, none⟩ = some b := by
  subst ho
  exact ⟨by rw [cell_of_row _ _ 0 _ _ _ h]; rfl, by rw [cell_of_row _ _ 1 _ _ _ h]; rfl⟩
theorem five_cells {w : World} {o : Obj} {a b c d e : Value} {t : TypeId} {g : Nat} (h : w.heap[g]? = some o) (ho : o = .cells #[a, b, c, d, e] t (0, 0)) : w.cell? ⟨g, 0, none⟩ = some a ∧ w.cell? ⟨g, 1, none⟩ = some b ∧ w.cell? ⟨g, 2, none⟩ = some c ∧ w.cell? ⟨g, 3, none⟩ = some d ∧ w.cell? ⟨g, 4, none⟩ = some e := by
  subst ho
  exact ⟨by rw [cell_of_row _ _ 0 _ _ _ h]; rfl, by rw [cell_of_row _ _ 1 _ _ _ h]; rfl, by rw [cell_of_row _ _ 2 _ _ _ h]; rfl, by rw [cell_of_row _ _ 3 _ _ _ h]; rfl, by rw [cell_of_row _ _ 4 _ _ _ h]; rfl⟩
theorem eight_cells {w : World} {o : Obj} {a b c d e f x y : Value} {t : TypeId} {g : Nat} (h : w.heap[g]? = some o) (ho : o = .cells #[a, b, c, d, e, f, x, y] t (0, 0)) : w.cell? ⟨g, 0, none⟩ = some a ∧ w.cell? ⟨g, 1, none⟩ = some b ∧ w.cell? ⟨g, 2, none⟩ = some c ∧ w.cell? ⟨g, 3, none⟩ = some d ∧ w.cell? ⟨g, 4, none⟩ = some e ∧ w.cell? ⟨g, 5, none⟩ = some f ∧ w.cell? ⟨g, 6, none⟩ = some x ∧ w.cell? ⟨g, 7, none⟩ = some y := by
  subst ho
  exact ⟨by rw [cell_of_row _ _ 0 _ _ _ h]; rfl, by rw [cell_of_row _ _ 1 _ _ _ h]; rfl, by rw [cell_of_row _ _ 2 _ _ _ h]; rfl, by rw [cell_of_row _ _ 3 _ _ _ h]; rfl, by rw [cell_of_row _ _ 4 _ _ _ h]; rfl, by rw [cell_of_row _ _ 5 _ _ _ h]; rfl, by rw [cell_of_row _ _ 6 _ _ _ h]; rfl, by rw [cell_of_row _ _ 7 _ _ _ h]; rfl⟩
/-- The value v of world w has become v' of world w', and nothing else that was there has changed. -/
structure Grew (w : World) (v : Value) (w' : World) (v' : Value) : Prop where
  grown : w.grownBy w' v.ownBlock
  lies : ∀ g, v'.ownBlock = some g → v.ownBlock = some g ∨ w.heap.size ≤ g
theorem Grew.refl (w : World) (v : Value) : Grew w v w v := ⟨⟨rfl, rfl, rfl, Nat.le_refl _, fun _ _ _ => rfl⟩, fun _ h => .inl h⟩
theorem Grew.trans {w w1 w2 : World} {v v1 v2 : Value} (h : Grew w v w1 v1) (k : Grew w1 v1 w2 v2) : Grew w v w2 v2 := by
  refine ⟨⟨k.grown.os.trans h.grown.os, k.grown.tape.trans h.grown.tape, k.grown.output.trans h.grown.output, Nat.le_trans h.grown.size k.grown.size, fun j hj hne => ?_⟩, fun g hg => ?_⟩
  · refine (k.grown.block j (Nat.lt_of_lt_of_le hj h.grown.size) ?_).trans (h.grown.block j hj hne)
    intro e
    rcases h.lies j e.symm with h1 | h1
    · exact hne h1.symm
    · omega
  · rcases k.lies g hg with h1 | h1
    · exact h.lies g h1
    · exact .inr (Nat.le_trans h.grown.size h1)
theorem Grew.ofBelow {w w1 w2 : World} {v v2 : Value} (hb : Below w.heap.size w w1) (h : Grew w1 v w2 v2) : Grew w v w2 v2 := by
  refine ⟨⟨h.grown.os.trans hb.os, h.grown.tape.trans hb.tape, h.grown.output.trans hb.output, Nat.le_trans hb.size h.grown.size, fun j hj hne => ?_⟩, fun g hg => ?_⟩
  · exact (h.grown.block j (Nat.lt_of_lt_of_le hj hb.size) hne).trans (hb.block j hj)
  · rcases h.lies g hg with h1 | h1
    · exact .inl h1
    · exact .inr (Nat.le_trans hb.size h1)
theorem Grew.toBelow {w w' : World} {v v' : Value} {B : Nat} {a : World} (h : Grew w v w' v') (hb : Below B a w) (hB : B ≤ w.heap.size) (hv : ∀ g, v.ownBlock = some g → B ≤ g) : Below B a w' := hb.grown h.grown hB hv
theorem grown_alloc (w : World) (o : Obj) : w.grownBy (w.alloc o) none := ⟨rfl, rfl, rfl, by simp, fun k hk _ => Below.heap_alloc _ _ _ hk⟩
theorem om_froz {w : World} {B : Nat} {e : TypeId} {k g n cap : Nat} {xs : List Value} (h : w.ownsRow B e k (.slice (some ⟨g, 0, none⟩) n cap) n xs) (j : Nat) : w.frozen? ⟨g, j, none⟩ = false := World.ownsRow.frozenAt h j
/-- Nothing but these lists' own blocks has changed. -/
structure Sp (K : Nat) (av : Nat → Option Addr) (n c : Nat → Nat) (w w' : World) : Prop where
  os : w'.os = w.os
  tape : w'.tape = w.tape
  output : w'.output = w.output
  size : w.heap.size ≤ w'.heap.size
  block : ∀ b, b < w.heap.size → (∀ k, k < K → (Value.slice (av k) (n k) (c k)).ownBlock ≠ some b) → w'.heap[b]? = w.heap[b]?
theorem Sp.refl (K : Nat) (av : Nat → Option Addr) (n c : Nat → Nat) (w : World) : Sp K av n c w w := ⟨rfl, rfl, rfl, Nat.le_refl _, fun _ _ _ => rfl⟩
theorem Sp.drew {K : Nat} {av : Nat → Option Addr} {n c : Nat → Nat} {w w1 : World} (h : Sp K av n c w w1) : Sp K av n c w w1.drew := ⟨h.os, h.tape, h.output, h.size, h.block⟩
theorem Sp.set {K : Nat} {av : Nat → Option Addr} {n c : Nat → Nat} {w w1 : World} (h : Sp K av n c w w1) {k P : Nat} (hk : k < K) (hA : av k = some ⟨P, 0, none⟩) (i : Nat) (u : Value) : Sp K av n c w (w1.setCell ⟨P, i, none⟩ u) :=
  ⟨h.os, h.tape, h.output, by simpa using h.size, fun b hb hn => (Below.heap_setCell _ _ _ _ (fun e => hn k hk (by rw [hA, e]; rfl))).trans (h.block b hb hn)⟩
theorem Sp.later {K : Nat} {av : Nat → Option Addr} {n c : Nat → Nat} {w w1 w2 : World} (h : Sp K av n c w w1) (hb : Below w1.heap.size w1 w2) : Sp K av n c w w2 :=
  ⟨hb.os.trans h.os, hb.tape.trans h.tape, hb.output.trans h.output, Nat.le_trans h.size hb.size, fun b hlt hn => (hb.block b (Nat.lt_of_lt_of_le hlt h.size)).trans (h.block b hlt hn)⟩
/-- What is known of the places of lists. -/
structure PlM (w1 : World) (B L K : Nat) (av : Nat → Option Addr) (n c : Nat → Nat) : Prop where
  lt : L < w1.heap.size
  notL : ∀ k, k < K → (Value.slice (av k) (n k) (c k)).ownBlock ≠ some L
  apart : ∀ j k g, j < K → k < K → (Value.slice (av j) (n j) (c j)).ownBlock = some g → (Value.slice (av k) (n k) (c k)).ownBlock = some g → j = k
  below : ∀ k, k < K → ∀ g, (Value.slice (av k) (n k) (c k)).ownBlock = some g → B ≤ g ∧ g < w1.heap.size
  some : ∀ k, k < K → 0 < n k → ∃ P, av k = some ⟨P, 0, none⟩
theorem ret_i {a b : Int} (h : a = b) : Ending.returned (.int .i64 a) = .returned (.int .i64 b) := by rw [h]
theorem ret_b {a b : Bool} (h : a = b) : Ending.returned (.bool a) = .returned (.bool b) := by rw [h]
end Go.Proofs.YtcdhblfefpkjgaaDoor
