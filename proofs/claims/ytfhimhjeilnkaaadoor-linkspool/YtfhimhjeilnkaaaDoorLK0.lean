/-
  My own text: layer 23: the mathematics of groups: union-find, the document's way, and what a walk along pairs meets.
-/
import Derived.Test.YtfhimhjeilnkaaaDoorErr
namespace Go.Proofs.YtfhimhjeilnkaaaDoor
open Go.RowKit

/-- A list that leads each thing to a lesser one of its group, R the group's least. -/
structure Lead (n : Nat) (L : List Nat) (R : Nat → Nat) : Prop where
  len : L.length = n
  at_ : ∀ x y, L[x]? = some y → y ≤ x ∧ R y = R x ∧ (y = x → R x = x)
theorem Lead.ex {n : Nat} {L : List Nat} {R : Nat → Nat} (h : Lead n L R) {x : Nat} (hx : x < n) : ∃ y, L[x]? = some y ∧ y ≤ x :=
  ⟨_, List.getElem?_eq_getElem (by rw [h.len]; exact hx), (h.at_ x _ (List.getElem?_eq_getElem (by rw [h.len]; exact hx))).1⟩
theorem Lead.root {n : Nat} {L : List Nat} {R : Nat → Nat} (h : Lead n L R) : ∀ (k x : Nat), x ≤ k → x < n → R x ≤ x ∧ R (R x) = R x ∧ L[R x]? = some (R x)
  | k, x, hk, hx => by
    obtain ⟨y, hy, hyx⟩ := h.ex hx
    obtain ⟨_, h2, h3⟩ := h.at_ x y hy
    by_cases e : y = x
    · have h4 := h3 e
      refine ⟨by omega, by rw [h4, h4], ?_⟩
      rw [h4, hy, e]
    · match k with
      | 0 => omega
      | k + 1 =>
        obtain ⟨a, b, c⟩ := h.root k y (by omega) (by omega)
        rw [h2] at a b c
        exact ⟨by omega, b, c⟩
theorem Lead.halve {n : Nat} {L : List Nat} {R : Nat → Nat} (h : Lead n L R) {x y z : Nat} (hy : L[x]? = some y) (hz : L[y]? = some z) : Lead n (L.set x z) R := by
  obtain ⟨a, b, c⟩ := h.at_ x y hy
  obtain ⟨a', b', c'⟩ := h.at_ y z hz
  refine ⟨by rw [List.length_set]; exact h.len, fun u v hv => ?_⟩
  rw [List.getElem?_set] at hv
  split at hv
  · rename_i e
    split at hv
    · cases hv; subst e
      exact ⟨by omega, by rw [b', b], fun e => by
        have : y = x := by omega
        exact c this⟩
    · cases hv
  · exact h.at_ u v hv
/-- Two groups become one. -/
def mrg (R : Nat → Nat) (p : Nat × Nat) : Nat → Nat := fun y => if R y = max (R p.1) (R p.2) then min (R p.1) (R p.2) else R y
theorem Lead.union {n : Nat} {L : List Nat} {R : Nat → Nat} (h : Lead n L R) {p : Nat × Nat} (h1 : p.1 < n) (h2 : p.2 < n) : Lead n (L.set (max (R p.1) (R p.2)) (min (R p.1) (R p.2))) (mrg R p) := by
  obtain ⟨a1, b1, _⟩ := h.root p.1 p.1 (Nat.le_refl _) h1
  obtain ⟨a2, b2, _⟩ := h.root p.2 p.2 (Nat.le_refl _) h2
  obtain ⟨M, hM⟩ : ∃ M, max (R p.1) (R p.2) = M := ⟨_, rfl⟩
  obtain ⟨m, hm⟩ : ∃ m, min (R p.1) (R p.2) = m := ⟨_, rfl⟩
  have hMR : R M = M := by rw [← hM, Nat.max_def]; split <;> assumption
  have hmR : R m = m := by rw [← hm, Nat.min_def]; split <;> assumption
  have hle : m ≤ M := by omega
  have hmm : mrg R p m = m := by unfold mrg; rw [hM, hm, hmR]; split <;> rfl
  have hMm : mrg R p M = m := by unfold mrg; rw [hM, hm, hMR, if_pos rfl]
  rw [hM, hm]
  refine ⟨by rw [List.length_set]; exact h.len, fun x y hy => ?_⟩
  rw [List.getElem?_set] at hy
  split at hy
  · rename_i e
    split at hy
    · cases hy; subst e
      exact ⟨hle, by rw [hmm, hMm], fun e => by rw [hMm, e]⟩
    · cases hy
  · rename_i e
    obtain ⟨a, b, c⟩ := h.at_ x y hy
    refine ⟨a, by unfold mrg; rw [b], fun e2 => ?_⟩
    have := c e2
    unfold mrg
    rw [this, hM, if_neg (by omega)]
/-- The least of each thing's group, by these pairs. -/
def rk (ps : List (Nat × Nat)) : Nat → Nat := ps.foldl mrg (fun x => x)
theorem rk_snoc (ps : List (Nat × Nat)) (p : Nat × Nat) : rk (ps ++ [p]) = mrg (rk ps) p := by unfold rk; rw [List.foldl_append]; rfl
theorem rk_nil : rk [] = fun x => x := rfl
theorem snoc_ind {α : Type} {P : List α → Prop} (h0 : P []) (h1 : ∀ l a, P l → P (l ++ [a])) : ∀ l, P l := by
  intro l
  have : ∀ m : List α, P m.reverse := by
    intro m
    induction m with
    | nil => exact h0
    | cons a t ih => rw [List.reverse_cons]; exact h1 _ _ ih
  have h := this l.reverse
  rwa [List.reverse_reverse] at h
theorem rk_le (ps : List (Nat × Nat)) : ∀ x, rk ps x ≤ x ∧ rk ps (rk ps x) = rk ps x := by
  refine snoc_ind (P := fun ps => ∀ x, rk ps x ≤ x ∧ rk ps (rk ps x) = rk ps x) (fun x => ⟨Nat.le_refl _, rfl⟩) (fun l p ih x => ?_) ps
  rw [rk_snoc]
  obtain ⟨R, hR⟩ : ∃ R, rk l = R := ⟨_, rfl⟩
  rw [hR] at ih ⊢
  have i1 := ih p.1
  have i2 := ih p.2
  obtain ⟨M, hM⟩ : ∃ M, max (R p.1) (R p.2) = M := ⟨_, rfl⟩
  obtain ⟨m, hm⟩ : ∃ m, min (R p.1) (R p.2) = m := ⟨_, rfl⟩
  have hmR : R m = m := by rw [← hm, Nat.min_def]; split; exact i1.2; exact i2.2
  have ix := ih x
  unfold mrg
  rw [hM, hm]
  by_cases e : R x = M
  · rw [if_pos e, hmR]
    refine ⟨by omega, by split <;> rfl⟩
  · rw [if_neg e, ix.2, if_neg e]
    exact ⟨ix.1, rfl⟩
theorem mrg_pair (R : Nat → Nat) (p : Nat × Nat) : mrg R p p.1 = mrg R p p.2 := by
  unfold mrg
  by_cases e : R p.1 = R p.2
  · rw [e]
  · rcases Nat.lt_or_ge (R p.1) (R p.2) with h | h
    · rw [if_neg (by omega), if_pos (by omega)]; omega
    · rw [if_pos (by omega), if_neg (by omega)]; omega
theorem rk_pair (ps : List (Nat × Nat)) : ∀ p ∈ ps, rk ps p.1 = rk ps p.2 := by
  refine snoc_ind (P := fun ps => ∀ p ∈ ps, rk ps p.1 = rk ps p.2) (fun p hp => by simp at hp) (fun l q ih p hp => ?_) ps
  rw [rk_snoc]
  rw [List.mem_append] at hp
  rcases hp with hp | hp
  · unfold mrg; rw [ih p hp]
  · simp at hp; subst hp; exact mrg_pair _ _
/-- What is the same for the two of each pair is the same all over a group. -/
theorem rk_closed {α : Type} (f : Nat → α) (ps : List (Nat × Nat)) (h : ∀ p ∈ ps, f p.1 = f p.2) : ∀ x, f (rk ps x) = f x := by
  revert h
  refine snoc_ind (P := fun ps => (∀ p ∈ ps, f p.1 = f p.2) → ∀ x, f (rk ps x) = f x) (fun _ x => rfl) (fun l q ih h x => ?_) ps
  have ih := ih fun p hp => h p (List.mem_append_left _ hp)
  have hq := h q (List.mem_append_right _ (List.mem_singleton.2 rfl))
  rw [rk_snoc]
  unfold mrg
  by_cases e : rk l x = max (rk l q.1) (rk l q.2)
  · rw [if_pos e]
    have i1 := ih q.1
    have i2 := ih q.2
    have ix := ih x
    rw [e] at ix
    rw [← ix]
    rcases Nat.lt_or_ge (rk l q.1) (rk l q.2) with h | h
    · rw [show min (rk l q.1) (rk l q.2) = rk l q.1 by omega, show max (rk l q.1) (rk l q.2) = rk l q.2 by omega, i1, i2, hq]
    · rw [show min (rk l q.1) (rk l q.2) = rk l q.2 by omega, show max (rk l q.1) (rk l q.2) = rk l q.1 by omega, i1, i2, hq]
  · rw [if_neg e]; exact ih x
theorem Lead.start (n : Nat) : Lead n (List.range n) (rk []) :=
  ⟨List.length_range, fun x y hy => by
    have hx : x < n := by have := (List.getElem?_eq_some_iff.1 hy).1; rwa [List.length_range] at this
    rw [List.getElem?_range hx] at hy
    cases hy
    exact ⟨Nat.le_refl _, rfl, fun _ => rfl⟩⟩
/-- The answer. -/
def grp (n : Nat) (ps : List (Nat × Nat)) : List Nat := (List.range n).map (rk ps)
theorem grp_len (n : Nat) (ps : List (Nat × Nat)) : (grp n ps).length = n := by simp [grp]
theorem grp_at {n : Nat} (ps : List (Nat × Nat)) {x : Nat} (h : x < n) : (grp n ps)[x]? = some (rk ps x) := by
  unfold grp; rw [List.getElem?_map, List.getElem?_range h]; rfl
/-- The first k things lead to their least one. -/
theorem Lead.done {n : Nat} {L : List Nat} {ps : List (Nat × Nat)} (h : Lead n L (rk ps)) (hk : ∀ x, x < n → L[x]? = some (rk ps x)) : L = grp n ps := by
  apply List.ext_getElem?
  intro x
  by_cases hx : x < n
  · rw [hk x hx, grp_at ps hx]
  · rw [List.getElem?_eq_none (by rw [h.len]; omega), List.getElem?_eq_none (by rw [grp_len]; omega)]
theorem Lead.last {n : Nat} {L : List Nat} {R : Nat → Nat} (h : Lead n L R) {k y z : Nat} (hk : ∀ x, x < k → L[x]? = some (R x)) (hy : L[k]? = some y) (hz : L[y]? = some z) : z = R k ∧ ∀ x, x < k + 1 → (L.set k z)[x]? = some (R x) := by
  obtain ⟨a, b, c⟩ := h.at_ k y hy
  have hkl := (List.getElem?_eq_some_iff.1 hy).1
  have e : z = R k := by
    by_cases e : y = k
    · have := c e
      subst e
      rw [hz] at hy
      cases hy
      exact this.symm
    · have := hk y (by omega)
      rw [hz] at this
      cases this
      exact b
  refine ⟨e, fun x hx => ?_⟩
  rw [List.getElem?_set]
  by_cases ex : k = x
  · subst ex; rw [if_pos rfl, if_pos hkl, e]
  · rw [if_neg ex]; exact hk x (by omega)

/-! the document's way -/
structure Dl (n : Nat) (l : List Nat) (R : Nat → Nat) : Prop where
  len : l.length = n
  at_ : ∀ x y, l[x]? = some y → y ≤ x ∧ R y = R x
theorem Dl.start (n : Nat) (R : Nat → Nat) : Dl n (List.range n) R :=
  ⟨List.length_range, fun x y hy => by
    have hx : x < n := by have := (List.getElem?_eq_some_iff.1 hy).1; rwa [List.length_range] at this
    rw [List.getElem?_range hx] at hy
    cases hy
    exact ⟨Nat.le_refl _, rfl⟩⟩
theorem Dl.take {n : Nat} {l : List Nat} {R : Nat → Nat} (h : Dl n l R) {a b x y : Nat} (ha : l[a]? = some x) (hb : l[b]? = some y) (hR : R a = R b) (hlt : x < y) : Dl n (l.set b x) R := by
  obtain ⟨_, a2⟩ := h.at_ a x ha
  obtain ⟨b1, b2⟩ := h.at_ b y hb
  refine ⟨by rw [List.length_set]; exact h.len, fun u v hv => ?_⟩
  rw [List.getElem?_set] at hv
  split at hv
  · rename_i e
    split at hv
    · cases hv; subst e
      exact ⟨by omega, by rw [a2, hR]⟩
    · cases hv
  · exact h.at_ u v hv
theorem sum_set : ∀ {l : List Nat} {b x y : Nat}, l[b]? = some y → x < y → (l.set b x).sum < l.sum
  | c :: t, 0, x, y, h, hlt => by simp at h; subst h; simp; omega
  | c :: t, b + 1, x, y, h, hlt => by
    have h' : t[b]? = some y := by simpa using h
    have := sum_set h' hlt
    simp; omega
theorem Dl.closed {n : Nat} {l : List Nat} {ps : List (Nat × Nat)} (h : Dl n l (rk ps)) (hc : ∀ p ∈ ps, l[p.1]? = l[p.2]?) : l = grp n ps := by
  apply List.ext_getElem?
  intro x
  by_cases hx : x < n
  · rw [grp_at ps hx]
    have hl := List.getElem?_eq_getElem (l := l) (i := x) (by rw [h.len]; exact hx)
    obtain ⟨y, hy⟩ : ∃ y, l[x]? = some y := ⟨_, hl⟩
    have h1 := rk_closed (fun z => l[z]?) ps hc x
    have h2 := (rk_le ps x).1
    simp only [hy] at h1
    obtain ⟨a1, a2⟩ := h.at_ _ _ h1
    have a3 := (rk_le ps y).1
    rw [hy]
    rw [a2, (rk_le ps x).2] at a3
    congr 1; omega
  · rw [List.getElem?_eq_none (by rw [h.len]; omega), List.getElem?_eq_none (by rw [grp_len]; omega)]

/-! what is met -/
def cnt (m : List Bool) : Nat := m.countP (· = true)
theorem cnt_le (m : List Bool) : cnt m ≤ m.length := List.countP_le_length
theorem cnt_set : ∀ {m : List Bool} {a : Nat}, m[a]? = some false → cnt (m.set a true) = cnt m + 1
  | b :: t, 0, h => by simp at h; subst h; simp [cnt]
  | b :: t, a + 1, h => by
    have h' : t[a]? = some false := by simpa using h
    have := cnt_set h'
    unfold cnt at this ⊢
    rw [List.set_cons_succ, List.countP_cons, List.countP_cons, this]; omega
theorem cnt_same {m : List Bool} {a : Nat} (h : m[a]? = some true) : m.set a true = m := by
  apply List.ext_getElem?
  intro x
  rw [List.getElem?_set]
  split
  · rename_i e; subst e
    rw [if_pos (List.getElem?_eq_some_iff.1 h).1, h]
  · rfl
theorem cnt_mono (m : List Bool) (a : Nat) : cnt m ≤ cnt (m.set a true) := by
  by_cases ha : a < m.length
  · cases e : m[a]? with
    | none => rw [List.getElem?_eq_none_iff] at e; omega
    | some b =>
      cases b with
      | true => rw [cnt_same e]; omega
      | false => rw [cnt_set e]; omega
  · rw [List.set_eq_of_length_le (by omega)]; omega
/-- One pair looked at. -/
def mst (m : List Bool) (p : Nat × Nat) : List Bool := if (m[p.1]? == some true) || (m[p.2]? == some true) then (m.set p.1 true).set p.2 true else m
theorem mst_len (m : List Bool) (p : Nat × Nat) : (mst m p).length = m.length := by unfold mst; split <;> simp
theorem mst_mono (m : List Bool) (p : Nat × Nat) : cnt m ≤ cnt (mst m p) := by
  unfold mst; split
  · exact Nat.le_trans (cnt_mono m p.1) (cnt_mono _ p.2)
  · exact Nat.le_refl _
theorem mst_keep {m : List Bool} {p : Nat × Nat} {x : Nat} (h : m[x]? = some true) : (mst m p)[x]? = some true := by
  have hx := (List.getElem?_eq_some_iff.1 h).1
  unfold mst; split
  · rw [List.getElem?_set, List.getElem?_set]
    split
    · rename_i e; rw [if_pos (by rw [List.length_set]; omega)]
    · split
      · rename_i e; rw [if_pos (by omega)]
      · exact h
  · exact h
/-- A pair changes nothing: the two are both met or both not; or one more is met. -/
theorem mst_step (m : List Bool) (p : Nat × Nat) (h1 : p.1 < m.length) (h2 : p.2 < m.length) : (mst m p = m ∧ m[p.1]? = m[p.2]?) ∨ cnt m + 1 ≤ cnt (mst m p) := by
  obtain ⟨a, ha⟩ : ∃ a, m[p.1]? = some a := ⟨_, List.getElem?_eq_getElem h1⟩
  obtain ⟨b, hb⟩ : ∃ b, m[p.2]? = some b := ⟨_, List.getElem?_eq_getElem h2⟩
  unfold mst
  rw [ha, hb]
  cases a <;> cases b
  · left; simp
  · right
    rw [if_pos (by simp)]
    exact Nat.le_trans (by rw [cnt_set ha]; omega) (cnt_mono _ _)
  · right
    rw [if_pos (by simp), cnt_same ha, cnt_set hb]; omega
  · left
    rw [if_pos (by simp), cnt_same ha, cnt_same hb]
    exact ⟨rfl, rfl⟩
/-- All pairs looked at, one behind the other. -/
def mrd (m : List Bool) (ps : List (Nat × Nat)) : List Bool := ps.foldl mst m
theorem mrd_snoc (m : List Bool) (ps : List (Nat × Nat)) (p : Nat × Nat) : mrd m (ps ++ [p]) = mst (mrd m ps) p := by unfold mrd; rw [List.foldl_append]; rfl
theorem mrd_len (m : List Bool) (ps : List (Nat × Nat)) : (mrd m ps).length = m.length := by
  refine snoc_ind (P := fun ps => (mrd m ps).length = m.length) rfl (fun l p ih => ?_) ps
  rw [mrd_snoc, mst_len, ih]
theorem mrd_keep (m : List Bool) (ps : List (Nat × Nat)) {x : Nat} (h : m[x]? = some true) : (mrd m ps)[x]? = some true := by
  refine snoc_ind (P := fun ps => (mrd m ps)[x]? = some true) h (fun l p ih => ?_) ps
  rw [mrd_snoc]; exact mst_keep ih
theorem mrd_round (m : List Bool) (ps : List (Nat × Nat)) : (∀ p ∈ ps, p.1 < m.length ∧ p.2 < m.length) → (mrd m ps = m ∧ ∀ p ∈ ps, m[p.1]? = m[p.2]?) ∨ cnt m + 1 ≤ cnt (mrd m ps) := by
  refine snoc_ind (P := fun ps => (∀ p ∈ ps, p.1 < m.length ∧ p.2 < m.length) → (mrd m ps = m ∧ ∀ p ∈ ps, m[p.1]? = m[p.2]?) ∨ cnt m + 1 ≤ cnt (mrd m ps)) (fun _ => .inl ⟨rfl, fun p hp => by simp at hp⟩) (fun l p ih h => ?_) ps
  have hp := h p (List.mem_append_right _ (List.mem_singleton.2 rfl))
  rw [mrd_snoc]
  rcases ih fun q hq => h q (List.mem_append_left _ hq) with ⟨e, hc⟩ | hlt
  · rw [e]
    rcases mst_step m p hp.1 hp.2 with ⟨e2, hc2⟩ | hlt
    · refine .inl ⟨e2, fun q hq => ?_⟩
      rw [List.mem_append] at hq
      rcases hq with hq | hq
      · exact hc q hq
      · simp at hq; subst hq; exact hc2
    · exact .inr hlt
  · exact .inr (Nat.le_trans hlt (mst_mono _ _))
/-- So many rounds. -/
def mrs (m : List Bool) (ps : List (Nat × Nat)) : Nat → List Bool
  | 0 => m
  | k + 1 => mrd (mrs m ps k) ps
theorem mrs_len (m : List Bool) (ps : List (Nat × Nat)) : ∀ k, (mrs m ps k).length = m.length
  | 0 => rfl
  | k + 1 => by show (mrd _ _).length = _; rw [mrd_len, mrs_len m ps k]
theorem mrs_keep (m : List Bool) (ps : List (Nat × Nat)) {x : Nat} (h : m[x]? = some true) : ∀ k, (mrs m ps k)[x]? = some true
  | 0 => h
  | k + 1 => mrd_keep _ _ (mrs_keep m ps h k)
theorem mrs_rounds (m : List Bool) (ps : List (Nat × Nat)) (h : ∀ p ∈ ps, p.1 < m.length ∧ p.2 < m.length) : ∀ k, (∀ p ∈ ps, (mrs m ps k)[p.1]? = (mrs m ps k)[p.2]?) ∨ cnt m + k ≤ cnt (mrs m ps k)
  | 0 => .inr (Nat.le_refl _)
  | k + 1 => by
    have hl := mrs_len m ps k
    have hk : ∀ p ∈ ps, p.1 < (mrs m ps k).length ∧ p.2 < (mrs m ps k).length := fun p hp => by rw [hl]; exact h p hp
    show (∀ p ∈ ps, (mrd (mrs m ps k) ps)[p.1]? = (mrd (mrs m ps k) ps)[p.2]?) ∨ cnt m + (k + 1) ≤ cnt (mrd (mrs m ps k) ps)
    rcases mrd_round _ ps hk with ⟨e, hc⟩ | hlt
    · rw [e]; exact .inl hc
    · rcases mrs_rounds m ps h k with hc | hc
      · left
        have : mrd (mrs m ps k) ps = mrs m ps k := by
          have hst : ∀ l : List (Nat × Nat), (∀ p ∈ l, p ∈ ps) → mrd (mrs m ps k) l = mrs m ps k := by
            refine snoc_ind (fun _ => rfl) (fun l p ih hl2 => ?_)
            rw [mrd_snoc, ih fun q hq => hl2 q (List.mem_append_left _ hq)]
            have hp := hl2 p (List.mem_append_right _ (List.mem_singleton.2 rfl))
            have e2 := hc p hp
            obtain ⟨a, ha⟩ : ∃ a, (mrs m ps k)[p.1]? = some a := ⟨_, List.getElem?_eq_getElem (hk p hp).1⟩
            unfold mst
            rw [← e2, ha]
            cases a
            · rfl
            · rw [if_pos (by rfl), cnt_same ha, cnt_same (by rw [← e2]; exact ha)]
          exact hst ps fun _ hp => hp
        rw [this]; exact hc
      · right; omega
/-- All are met behind as many rounds as there are things. -/
theorem met_all {n : Nat} {ps : List (Nat × Nat)} {m : List Bool} (hl : m.length = n) (hn : ∀ p ∈ ps, p.1 < n ∧ p.2 < n) (h0 : ∀ x, x < n → m[x]? = some (decide (rk ps x = x))) : ∀ x, x < n → (mrs m ps n)[x]? = some true := by
  intro x hx
  have h1 : ∀ p ∈ ps, p.1 < m.length ∧ p.2 < m.length := fun p hp => by rw [hl]; exact hn p hp
  have hc : ∀ p ∈ ps, (mrs m ps n)[p.1]? = (mrs m ps n)[p.2]? := by
    rcases mrs_rounds m ps h1 n with hc | hc
    · exact hc
    · exfalso
      have h2 := cnt_le (mrs m ps n)
      rw [mrs_len, hl] at h2
      have h3 : 1 ≤ cnt m := by
        have e : m[0]? = some true := by rw [h0 0 (by omega)]; simp; have := (rk_le ps 0).1; omega
        unfold cnt
        exact List.countP_pos_iff.2 ⟨true, List.mem_of_getElem? e, by simp⟩
      omega
  have h4 := rk_closed (fun z => (mrs m ps n)[z]?) ps hc x
  have h5 := rk_le ps x
  rw [← h4]
  exact mrs_keep m ps (by rw [h0 _ (by omega), h5.2]; simp) n
end Go.Proofs.YtfhimhjeilnkaaaDoor
