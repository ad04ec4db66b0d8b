/-
  My own text: layer 23: the mathematics of merging in place (SymMerge): rows told by places of others, rotations, the turning place.
-/
import Derived.Test.YtieinnhiaomliaaDoorLS0
namespace Go.Proofs.YtieinnhiaomliaaDoor
open Go.RowKit

/-- A row told by places of another. -/
structure Via (L R : List Nat) (f : Nat → Nat) : Prop where
  len : R.length = L.length
  at_ : ∀ t : Nat, R[t]? = L[f t]?
/-- Where things come from when [a, m) and [m, b) change places. -/
def rho (a m b t : Nat) : Nat := if t < a then t else if t < a + (b - m) then t - a + m else if t < b then t - (a + (b - m)) + a else t
/-- Where things come from when [a, a + k) and [b, b + k) are swapped. -/
def sgm (a b k t : Nat) : Nat := if a ≤ t ∧ t < a + k then t - a + b else if b ≤ t ∧ t < b + k then t - b + a else t
theorem Via.refl (L : List Nat) : Via L L (fun t => t) := ⟨rfl, fun _ => rfl⟩
theorem Via.congr {L R : List Nat} {f g : Nat → Nat} (h : Via L R f) (e : ∀ t, f t = g t) : Via L R g := ⟨h.len, fun t => by rw [h.at_, e]⟩
theorem Via.comp {L M R : List Nat} {f g : Nat → Nat} (h : Via L M f) (k : Via M R g) : Via L R (fun t => f (g t)) := ⟨k.len.trans h.len, fun t => by rw [k.at_, h.at_]⟩
/-- One more pair is swapped. -/
theorem Via.swap {L M : List Nat} {a b k x y : Nat} (h : Via L M (sgm a b k)) (hab : a + k < b) (hx : M[a + k]? = some x) (hy : M[b + k]? = some y) : Via L ((M.set (a + k) y).set (b + k) x) (sgm a b (k + 1)) := by
  have h1 := (List.getElem?_eq_some_iff.1 hx).1
  have h2 := (List.getElem?_eq_some_iff.1 hy).1
  refine ⟨by rw [List.length_set, List.length_set]; exact h.len, fun t => ?_⟩
  rw [List.getElem?_set, List.getElem?_set]
  by_cases e : b + k = t
  · subst e
    rw [if_pos rfl, if_pos (by rw [List.length_set]; exact h2)]
    have e2 : sgm a b (k + 1) (b + k) = a + k := by unfold sgm; rw [if_neg (by omega), if_pos (by omega)]; omega
    have e3 : sgm a b k (a + k) = a + k := by unfold sgm; rw [if_neg (by omega), if_neg (by omega)]
    rw [e2, ← hx, h.at_, e3]
  · rw [if_neg e]
    by_cases e1 : a + k = t
    · subst e1
      rw [if_pos rfl, if_pos h1]
      have e2 : sgm a b (k + 1) (a + k) = b + k := by unfold sgm; rw [if_pos (by omega)]; omega
      have e3 : sgm a b k (b + k) = b + k := by unfold sgm; rw [if_neg (by omega), if_neg (by omega)]
      rw [e2, ← hy, h.at_, e3]
    · rw [if_neg e1, h.at_]
      congr 1
      unfold sgm
      repeat' split
      all_goals omega
theorem sgm_zero (a b t : Nat) : t = sgm a b 0 t := by unfold sgm; rw [if_neg (by omega), if_neg (by omega)]
/-- The three steps of a rotation. -/
theorem rot_gt {m i j t : Nat} (hi : i ≤ m) (hj : 0 < j) (h : j < i) : sgm (m - i) m j (rho (m - (i - j)) m (m + j) t) = rho (m - i) m (m + j) t := by
  unfold sgm rho
  repeat' split
  all_goals omega
theorem rot_lt {m i j t : Nat} (hi : i ≤ m) (hj : 0 < i) (h : i < j) : sgm (m - i) (m + j - i) i (rho (m - i) m (m + (j - i)) t) = rho (m - i) m (m + j) t := by
  unfold sgm rho
  repeat' split
  all_goals omega
theorem rot_eq {m i t : Nat} (hi : i ≤ m) : sgm (m - i) m i t = rho (m - i) m (m + i) t := by
  unfold sgm rho
  repeat' split
  all_goals omega
theorem rho_none {a m b t : Nat} (h : a = m ∨ m = b) (ham : a ≤ m) (hmb : m ≤ b) : rho a m b t = t := by
  unfold rho
  repeat' split
  all_goals omega
theorem rho_rng {a m b t : Nat} (ham : a ≤ m) (hmb : m ≤ b) : (a ≤ t ∧ t < b → a ≤ rho a m b t ∧ rho a m b t < b) ∧ (t < a ∨ b ≤ t → rho a m b t = t) := by
  unfold rho
  constructor
  · intro h; repeat' split
    all_goals omega
  · intro h; repeat' split
    all_goals omega
/-- Stably so: those that come ahead are more urgent. -/
theorem SI.rot {pr : Nat → Int} {n : Nat} {L R : List Nat} {s m e : Nat} (h : SI pr n L) (hv : Via L R (rho s m e)) (hs : s ≤ m) (hm : m ≤ e) (hlt : ∀ u v x y : Nat, s ≤ u → u < m → m ≤ v → v < e → L[u]? = some x → L[v]? = some y → pr x < pr y) : SI pr n R := by
  refine ⟨hv.len.trans h.len, fun j x hx => h.lt _ x (by rw [← hv.at_]; exact hx), fun u v x y huv hx hy hp => ?_⟩
  rw [hv.at_] at hx hy
  by_cases q : rho s m e u < rho s m e v
  · exact h.st _ _ x y q hx hy hp
  · exfalso
    have hne : rho s m e u ≠ rho s m e v := by
      intro q2
      revert q2
      unfold rho
      repeat' split
      all_goals omega
    have h2 : s ≤ rho s m e v ∧ rho s m e v < m ∧ m ≤ rho s m e u ∧ rho s m e u < e := by
      revert q hne
      unfold rho
      repeat' split
      all_goals omega
    have := hlt _ _ y x h2.1 h2.2.1 h2.2.2.1 h2.2.2.2 hy hx
    omega
theorem Srt.none {pr : Nat → Int} {L : List Nat} {a b : Nat} (h : b ≤ a + 1) : Srt pr L a b := fun u v x y h1 h2 h3 => by omega
/-- The least place of the second run that isn't ahead of x. -/
def FB (f : Nat → Prop) (lo hi i : Nat) : Prop := lo ≤ i ∧ i ≤ hi ∧ (i = lo ∨ f (i - 1)) ∧ (i = hi ∨ ¬ f i)
/-- One thing ahead of a run, put into it. -/
theorem merge_one {pr : Nat → Int} {n a b i x : Nat} {L R : List Nat} (h : SI pr n L) (hab : a + 1 < b) (hbn : b ≤ n) (hx : L[a]? = some x) (hs : Srt pr L (a + 1) b)
    (hf : FB (fun t => ∃ y, L[t]? = some y ∧ pr x < pr y) (a + 1) b i) (hv : Via L R (rho a (a + 1) i)) : SI pr n R ∧ Srt pr R a b ∧ (∀ t, t < a ∨ b ≤ t → R[t]? = L[t]?) ∧ (∀ j z : Nat, a ≤ j → j < b → R[j]? = some z → ∃ k, a ≤ k ∧ k < b ∧ L[k]? = some z) := by
  obtain ⟨f1, f2, f3, f4⟩ := hf
  have up : ∀ t y, a + 1 ≤ t → t < i → L[t]? = some y → pr x < pr y := fun t y h1 h2 hy => by
    rcases f3 with q | ⟨z, hz, hp⟩
    · omega
    · by_cases e : t = i - 1
      · subst e; rw [hy] at hz; cases hz; exact hp
      · have := hs t (i - 1) y z h1 (by omega) (by omega) hy hz; omega
  have dn : ∀ t y, i ≤ t → t < b → L[t]? = some y → pr y ≤ pr x := fun t y h1 h2 hy => by
    rcases f4 with q | q
    · omega
    · obtain ⟨z, hz⟩ : ∃ z, L[i]? = some z := ⟨_, List.getElem?_eq_getElem (by rw [h.len]; omega)⟩
      have h3 : pr z ≤ pr x := by
        apply Classical.byContradiction
        intro h4
        exact q ⟨z, hz, by omega⟩
      by_cases e : t = i
      · subst e; rw [hy] at hz; cases hz; exact h3
      · have := hs i t z y (by omega) (by omega) h2 hz hy; omega
  refine ⟨h.rot hv (by omega) (by omega) (fun u v p q h1 h2 h3 h4 hp hq => ?_), fun u v p q h1 h2 h3 hp hq => ?_, fun t ht => ?_, fun j z h1 h2 hz => ?_⟩
  · have e : u = a := by omega
    subst e; rw [hx] at hp; cases hp
    exact up v q h3 h4 hq
  · rw [hv.at_] at hp hq
    have hu : rho a (a + 1) i u = if u + 1 < i then u + 1 else if u + 1 = i then a else u := by unfold rho; (repeat' split) <;> omega
    have hw : rho a (a + 1) i v = if v + 1 < i then v + 1 else if v + 1 = i then a else v := by unfold rho; (repeat' split) <;> omega
    rw [hu] at hp
    rw [hw] at hq
    by_cases c1 : v + 1 < i
    · rw [if_pos c1] at hq
      rw [if_pos (by omega)] at hp
      exact hs _ _ p q (by omega) (by omega) (by omega) hp hq
    · rw [if_neg c1] at hq
      by_cases c2 : v + 1 = i
      · rw [if_pos c2] at hq
        rw [hx] at hq; cases hq
        rw [if_pos (by omega)] at hp
        have := up (u + 1) p (by omega) (by omega) hp
        omega
      · rw [if_neg c2] at hq
        by_cases d1 : u + 1 < i
        · rw [if_pos d1] at hp
          have h5 := up _ p (by omega) (by omega) hp
          have h6 := dn v q (by omega) h3 hq
          omega
        · rw [if_neg d1] at hp
          by_cases d2 : u + 1 = i
          · rw [if_pos d2] at hp
            rw [hx] at hp; cases hp
            exact dn v q (by omega) h3 hq
          · rw [if_neg d2] at hp
            exact hs u v p q (by omega) h2 h3 hp hq
  · rw [hv.at_, (rho_rng (by omega) (by omega)).2 (by omega)]
  · rw [hv.at_] at hz
    by_cases c : j < i
    · have := (rho_rng (a := a) (m := a + 1) (b := i) (t := j) (by omega) (by omega)).1 ⟨h1, c⟩
      exact ⟨_, this.1, by omega, hz⟩
    · rw [(rho_rng (by omega) (by omega)).2 (by omega)] at hz
      exact ⟨j, h1, h2, hz⟩
/-- One thing behind a run, put into it. -/
theorem merge_last {pr : Nat → Int} {n a m i x : Nat} {L R : List Nat} (h : SI pr n L) (ham : a < m) (hmn : m < n) (hx : L[m]? = some x) (hs : Srt pr L a m)
    (hf : FB (fun t => ∃ y, L[t]? = some y ∧ pr x ≤ pr y) a m i) (hv : Via L R (rho i m (m + 1))) : SI pr n R ∧ Srt pr R a (m + 1) ∧ (∀ t, t < a ∨ m + 1 ≤ t → R[t]? = L[t]?) ∧ (∀ j z : Nat, a ≤ j → j < m + 1 → R[j]? = some z → ∃ k, a ≤ k ∧ k < m + 1 ∧ L[k]? = some z) := by
  obtain ⟨f1, f2, f3, f4⟩ := hf
  have up : ∀ t y, a ≤ t → t < i → L[t]? = some y → pr x ≤ pr y := fun t y h1 h2 hy => by
    rcases f3 with q | ⟨z, hz, hp⟩
    · omega
    · by_cases e : t = i - 1
      · subst e; rw [hy] at hz; cases hz; exact hp
      · have := hs t (i - 1) y z h1 (by omega) (by omega) hy hz; omega
  have dn : ∀ t y, i ≤ t → t < m → L[t]? = some y → pr y < pr x := fun t y h1 h2 hy => by
    rcases f4 with q | q
    · omega
    · obtain ⟨z, hz⟩ : ∃ z, L[i]? = some z := ⟨_, List.getElem?_eq_getElem (by rw [h.len]; omega)⟩
      have h3 : pr z < pr x := by
        apply Classical.byContradiction
        intro h4
        exact q ⟨z, hz, by omega⟩
      by_cases e : t = i
      · subst e; rw [hy] at hz; cases hz; exact h3
      · have := hs i t z y (by omega) (by omega) h2 hz hy; omega
  refine ⟨h.rot hv (by omega) (by omega) (fun u v p q h1 h2 h3 h4 hp hq => ?_), fun u v p q h1 h2 h3 hp hq => ?_, fun t ht => ?_, fun j z h1 h2 hz => ?_⟩
  · have e : v = m := by omega
    subst e; rw [hx] at hq; cases hq
    exact dn u p h1 h2 hp
  · rw [hv.at_] at hp hq
    have hu : rho i m (m + 1) u = if u < i then u else if u = i then m else if u < m + 1 then u - 1 else u := by unfold rho; (repeat' split) <;> omega
    have hw : rho i m (m + 1) v = if v < i then v else if v = i then m else if v < m + 1 then v - 1 else v := by unfold rho; (repeat' split) <;> omega
    rw [hu] at hp
    rw [hw] at hq
    by_cases c1 : v < i
    · rw [if_pos c1] at hq
      rw [if_pos (by omega)] at hp
      exact hs _ _ p q (by omega) (by omega) (by omega) hp hq
    · rw [if_neg c1] at hq
      by_cases c2 : v = i
      · rw [if_pos c2] at hq
        rw [hx] at hq; cases hq
        rw [if_pos (by omega)] at hp
        exact up u p (by omega) (by omega) hp
      · rw [if_neg c2, if_pos (by omega)] at hq
        by_cases d1 : u < i
        · rw [if_pos d1] at hp
          exact hs u (v - 1) p q h1 (by omega) (by omega) hp hq
        · rw [if_neg d1] at hp
          by_cases d2 : u = i
          · rw [if_pos d2] at hp
            rw [hx] at hp; cases hp
            have := dn (v - 1) q (by omega) (by omega) hq
            omega
          · rw [if_neg d2, if_pos (by omega)] at hp
            exact hs (u - 1) (v - 1) p q (by omega) (by omega) (by omega) hp hq
  · rw [hv.at_, (rho_rng (by omega) (by omega)).2 (by omega)]
  · rw [hv.at_] at hz
    by_cases c : j < i
    · rw [(rho_rng (by omega) (by omega)).2 (by omega)] at hz
      exact ⟨j, h1, h2, hz⟩
    · have := (rho_rng (a := i) (m := m) (b := m + 1) (t := j) (by omega) (by omega)).1 ⟨by omega, h2⟩
      exact ⟨_, by omega, by omega, hz⟩
/-- Two runs: the search for the turning place. -/
structure TP (pr : Nat → Int) (L : List Nat) (a m b s0 r0 s : Nat) : Prop where
  lo : s0 ≤ s
  hi : s ≤ r0
  dn : s = s0 ∨ ∀ x y : Nat, L[s - 1]? = some x → L[(a + b) / 2 + m - s]? = some y → pr y ≤ pr x
  up : s = r0 ∨ ∀ x y : Nat, L[s]? = some x → L[(a + b) / 2 + m - s - 1]? = some y → pr x < pr y
def sT (a m b : Nat) : Nat := if (a + b) / 2 < m then (a + b) / 2 + m - b else a
def rT (a m b : Nat) : Nat := if (a + b) / 2 < m then (a + b) / 2 else m
theorem tp_rng {a m b : Nat} (ham : a < m) (hmb : m < b) : a ≤ sT a m b ∧ sT a m b ≤ rT a m b ∧ rT a m b ≤ m ∧ rT a m b ≤ (a + b) / 2 ∧ (a + b) / 2 + m - sT a m b ≤ b ∧ m ≤ (a + b) / 2 + m - rT a m b ∧ (sT a m b = a ∨ (a + b) / 2 + m - sT a m b = b) ∧ (rT a m b = m ∨ (a + b) / 2 + m - rT a m b = m) := by
  unfold sT rT
  split <;> omega
/-- Behind the turn each half is told apart. -/
theorem TP.cut {pr : Nat → Int} {n a m b s : Nat} {L R : List Nat} (h : SI pr n L) (ham : a < m) (hmb : m < b) (hbn : b ≤ n) (h1 : Srt pr L a m) (h2 : Srt pr L m b) (ht : TP pr L a m b (sT a m b) (rT a m b) s) (hv : Via L R (rho s m ((a + b) / 2 + m - s))) :
    SI pr n R ∧ Srt pr R a s ∧ Srt pr R s ((a + b) / 2) ∧ Srt pr R ((a + b) / 2) ((a + b) / 2 + m - s) ∧ Srt pr R ((a + b) / 2 + m - s) b ∧ (∀ u v x y : Nat, a ≤ u → u < (a + b) / 2 → (a + b) / 2 ≤ v → v < b → R[u]? = some x → R[v]? = some y → pr y ≤ pr x) ∧ (∀ t, t < a ∨ b ≤ t → R[t]? = L[t]?) ∧ (∀ j z : Nat, a ≤ j → j < b → R[j]? = some z → ∃ k, a ≤ k ∧ k < b ∧ L[k]? = some z) := by
  obtain ⟨q1, q2, q3, q4, q5, q6, q7, q8⟩ := tp_rng ham hmb
  obtain ⟨t1, t2, t3, t4⟩ := ht
  obtain ⟨c, hc⟩ : ∃ c, (a + b) / 2 = c := ⟨_, rfl⟩
  have hca : a < c ∧ c < b := by omega
  rw [hc] at q4 q5 q6 q7 q8 t3 t4 hv ⊢
  obtain ⟨e, he⟩ : ∃ e, c + m - s = e := ⟨_, rfl⟩
  rw [he] at t3 t4 hv ⊢
  have hsm : s ≤ m := by omega
  have hme : m ≤ e := by omega
  have heb : e ≤ b := by omega
  have hsc : s ≤ c := by omega
  have hce : c ≤ e := by omega
  have get : ∀ t, t < n → ∃ x, L[t]? = some x := fun t ht => ⟨_, List.getElem?_eq_getElem (by rw [h.len]; exact ht)⟩
  -- the second run's beginning is ahead of the first run's end
  have key : ∀ u v x y : Nat, s ≤ u → u < m → m ≤ v → v < e → L[u]? = some x → L[v]? = some y → pr x < pr y := by
    intro u v x y a1 a2 a3 a4 hx hy
    have hs2 : s ≠ rT a m b := by intro q; omega
    obtain ⟨x0, hx0⟩ := get s (by omega)
    obtain ⟨y0, hy0⟩ := get (e - 1) (by omega)
    have hlt := t4.resolve_left hs2 x0 y0 hx0 hy0
    have g1 : pr x ≤ pr x0 := by
      by_cases q : u = s
      · subst q; rw [hx] at hx0; cases hx0; exact Int.le_refl _
      · exact h1 s u x0 x (by omega) (by omega) a2 hx0 hx
    have g2 : pr y0 ≤ pr y := by
      by_cases q : v = e - 1
      · subst q; rw [hy] at hy0; cases hy0; exact Int.le_refl _
      · exact h2 v (e - 1) y y0 a3 (by omega) (by omega) hy hy0
    omega
  -- what stays ahead is ahead of what stays behind
  have far : ∀ u v x y : Nat, a ≤ u → u < s → e ≤ v → v < b → L[u]? = some x → L[v]? = some y → pr y ≤ pr x := by
    intro u v x y a1 a2 a3 a4 hx hy
    have hs2 : s ≠ sT a m b := by intro q; omega
    obtain ⟨x0, hx0⟩ := get (s - 1) (by omega)
    obtain ⟨y0, hy0⟩ := get e (by omega)
    have hle := t3.resolve_left hs2 x0 y0 hx0 hy0
    have g1 : pr x0 ≤ pr x := by
      by_cases q : u = s - 1
      · subst q; rw [hx] at hx0; cases hx0; exact Int.le_refl _
      · exact h1 u (s - 1) x x0 a1 (by omega) (by omega) hx hx0
    have g2 : pr y ≤ pr y0 := by
      by_cases q : v = e
      · subst q; rw [hy] at hy0; cases hy0; exact Int.le_refl _
      · exact h2 e v y0 y hme (by omega) a4 hy0 hy
    omega
  have hi : ∀ t, t < s → rho s m e t = t := fun t ht => by unfold rho; rw [if_pos ht]
  have hj : ∀ t, s ≤ t → t < c → rho s m e t = t - s + m ∧ m ≤ rho s m e t ∧ rho s m e t < e := fun t h1 h2 => by unfold rho; rw [if_neg (by omega), if_pos (by omega)]; omega
  have hk : ∀ t, c ≤ t → t < e → rho s m e t = t - c + s ∧ s ≤ rho s m e t ∧ rho s m e t < m := fun t h1 h2 => by unfold rho; rw [if_neg (by omega), if_neg (by omega), if_pos (by omega)]; omega
  have hl : ∀ t, e ≤ t → rho s m e t = t := fun t h1 => by unfold rho; rw [if_neg (by omega), if_neg (by omega), if_neg (by omega)]
  refine ⟨h.rot hv hsm hme key, fun u v x y a1 a2 a3 hx hy => ?_, fun u v x y a1 a2 a3 hx hy => ?_, fun u v x y a1 a2 a3 hx hy => ?_, fun u v x y a1 a2 a3 hx hy => ?_, fun u v x y a1 a2 a3 a4 hx hy => ?_, fun t ht => ?_, fun j z a1 a2 hz => ?_⟩
  · rw [hv.at_, hi _ (by omega)] at hx hy
    exact h1 u v x y a1 a2 (by omega) hx hy
  · rw [hv.at_] at hx hy
    have g1 := hj u (by omega) (by omega)
    have g2 := hj v (by omega) (by omega)
    exact h2 _ _ x y g1.2.1 (by omega) (by omega) hx hy
  · rw [hv.at_] at hx hy
    have g1 := hk u (by omega) (by omega)
    have g2 := hk v (by omega) (by omega)
    exact h1 _ _ x y (by omega) (by omega) g2.2.2 hx hy
  · rw [hv.at_, hl _ (by omega)] at hx hy
    exact h2 u v x y (by omega) a2 a3 hx hy
  · rw [hv.at_] at hx hy
    by_cases u1 : u < s
    · rw [hi _ u1] at hx
      by_cases v1 : v < e
      · have g2 := hk v a3 v1
        exact h1 u _ x y a1 (by omega) g2.2.2 hx hy
      · rw [hl _ (by omega)] at hy
        exact far u v x y a1 u1 (by omega) a4 hx hy
    · have g1 := hj u (by omega) a2
      by_cases v1 : v < e
      · have g2 := hk v a3 v1
        have := key _ _ y x g2.2.1 g2.2.2 g1.2.1 g1.2.2 hy hx
        omega
      · rw [hl _ (by omega)] at hy
        exact h2 _ v x y g1.2.1 (by omega) a4 hx hy
  · rw [hv.at_, (rho_rng hsm hme).2 (by omega)]
  · rw [hv.at_] at hz
    by_cases c1 : s ≤ j ∧ j < e
    · have := (rho_rng (a := s) (m := m) (b := e) (t := j) hsm hme).1 c1
      exact ⟨_, by omega, by omega, hz⟩
    · rw [(rho_rng hsm hme).2 (by omega)] at hz
      exact ⟨j, a1, a2, hz⟩
/-- What a merge leaves. -/
structure Mgd (pr : Nat → Int) (n a b : Nat) (L R : List Nat) : Prop where
  si : SI pr n R
  srt : Srt pr R a b
  out : ∀ t, t < a ∨ b ≤ t → R[t]? = L[t]?
  ins : ∀ j z : Nat, a ≤ j → j < b → R[j]? = some z → ∃ k, a ≤ k ∧ k < b ∧ L[k]? = some z
/-- Two halves, each sorted, one all ahead of the other. -/
theorem Mgd.join {pr : Nat → Int} {n a c b : Nat} {L R R1 R2 : List Nat} (hac : a ≤ c) (hcb : c ≤ b) (hcut : ∀ u v x y : Nat, a ≤ u → u < c → c ≤ v → v < b → R[u]? = some x → R[v]? = some y → pr y ≤ pr x) (hout : ∀ t, t < a ∨ b ≤ t → R[t]? = L[t]?) (hins : ∀ j z : Nat, a ≤ j → j < b → R[j]? = some z → ∃ k, a ≤ k ∧ k < b ∧ L[k]? = some z)
    (h1 : Mgd pr n a c R R1) (h2 : Mgd pr n c b R1 R2) : Mgd pr n a b L R2 := by
  have back : ∀ j z, a ≤ j → j < b → R2[j]? = some z → ∃ k, ((j < c → k < c) ∧ (c ≤ j → c ≤ k)) ∧ a ≤ k ∧ k < b ∧ R[k]? = some z := by
    intro j z q1 q2 hz
    by_cases e : j < c
    · rw [h2.out j (.inl e)] at hz
      obtain ⟨k, k1, k2, k3⟩ := h1.ins j z q1 e hz
      exact ⟨k, ⟨fun _ => k2, fun q => by omega⟩, k1, by omega, k3⟩
    · obtain ⟨k, k1, k2, k3⟩ := h2.ins j z (by omega) q2 hz
      rw [h1.out k (.inr k1)] at k3
      exact ⟨k, ⟨fun q => by omega, fun _ => k1⟩, by omega, k2, k3⟩
  refine ⟨h2.si, fun u v x y q1 q2 q3 hx hy => ?_, fun t ht => ?_, fun j z q1 q2 hz => ?_⟩
  · by_cases e1 : v < c
    · rw [h2.out u (.inl (by omega))] at hx
      rw [h2.out v (.inl e1)] at hy
      exact h1.srt u v x y q1 q2 e1 hx hy
    · by_cases e2 : c ≤ u
      · exact h2.srt u v x y e2 q2 q3 hx hy
      · obtain ⟨k, ⟨k1, _⟩, k2, _, k3⟩ := back u x q1 (by omega) hx
        obtain ⟨l, ⟨_, l1⟩, _, l2, l3⟩ := back v y (by omega) q3 hy
        exact hcut k l x y k2 (k1 (by omega)) (l1 (by omega)) l2 k3 l3
  · rw [h2.out t (by omega), h1.out t (by omega)]
    exact hout t ht
  · obtain ⟨k, _, k2, k3, k4⟩ := back j z q1 q2 hz
    exact hins k z k2 k3 k4
theorem Mgd.refl {pr : Nat → Int} {n a b : Nat} {L : List Nat} (h : SI pr n L) (hs : Srt pr L a b) : Mgd pr n a b L L := ⟨h, hs, fun _ _ => rfl, fun j _ h1 h2 hz => ⟨j, h1, h2, hz⟩⟩
/-- A run of two of which one is none. -/
theorem Srt.whole {pr : Nat → Int} {L : List Nat} {a s c : Nat} (h1 : Srt pr L a s) (h2 : Srt pr L s c) (h : s = a ∨ s = c) : Srt pr L a c := by
  rcases h with rfl | rfl
  · exact h2
  · exact h1
end Go.Proofs.YtieinnhiaomliaaDoor
