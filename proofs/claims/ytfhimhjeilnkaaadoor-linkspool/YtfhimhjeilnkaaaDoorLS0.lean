/-
  My own text: layer 23: the mathematics of sorting places by priorities, stably.
-/
import Derived.Test.YtfhimhjeilnkaaaDoorErr
namespace Go.Proofs.YtfhimhjeilnkaaaDoor
open Go.RowKit

/-- Places of things, each below n; of equal priority the lesser ahead. -/
structure SI (pr : Nat → Int) (n : Nat) (L : List Nat) : Prop where
  len : L.length = n
  lt : ∀ j x : Nat, L[j]? = some x → x < n
  st : ∀ u v x y : Nat, u < v → L[u]? = some x → L[v]? = some y → pr x = pr y → x < y
/-- From a up to b the priorities don't rise. -/
def Srt (pr : Nat → Int) (L : List Nat) (a b : Nat) : Prop := ∀ u v x y : Nat, a ≤ u → u < v → v < b → L[u]? = some x → L[v]? = some y → pr y ≤ pr x
/-- .. but for the one at j, which is above all behind it. -/
def JS (pr : Nat → Int) (L : List Nat) (a k j : Nat) : Prop := ∃ z, L[j]? = some z ∧ (∀ u v x y : Nat, a ≤ u → u < v → v < k + 1 → u ≠ j → v ≠ j → L[u]? = some x → L[v]? = some y → pr y ≤ pr x) ∧ (∀ v y : Nat, j < v → v < k + 1 → L[v]? = some y → pr y ≤ pr z)
/-- Two neighbours change places. -/
def swp (L : List Nat) (j x y : Nat) : List Nat := (L.set (j + 1) x).set j y
theorem swp_at {L : List Nat} {j x y : Nat} (hx : L[j]? = some x) (hy : L[j + 1]? = some y) (i : Nat) : (swp L j x y)[i]? = if i = j then some y else if i = j + 1 then some x else L[i]? := by
  have h1 := (List.getElem?_eq_some_iff.1 hx).1
  have h2 := (List.getElem?_eq_some_iff.1 hy).1
  unfold swp
  rw [List.getElem?_set, List.getElem?_set]
  by_cases e : j = i
  · subst e; rw [if_pos rfl, if_pos (by rw [List.length_set]; exact h1), if_pos rfl]
  · rw [if_neg e, if_neg (show ¬ i = j from fun q => e q.symm)]
    by_cases e2 : j + 1 = i
    · subst e2; rw [if_pos rfl, if_pos h2, if_pos rfl]
    · rw [if_neg e2, if_neg (show ¬ i = j + 1 from fun q => e2 q.symm)]
theorem SI.swap {pr : Nat → Int} {n : Nat} {L : List Nat} (h : SI pr n L) {j x y : Nat} (hx : L[j]? = some x) (hy : L[j + 1]? = some y) (hp : pr x < pr y) : SI pr n (swp L j x y) := by
  refine ⟨by unfold swp; rw [List.length_set, List.length_set]; exact h.len, fun i z hz => ?_, fun u v p q huv hu hv e => ?_⟩
  · rw [swp_at hx hy] at hz
    split at hz
    · cases hz; exact h.lt _ _ hy
    · split at hz
      · cases hz; exact h.lt _ _ hx
      · exact h.lt _ _ hz
  · rw [swp_at hx hy] at hu hv
    by_cases u1 : u = j
    · rw [if_pos u1] at hu
      cases hu
      by_cases v1 : v = j + 1
      · rw [if_neg (by omega), if_pos v1] at hv
        cases hv; omega
      · rw [if_neg (by omega), if_neg v1] at hv
        exact h.st (j + 1) v _ _ (by omega) hy hv e
    · rw [if_neg u1] at hu
      by_cases u2 : u = j + 1
      · rw [if_pos u2] at hu
        cases hu
        rw [if_neg (by omega), if_neg (by omega)] at hv
        exact h.st j v _ _ (by omega) hx hv e
      · rw [if_neg u2] at hu
        by_cases v1 : v = j
        · rw [if_pos v1] at hv
          cases hv
          exact h.st u (j + 1) _ _ (by omega) hu hy e
        · rw [if_neg v1] at hv
          by_cases v2 : v = j + 1
          · rw [if_pos v2] at hv
            cases hv
            exact h.st u j _ _ (by omega) hu hx e
          · rw [if_neg v2] at hv
            exact h.st u v _ _ huv hu hv e
theorem JS.start {pr : Nat → Int} {L : List Nat} {a k z : Nat} (h : Srt pr L a k) (hz : L[k]? = some z) : JS pr L a k k :=
  ⟨z, hz, fun u v x y h1 h2 h3 h4 h5 hx hy => h u v x y h1 h2 (by omega) hx hy, fun v y h1 h2 _ => by omega⟩
theorem JS.step {pr : Nat → Int} {L : List Nat} {a k j x z : Nat} (h : JS pr L a k (j + 1)) (ha : a ≤ j) (hjk : j + 1 ≤ k) (hx : L[j]? = some x) (hz : L[j + 1]? = some z) (hp : pr x < pr z) : JS pr (swp L j x z) a k j := by
  obtain ⟨z', hz', h1, h2⟩ := h
  rw [hz] at hz'
  cases hz'
  refine ⟨z, by rw [swp_at hx hz, if_pos rfl], fun u v p q a1 a2 a3 a4 a5 hu hv => ?_, fun v y b1 b2 hv => ?_⟩
  · rw [swp_at hx hz, if_neg a4] at hu
    rw [swp_at hx hz, if_neg a5] at hv
    by_cases u1 : u = j + 1
    · rw [if_pos u1] at hu; cases hu
      rw [if_neg (by omega)] at hv
      exact h1 j v _ _ ha (by omega) a3 (by omega) (by omega) hx hv
    · rw [if_neg u1] at hu
      by_cases v1 : v = j + 1
      · rw [if_pos v1] at hv; cases hv
        exact h1 u j _ _ a1 (by omega) (by omega) u1 (by omega) hu hx
      · rw [if_neg v1] at hv
        exact h1 u v _ _ a1 a2 a3 u1 v1 hu hv
  · rw [swp_at hx hz, if_neg (by omega)] at hv
    by_cases v1 : v = j + 1
    · rw [if_pos v1] at hv; cases hv; omega
    · rw [if_neg v1] at hv
      exact h2 v y (by omega) b2 hv
theorem JS.first {pr : Nat → Int} {L : List Nat} {a k : Nat} (h : JS pr L a k a) : Srt pr L a (k + 1) := by
  obtain ⟨z, hz, h1, h2⟩ := h
  intro u v x y a1 a2 a3 hu hv
  by_cases e : u = a
  · subst e; rw [hz] at hu; cases hu; exact h2 v y a2 a3 hv
  · exact h1 u v x y a1 a2 a3 e (by omega) hu hv
theorem JS.stop {pr : Nat → Int} {L : List Nat} {a k j x z : Nat} (h : JS pr L a k (j + 1)) (ha : a ≤ j) (hjk : j + 1 ≤ k) (hx : L[j]? = some x) (hz : L[j + 1]? = some z) (hp : pr z ≤ pr x) : Srt pr L a (k + 1) := by
  obtain ⟨z', hz', h1, h2⟩ := h
  rw [hz] at hz'
  cases hz'
  intro u v p q a1 a2 a3 hu hv
  by_cases u1 : u = j + 1
  · subst u1; rw [hz] at hu; cases hu; exact h2 v q a2 a3 hv
  · by_cases v1 : v = j + 1
    · subst v1; rw [hz] at hv; cases hv
      by_cases u2 : u = j
      · subst u2; rw [hx] at hu; cases hu; exact hp
      · exact Int.le_trans hp (h1 u j _ _ a1 (by omega) (by omega) u1 (by omega) hu hx)
    · exact h1 u v _ _ a1 a2 a3 u1 v1 hu hv
theorem Srt.one {pr : Nat → Int} {L : List Nat} (a : Nat) : Srt pr L a (a + 1) := fun u v x y h1 h2 h3 => by omega
theorem Srt.mono {pr : Nat → Int} {L : List Nat} {a b c : Nat} (h : Srt pr L a b) (hc : c ≤ b) : Srt pr L a c := fun u v x y h1 h2 h3 => h u v x y h1 h2 (by omega)
theorem swp_out {L : List Nat} {j x y : Nat} (hx : L[j]? = some x) (hy : L[j + 1]? = some y) {i : Nat} (h : i < j ∨ j + 1 < i) : (swp L j x y)[i]? = L[i]? := by
  rw [swp_at hx hy, if_neg (by omega), if_neg (by omega)]
end Go.Proofs.YtfhimhjeilnkaaaDoor
