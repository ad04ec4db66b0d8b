/-
  My own text: steps over business days add up, lead back, and are counted: plain facts.
-/
import Derived.Test.YtiajkglpmpemaabDoorE7
namespace Go.Proofs.YtiajkglpmpemaabDoor

theorem AddS.to {g : Int → Bool} {n k k' v x : Int} (h : AddS g n k v x) (n1 : 1 ≤ n) (n2 : n ≤ 3652059) (e : k = k') : AddR g n k' v x := by
  subst e
  rcases h with ⟨h, _⟩ | ⟨_, h⟩
  · rw [dayB_yes n1 n2] at h; cases h
  · exact h
/-- Up. -/
theorem AddR.upS {g : Int → Bool} {n k v : Int} (hk : 0 < k) (h : AddR g n k v 0) : n < v ∧ v ≤ 3652059 ∧ g v = true ∧ cn g (n + 1) (v + 1) = k := by
  rcases h with ⟨h, _⟩ | ⟨_, ⟨_, h⟩ | ⟨h, _⟩⟩ | ⟨h, _⟩
  · omega
  · exact h
  · omega
  · omega
theorem AddR.dnS {g : Int → Bool} {n k v : Int} (hk : k < 0) (h : AddR g n k v 0) : 1 ≤ v ∧ v < n ∧ g v = true ∧ cn g v n = -k := by
  rcases h with ⟨h, _⟩ | ⟨h, _⟩ | ⟨_, ⟨_, h⟩ | ⟨h, _⟩⟩
  · omega
  · omega
  · exact h
  · omega
theorem AddR.upE {g : Int → Bool} {n k v : Int} (hk : 0 < k) (h : AddR g n k v 8) : v = 0 ∧ cn g (n + 1) 3652060 < k := by
  rcases h with ⟨_, _, h⟩ | ⟨_, ⟨h, _⟩ | ⟨_, h⟩⟩ | ⟨h, _⟩
  · omega
  · omega
  · exact h
  · omega
theorem AddR.dnE {g : Int → Bool} {n k v : Int} (hk : k < 0) (h : AddR g n k v 8) : v = 0 ∧ cn g 1 n < -k := by
  rcases h with ⟨_, _, h⟩ | ⟨h, _⟩ | ⟨_, ⟨h, _⟩ | ⟨_, h⟩⟩
  · omega
  · omega
  · omega
  · exact h
theorem AddR.fall_up {g : Int → Bool} {n a b v all f : Int} (n1 : 1 ≤ n) (n2 : n ≤ 3652059) (ha : 0 < a) (hb : 0 < b) (h : AddR g n a v 8) (h2 : AddR g n (a + b) all f) : all = 0 ∧ f = 8 := by
  obtain ⟨_, q⟩ := h.upE ha
  exact AddR.unique n1 n2 h2 (.inr (.inl ⟨by omega, .inr ⟨rfl, rfl, by omega⟩⟩))
theorem AddR.fall_dn {g : Int → Bool} {n a b v all f : Int} (n1 : 1 ≤ n) (n2 : n ≤ 3652059) (ha : 0 < a) (hb : 0 < b) (h : AddR g n (-a) v 8) (h2 : AddR g n (-(a + b)) all f) : all = 0 ∧ f = 8 := by
  obtain ⟨_, q⟩ := h.dnE (by omega)
  exact AddR.unique n1 n2 h2 (.inr (.inr ⟨by omega, .inr ⟨rfl, rfl, by omega⟩⟩))
theorem AddR.sum_up {g : Int → Bool} {n a b x all f y e : Int} (n1 : 1 ≤ n) (n2 : n ≤ 3652059) (ha : 0 < a) (hb : 0 < b) (h : AddR g n a x 0) (h2 : AddR g n (a + b) all f) (h3 : AddR g x b y e) : y = all ∧ e = f := by
  obtain ⟨a1, a2, a3, a4⟩ := h.upS ha
  have goal : AddR g n (a + b) y e := by
    rcases h3 with ⟨h, _⟩ | ⟨_, ⟨rfl, b1, b2, b3, b4⟩ | ⟨rfl, rfl, b1⟩⟩ | ⟨h, _⟩
    · omega
    · have c := cn_add g (show n + 1 ≤ x + 1 by omega) (show x + 1 ≤ y + 1 by omega)
      exact .inr (.inl ⟨by omega, .inl ⟨rfl, by omega, b2, b3, by omega⟩⟩)
    · have c := cn_add g (show n + 1 ≤ x + 1 by omega) (show x + 1 ≤ 3652060 by omega)
      exact .inr (.inl ⟨by omega, .inr ⟨rfl, rfl, by omega⟩⟩)
    · omega
  exact AddR.unique n1 n2 goal h2
theorem AddR.sum_dn {g : Int → Bool} {n a b x all f y e : Int} (n1 : 1 ≤ n) (n2 : n ≤ 3652059) (ha : 0 < a) (hb : 0 < b) (h : AddR g n (-a) x 0) (h2 : AddR g n (-(a + b)) all f) (h3 : AddR g x (-b) y e) : y = all ∧ e = f := by
  obtain ⟨a1, a2, a3, a4⟩ := h.dnS (by omega)
  have goal : AddR g n (-(a + b)) y e := by
    rcases h3 with ⟨h, _⟩ | ⟨h, _⟩ | ⟨_, ⟨rfl, b1, b2, b3, b4⟩ | ⟨rfl, rfl, b1⟩⟩
    · omega
    · omega
    · have c := cn_add g (show y ≤ x by omega) (show x ≤ n by omega)
      exact .inr (.inr ⟨by omega, .inl ⟨rfl, b1, by omega, b3, by omega⟩⟩)
    · have c := cn_add g (show 1 ≤ x by omega) (show x ≤ n by omega)
      exact .inr (.inr ⟨by omega, .inr ⟨rfl, rfl, by omega⟩⟩)
  exact AddR.unique n1 n2 goal h2
theorem AddR.back_up {g : Int → Bool} {n a x v e : Int} (n1 : 1 ≤ n) (_n2 : n ≤ 3652059) (ha : 0 < a) (hg : g n = true) (h : AddR g n a x 0) (h2 : AddR g x (-a) v e) : v = n ∧ e = 0 := by
  obtain ⟨a1, a2, a3, a4⟩ := h.upS ha
  have c1 := cn_add g (show n ≤ n + 1 by omega) (show n + 1 ≤ x by omega)
  have c2 := cn_add g (show n + 1 ≤ x by omega) (show x ≤ x + 1 by omega)
  have c3 := cn_one g n
  have c4 := cn_one g x
  rw [hg] at c3; rw [a3] at c4; simp at c3 c4
  exact AddR.unique (by omega) a2 h2 (.inr (.inr ⟨by omega, .inl ⟨rfl, n1, by omega, hg, by omega⟩⟩))
theorem AddR.back_dn {g : Int → Bool} {n a x v e : Int} (_n1 : 1 ≤ n) (n2 : n ≤ 3652059) (ha : 0 < a) (hg : g n = true) (h : AddR g n (-a) x 0) (h2 : AddR g x a v e) : v = n ∧ e = 0 := by
  obtain ⟨a1, a2, a3, a4⟩ := h.dnS (by omega)
  have c1 := cn_add g (show x ≤ x + 1 by omega) (show x + 1 ≤ n by omega)
  have c2 := cn_add g (show x + 1 ≤ n by omega) (show n ≤ n + 1 by omega)
  have c3 := cn_one g n
  have c4 := cn_one g x
  rw [hg] at c3; rw [a3] at c4; simp at c3 c4
  exact AddR.unique a1 (by omega) h2 (.inr (.inl ⟨by omega, .inl ⟨rfl, by omega, n2, hg, by omega⟩⟩))
theorem AddR.far_up {g : Int → Bool} {n a x : Int} (ha : 0 < a) (h : AddR g n a x 0) : a ≤ x - n := by
  obtain ⟨a1, a2, a3, a4⟩ := h.upS ha
  have := cn_b g (show n + 1 ≤ x + 1 by omega)
  omega
theorem AddR.far_dn {g : Int → Bool} {n a x : Int} (ha : 0 < a) (h : AddR g n (-a) x 0) : a ≤ n - x := by
  obtain ⟨a1, a2, a3, a4⟩ := h.dnS (by omega)
  have := cn_b g (show x ≤ n by omega)
  omega
theorem AddR.counted {g : Int → Bool} {n a x : Int} (ha : 0 < a) (h : AddR g n a x 0) : cn g n x = a - 1 + (if g n then 1 else 0) := by
  obtain ⟨a1, a2, a3, a4⟩ := h.upS ha
  have c1 := cn_add g (show n ≤ n + 1 by omega) (show n + 1 ≤ x by omega)
  have c2 := cn_add g (show n + 1 ≤ x by omega) (show x ≤ x + 1 by omega)
  have c3 := cn_one g n
  have c4 := cn_one g x
  rw [a3] at c4; simp at c4
  omega
theorem counted_on {g : Int → Bool} {x b : Int} (hb : 0 < b) (hx : g x = true) : 1 ≤ cn g x (x + b) ∧ cn g x (x + b) ≤ b := by
  have c1 := cn_add g (show x ≤ x + 1 by omega) (show x + 1 ≤ x + b by omega)
  have c2 := cn_b g (show x + 1 ≤ x + b by omega)
  have c3 := cn_one g x
  have c4 := cn_b g (show x ≤ x + b by omega)
  rw [hx] at c3; simp at c3
  omega
end Go.Proofs.YtiajkglpmpemaabDoor
