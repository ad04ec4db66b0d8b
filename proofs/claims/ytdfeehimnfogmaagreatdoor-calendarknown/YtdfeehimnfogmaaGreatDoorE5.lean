/-
  My own text: steps over business days: plain facts.
-/
import Derived.Test.YtdfeehimnfogmaaGreatDoorE1
namespace Go.Proofs.YtdfeehimnfogmaaGreatDoor

theorem cntB_full {g : Int → Bool} {a : Int} {n : Nat} (h : cntB g a (n + 1) = ((n + 1 : Nat) : Int)) : g (a + n) = true := by
  rw [cntB_succ] at h
  have := cntB_b g a n
  cases hg : g (a + n)
  · rw [hg] at h; simp at h; omega
  · rfl
theorem cntB_one (g : Int → Bool) (a : Int) : cntB g a 1 = if g a then 1 else 0 := by
  rw [cntB_succ]; simp [cntB]
theorem cntB_left (g : Int → Bool) (a : Int) (n : Nat) : cntB g a (n + 1) = (if g a then 1 else 0) + cntB g (a + 1) n := by
  rw [Nat.add_comm n 1, cntB_add, cntB_one]; rfl
theorem cntB_head {g : Int → Bool} {a : Int} {n : Nat} (h : cntB g a (n + 1) = ((n + 1 : Nat) : Int)) : g a = true := by
  rw [cntB_left] at h
  have := cntB_b g (a + 1) n
  cases hg : g a
  · rw [hg] at h; simp at h; omega
  · rfl
/-- How many from a up to but not b. -/
def cn (g : Int → Bool) (a b : Int) : Int := cntB g a (b - a).toNat
theorem cn_b (g : Int → Bool) {a b : Int} (h : a ≤ b) : 0 ≤ cn g a b ∧ cn g a b ≤ b - a := by
  have := cntB_b g a (b - a).toNat; unfold cn; omega
theorem cn_self (g : Int → Bool) (a : Int) : cn g a a = 0 := by unfold cn; rw [Int.sub_self]; rfl
theorem cn_add (g : Int → Bool) {a b c : Int} (h1 : a ≤ b) (h2 : b ≤ c) : cn g a c = cn g a b + cn g b c := by
  unfold cn
  have := cntB_add g a (b - a).toNat (c - b).toNat
  rw [show (b - a).toNat + (c - b).toNat = (c - a).toNat by omega, show a + (((b - a).toNat : Nat) : Int) = b by omega] at this
  exact this
theorem cn_last {g : Int → Bool} {a b : Int} (h : a < b) (hf : cn g a b = b - a) : g (b - 1) = true := by
  unfold cn at hf
  obtain ⟨n, hn⟩ : ∃ n : Nat, (b - a).toNat = n + 1 := ⟨(b - a).toNat - 1, by omega⟩
  rw [hn] at hf
  have := cntB_full (g := g) (a := a) (n := n) (by omega)
  rw [show b - 1 = a + n by omega]; exact this
theorem cn_first {g : Int → Bool} {a b : Int} (h : a < b) (hf : cn g a b = b - a) : g a = true := by
  unfold cn at hf
  obtain ⟨n, hn⟩ : ∃ n : Nat, (b - a).toNat = n + 1 := ⟨(b - a).toNat - 1, by omega⟩
  rw [hn] at hf
  exact cntB_head (g := g) (a := a) (n := n) (by omega)
theorem cn_one (g : Int → Bool) (a : Int) : cn g a (a + 1) = if g a then 1 else 0 := by
  unfold cn; rw [show (a + 1 - a).toNat = 1 by omega, cntB_one]
theorem cn_eq (g : Int → Bool) (a : Int) (n : Nat) : cn g a (a + n) = cntB g a n := by unfold cn; rw [show (a + n - a).toNat = n by omega]
/-- What stepping k business days from n answers. -/
def AddR (g : Int → Bool) (n k v e : Int) : Prop :=
  (k = 0 ∧ v = n ∧ e = 0) ∨
  (0 < k ∧ (e = 0 ∧ n < v ∧ v ≤ 3652059 ∧ g v = true ∧ cn g (n + 1) (v + 1) = k ∨ e = 8 ∧ v = 0 ∧ cn g (n + 1) 3652060 < k)) ∨
  (k < 0 ∧ (e = 0 ∧ 1 ≤ v ∧ v < n ∧ g v = true ∧ cn g v n = -k ∨ e = 8 ∧ v = 0 ∧ cn g 1 n < -k))
theorem AddR.unique {g : Int → Bool} {n k v e v' e' : Int} (n1 : 1 ≤ n) (n2 : n ≤ 3652059) (h : AddR g n k v e) (h' : AddR g n k v' e') : v = v' ∧ e = e' := by
  have up : ∀ {v v' : Int}, n < v → v < v' → g v' = true → cn g (n + 1) (v' + 1) ≠ cn g (n + 1) (v + 1) := by
    intro v v' h1 h2 h3 h4
    have a1 := cn_add g (show n + 1 ≤ v + 1 by omega) (show v + 1 ≤ v' by omega)
    have a2 := cn_add g (show n + 1 ≤ v' by omega) (show v' ≤ v' + 1 by omega)
    have a3 := cn_one g v'
    have a4 := cn_b g (show v + 1 ≤ v' by omega)
    rw [h3] at a3; simp at a3; omega
  have dn : ∀ {v v' : Int}, v < v' → v' < n → g v = true → cn g v n ≠ cn g v' n := by
    intro v v' h1 h2 h3 h4
    have a1 := cn_add g (show v ≤ v + 1 by omega) (show v + 1 ≤ n by omega)
    have a2 := cn_add g (show v + 1 ≤ v' by omega) (show v' ≤ n by omega)
    have a3 := cn_one g v
    have a4 := cn_b g (show v + 1 ≤ v' by omega)
    rw [h3] at a3; simp at a3; omega
  have top : ∀ {v : Int}, n < v → v ≤ 3652059 → cn g (n + 1) (v + 1) ≤ cn g (n + 1) 3652060 := by
    intro v h1 h2
    have a1 := cn_add g (show n + 1 ≤ v + 1 by omega) (show v + 1 ≤ 3652060 by omega)
    have a2 := cn_b g (show v + 1 ≤ 3652060 by omega)
    omega
  have bot : ∀ {v : Int}, 1 ≤ v → v < n → cn g v n ≤ cn g 1 n := by
    intro v h1 h2
    have a1 := cn_add g (show 1 ≤ v by omega) (show v ≤ n by omega)
    have a2 := cn_b g (show 1 ≤ v by omega)
    omega
  rcases h with ⟨rfl, rfl, rfl⟩ | ⟨hk, ⟨rfl, a1, a2, a3, a4⟩ | ⟨rfl, rfl, a1⟩⟩ | ⟨hk, ⟨rfl, a1, a2, a3, a4⟩ | ⟨rfl, rfl, a1⟩⟩ <;>
  rcases h' with ⟨hk', rfl, rfl⟩ | ⟨hk', ⟨rfl, b1, b2, b3, b4⟩ | ⟨rfl, rfl, b1⟩⟩ | ⟨hk', ⟨rfl, b1, b2, b3, b4⟩ | ⟨rfl, rfl, b1⟩⟩ <;>
  first
  | omega
  | exact ⟨rfl, rfl⟩
  | (have := top a1 a2; omega)
  | (have := top b1 b2; omega)
  | (have := bot a1 a2; omega)
  | (have := bot b1 b2; omega)
  | (rcases Int.lt_trichotomy v v' with q | q | q
     · exact absurd (b4.trans a4.symm) (up a1 q b3)
     · exact ⟨q, rfl⟩
     · exact absurd (a4.trans b4.symm) (up b1 q a3))
  | (rcases Int.lt_trichotomy v v' with q | q | q
     · exact absurd (a4.trans b4.symm) (dn q b2 a3)
     · exact ⟨q, rfl⟩
     · exact absurd (b4.trans a4.symm) (dn q a2 b3))
/-- The leaps' relation: from n, k to go; at m, j to go. -/
def AddI (g : Int → Bool) (n k m j : Int) : Prop :=
  1 ≤ m ∧ m ≤ 3652059 ∧ ((0 ≤ k ∧ 0 ≤ j ∧ n ≤ m ∧ cn g (n + 1) (m + 1) + j = k ∧ (j = 0 → n < m → g m = true)) ∨ (k < 0 ∧ j ≤ 0 ∧ m ≤ n ∧ cn g m n - j = -k ∧ (j = 0 → m < n → g m = true)))
theorem AddI.start (g : Int → Bool) {n : Int} (k : Int) (n1 : 1 ≤ n) (n2 : n ≤ 3652059) : AddI g n k n k := by
  refine ⟨n1, n2, ?_⟩
  by_cases h : 0 ≤ k
  · exact .inl ⟨h, h, Int.le_refl _, by rw [cn_self]; omega, fun _ h => by omega⟩
  · exact .inr ⟨by omega, by omega, Int.le_refl _, by rw [cn_self]; omega, fun _ h => by omega⟩
theorem AddI.up {g : Int → Bool} {n k m j : Int} (h : AddI g n k m j) (j0 : 0 < j) (j1 : j ≤ 3652059 - m) : AddI g n k (m + j) (j - cn g (m + 1) (m + j + 1)) := by
  obtain ⟨m1, m2, ⟨a1, a2, a3, a4, _⟩ | ⟨a1, a2, _⟩⟩ := h
  · have b1 := cn_b g (show m + 1 ≤ m + j + 1 by omega)
    have b2 := cn_add g (show n + 1 ≤ m + 1 by omega) (show m + 1 ≤ m + j + 1 by omega)
    refine ⟨by omega, by omega, .inl ⟨a1, by omega, by omega, by omega, fun h0 _ => ?_⟩⟩
    have := cn_last (g := g) (a := m + 1) (b := m + j + 1) (by omega) (by omega)
    rw [show m + j + 1 - 1 = m + j by omega] at this; exact this
  · omega
theorem AddI.down {g : Int → Bool} {n k m j : Int} (h : AddI g n k m j) (j0 : j < 0) (j1 : 1 - m ≤ j) : AddI g n k (m + j) (j + cn g (m + j) m) := by
  obtain ⟨m1, m2, ⟨a1, a2, _⟩ | ⟨a1, a2, a3, a4, _⟩⟩ := h
  · omega
  · have b1 := cn_b g (show m + j ≤ m by omega)
    have b2 := cn_add g (show m + j ≤ m by omega) (show m ≤ n by omega)
    refine ⟨by omega, by omega, .inr ⟨a1, by omega, by omega, by omega, fun h0 _ => ?_⟩⟩
    exact cn_first (g := g) (a := m + j) (b := m) (by omega) (by omega)
theorem AddI.done {g : Int → Bool} {n k m : Int} (h : AddI g n k m 0) : AddR g n k m 0 := by
  obtain ⟨m1, m2, ⟨a1, a2, a3, a4, a5⟩ | ⟨a1, a2, a3, a4, a5⟩⟩ := h
  · by_cases e : m = n
    · subst e; rw [cn_self] at a4; exact .inl ⟨by omega, rfl, rfl⟩
    · have q := cn_add g (show n + 1 ≤ m by omega) (show m ≤ m + 1 by omega)
      have q2 := cn_one g m
      have q3 := cn_b g (show n + 1 ≤ m by omega)
      have q4 := a5 rfl (by omega)
      rw [q4] at q2; simp at q2
      exact .inr (.inl ⟨by omega, .inl ⟨rfl, by omega, m2, q4, by omega⟩⟩)
  · by_cases e : m = n
    · subst e; rw [cn_self] at a4; omega
    · exact .inr (.inr ⟨a1, .inl ⟨rfl, m1, by omega, a5 rfl (by omega), by omega⟩⟩)
theorem AddI.out {g : Int → Bool} {n k m j : Int} (n1 : 1 ≤ n) (n2 : n ≤ 3652059) (h : AddI g n k m j) (ho : 3652059 - m < j ∨ j < 1 - m) : AddR g n k 0 8 := by
  obtain ⟨m1, m2, ⟨a1, a2, a3, a4, a5⟩ | ⟨a1, a2, a3, a4, a5⟩⟩ := h
  · have b1 := cn_add g (show n + 1 ≤ m + 1 by omega) (show m + 1 ≤ 3652060 by omega)
    have b2 := cn_b g (show m + 1 ≤ 3652060 by omega)
    have b3 := cn_b g (show n + 1 ≤ m + 1 by omega)
    exact .inr (.inl ⟨by omega, .inr ⟨rfl, rfl, by omega⟩⟩)
  · have b1 := cn_add g (show 1 ≤ m by omega) (show m ≤ n by omega)
    have b2 := cn_b g (show 1 ≤ m by omega)
    exact .inr (.inr ⟨a1, .inr ⟨rfl, rfl, by omega⟩⟩)
end Go.Proofs.YtdfeehimnfogmaaGreatDoor
