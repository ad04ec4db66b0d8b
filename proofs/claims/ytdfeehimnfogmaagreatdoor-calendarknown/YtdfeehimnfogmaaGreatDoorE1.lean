/-
  My own text: counting days: plain facts.
-/
import Derived.Test.YtdfeehimnfogmaaGreatDoorProg
import Derived.WalkKit
namespace Go.Proofs.YtdfeehimnfogmaaGreatDoor
/-- How many of n days from a on are such. -/
def cntB (g : Int → Bool) (a : Int) : Nat → Int
  | 0 => 0
  | n + 1 => cntB g a n + (if g (a + n) then 1 else 0)
theorem cntB_succ (g : Int → Bool) (a : Int) (n : Nat) : cntB g a (n + 1) = cntB g a n + (if g (a + n) then 1 else 0) := rfl
theorem cntB_b (g : Int → Bool) (a : Int) : ∀ n : Nat, 0 ≤ cntB g a n ∧ cntB g a n ≤ n
  | 0 => by simp [cntB]
  | n + 1 => by have := cntB_b g a n; unfold cntB; split <;> omega
theorem cntB_congr {g h : Int → Bool} {a : Int} : ∀ n : Nat, (∀ x, a ≤ x → x < a + n → g x = h x) → cntB g a n = cntB h a n
  | 0, _ => rfl
  | n + 1, H => by
    unfold cntB
    rw [cntB_congr n (fun x h1 h2 => H x h1 (by omega)), H (a + n) (by omega) (by omega)]
theorem cntB_add (g : Int → Bool) (a : Int) (m : Nat) : ∀ n : Nat, cntB g a (m + n) = cntB g a m + cntB g (a + m) n
  | 0 => by simp [cntB]
  | n + 1 => by
    show cntB g a (m + n + 1) = _
    rw [cntB_succ, cntB_succ, cntB_add g a m n, show a + ((m + n : Nat) : Int) = a + m + n by omega]
    omega
theorem cntB_sub {W F : Int → Bool} {a : Int} : ∀ n : Nat, (∀ x, a ≤ x → x < a + n → F x = true → W x = true) → cntB (fun x => W x && !F x) a n = cntB W a n - cntB F a n
  | 0, _ => by simp [cntB]
  | n + 1, H => by
    have h1 := cntB_sub n (fun x h1 h2 => H x h1 (by omega))
    have h2 := H (a + n) (by omega) (by omega)
    unfold cntB
    rw [h1]
    cases hW : W (a + n) <;> cases hF : F (a + n) <;> simp_all <;> try omega
theorem cntB_none {W F : Int → Bool} {a : Int} (n : Nat) (H : ∀ x, a ≤ x → x < a + n → F x = true → W x = true) (h0 : cntB W a n = 0) : cntB (fun x => W x && !F x) a n = 0 := by
  have h := cntB_sub n H
  have h1 := cntB_b (fun x => W x && !F x) a n
  have h2 := cntB_b F a n
  omega
theorem cntB_strike {g h : Int → Bool} {x : Int} (hx : g x = true) (hh : ∀ y, h y = (g y && !(y == x))) (a : Int) : ∀ n : Nat, cntB h a n + (if a ≤ x ∧ x < a + n then 1 else 0) = cntB g a n
  | 0 => by
    rw [if_neg (show ¬ (a ≤ x ∧ x < a + ((0 : Nat) : Int)) by omega)]; rfl
  | n + 1 => by
    have h1 := cntB_strike hx hh a n
    rw [cntB_succ, cntB_succ]
    by_cases e : a + n = x
    · have h2 : h (a + n) = false := by rw [hh, e]; simp
      rw [h2, e, hx]
      rw [if_neg (show ¬ (a ≤ x ∧ x < a + (n : Int)) by omega)] at h1
      rw [if_pos (show a ≤ x ∧ x < a + ((n + 1 : Nat) : Int) by omega)]
      simp; omega
    · have h2 : h (a + n) = g (a + n) := by rw [hh]; simp [e]
      rw [h2]
      by_cases c : a ≤ x ∧ x < a + n
      · rw [if_pos c] at h1; rw [if_pos (show a ≤ x ∧ x < a + ((n + 1 : Nat) : Int) by omega)]; omega
      · rw [if_neg c] at h1; rw [if_neg (show ¬ (a ≤ x ∧ x < a + ((n + 1 : Nat) : Int)) by omega)]; omega
theorem cntB_false (a : Int) {g : Int → Bool} : ∀ n : Nat, (∀ x, g x = false) → cntB g a n = 0
  | 0, _ => rfl
  | n + 1, h => by unfold cntB; rw [cntB_false a n h, h]; rfl
/-- The sum over the first j of the week's days: how often each comes in n days. -/
def tsum (g : Int → Bool) (a : Int) (n : Int) : Nat → Int
  | 0 => 0
  | j + 1 => tsum g a n j + (if g (a + j) then (n - j + 6) / 7 else 0)
theorem tsum_small (g : Int → Bool) (a : Int) (n : Nat) (hn : n ≤ 7) : ∀ j : Nat, j ≤ n → tsum g a n j = cntB g a j
  | 0, _ => rfl
  | j + 1, h => by
    unfold tsum cntB
    rw [tsum_small g a n hn j (by omega), show ((n : Int) - j + 6) / 7 = 1 by omega]
theorem tsum_succ {g : Int → Bool} (hp : ∀ x, g (x + 7) = g x) (a : Int) (n : Nat) : tsum g a ((n + 1 : Nat) : Int) 7 = tsum g a n 7 + (if g (a + n) then 1 else 0) := by
  have hper : ∀ (q : Nat) (x : Int), g (x + 7 * q) = g x := by
    intro q; induction q with
    | zero => intro x; simp
    | succ q ih => intro x; rw [show x + 7 * ((q + 1 : Nat) : Int) = x + 7 * q + 7 by omega, hp, ih]
  have hg : g (a + n) = g (a + ((n % 7 : Nat) : Int)) := by
    have := hper (n / 7) (a + ((n % 7 : Nat) : Int))
    rw [← this]; congr 1; omega
  rw [hg]
  have s : ∀ k : Nat, k < 7 → (if g (a + k) then (((n + 1 : Nat) : Int) - k + 6) / 7 else 0) = (if g (a + k) then ((n : Int) - k + 6) / 7 else 0) + (if n % 7 = k then (if g (a + k) then 1 else 0) else 0) := by
    intro k hk
    cases g (a + k)
    · simp
    · simp only [if_true]
      split <;> omega
  have e : ∀ m : Int, tsum g a m 7 = 0 + (if g (a + (0 : Nat)) then (m - (0 : Nat) + 6) / 7 else 0) + (if g (a + (1 : Nat)) then (m - (1 : Nat) + 6) / 7 else 0) + (if g (a + (2 : Nat)) then (m - (2 : Nat) + 6) / 7 else 0) + (if g (a + (3 : Nat)) then (m - (3 : Nat) + 6) / 7 else 0) + (if g (a + (4 : Nat)) then (m - (4 : Nat) + 6) / 7 else 0) + (if g (a + (5 : Nat)) then (m - (5 : Nat) + 6) / 7 else 0) + (if g (a + (6 : Nat)) then (m - (6 : Nat) + 6) / 7 else 0) := fun m => rfl
  rw [e, e, s 0 (by omega), s 1 (by omega), s 2 (by omega), s 3 (by omega), s 4 (by omega), s 5 (by omega), s 6 (by omega)]
  rcases (show n % 7 = 0 ∨ n % 7 = 1 ∨ n % 7 = 2 ∨ n % 7 = 3 ∨ n % 7 = 4 ∨ n % 7 = 5 ∨ n % 7 = 6 by omega) with h | h | h | h | h | h | h <;> rw [h] <;> simp <;> omega
theorem tsum_big {g : Int → Bool} (hp : ∀ x, g (x + 7) = g x) (a : Int) : ∀ n : Nat, tsum g a ((7 + n : Nat) : Int) 7 = cntB g a (7 + n)
  | 0 => tsum_small g a 7 (by omega) 7 (by omega)
  | n + 1 => by
    have h := tsum_succ hp a (7 + n)
    rw [tsum_big hp a n] at h
    exact h
theorem tsum_all {g : Int → Bool} (hp : ∀ x, g (x + 7) = g x) (a : Int) (n j : Nat) (hj : j = min n 7) : tsum g a (n : Int) j = cntB g a n := by
  subst hj
  by_cases h : n ≤ 7
  · rw [Nat.min_eq_left h]; exact tsum_small g a n h n (Nat.le_refl _)
  · rw [Nat.min_eq_right (by omega)]
    have := tsum_big hp a (n - 7)
    rw [show 7 + (n - 7) = n by omega] at this
    exact this
end Go.Proofs.YtdfeehimnfogmaaGreatDoor
