/-
  My own text: plain mathematics: dealing out by weights.
-/
import Derived.Test.YthmbfdjbjljaiaaGreatDoorWeights
namespace Go.Proofs.YthmbfdjbjljaiaaGreatDoor

/-- What each weight is sure of, and what rests. -/
def qs (n S : Int) (l : List Int) : List Int := l.map fun x => n * x / S
def rs (n S : Int) (l : List Int) : List Int := l.map fun x => n * x % S
theorem qr_sum (n S : Int) : ∀ l : List Int, S * (qs n S l).sum + (rs n S l).sum = n * l.sum
  | [] => by simp [qs, rs]
  | x :: l => by
    have ih := qr_sum n S l
    have h := Int.mul_ediv_add_emod (n * x) S
    simp only [qs, rs, List.map_cons, List.sum_cons] at ih ⊢
    rw [Int.mul_add, Int.mul_add, ← ih]; omega
theorem rs_bounds {n S : Int} (hS : 0 < S) : ∀ l : List Int, 0 ≤ (rs n S l).sum ∧ (l ≠ [] → (rs n S l).sum < S * (l.length : Int))
  | [] => by simp [rs]
  | x :: l => by
    have ih := rs_bounds (n := n) hS l
    have h1 := Int.emod_nonneg (n * x) (show S ≠ 0 by omega)
    have h2 := Int.emod_lt_of_pos (n * x) hS
    have e : S * ((x :: l).length : Int) = S * (l.length : Int) + S := by rw [List.length_cons, Int.natCast_add, Int.mul_add]; simp
    have h3 : (rs n S (x :: l)).sum = n * x % S + (rs n S l).sum := by simp [rs]
    refine ⟨by omega, fun _ => ?_⟩
    rw [e, h3]
    by_cases hl : l = []
    · subst hl; simp [rs]; omega
    · have := ih.2 hl; omega
/-- What is left to deal, one by one. -/
def leftN (n : Int) (l : List Int) : Int := n - (qs n l.sum l).sum
theorem left_bounds {n : Int} {l : List Int} (hS : 0 < l.sum) : 0 ≤ leftN n l ∧ leftN n l < (l.length : Int) := by
  have hne : l ≠ [] := by intro h; rw [h] at hS; simp at hS
  have h1 := qr_sum n l.sum l
  have h2 := rs_bounds (n := n) hS l
  have h3 := h2.2 hne
  have h4 : l.sum * leftN n l = (rs n l.sum l).sum := by unfold leftN; rw [Int.mul_sub, Int.mul_comm l.sum n]; omega
  constructor
  · by_cases h : 0 ≤ leftN n l
    · exact h
    · have := Int.mul_neg_of_pos_of_neg hS (show leftN n l < 0 by omega); omega
  · by_cases h : leftN n l < (l.length : Int)
    · exact h
    · have := Int.mul_le_mul_of_nonneg_left (show (l.length : Int) ≤ leftN n l by omega) (show 0 ≤ l.sum by omega); omega
theorem sum_nn : ∀ l : List Int, (∀ x ∈ l, 0 ≤ x) → 0 ≤ l.sum
  | [], _ => by simp
  | x :: l, h => by rw [List.sum_cons]; have := sum_nn l (fun y hy => h y (by simp [hy])); have := h x (by simp); omega
theorem le_sum : ∀ (l : List Int), (∀ x ∈ l, 0 ≤ x) → ∀ x ∈ l, x ≤ l.sum
  | [], _, x, hx => by simp at hx
  | y :: l, h, x, hx => by
    rw [List.sum_cons]
    have h0 := sum_nn l (fun z hz => h z (by simp [hz]))
    have h1 := h y (by simp)
    rcases List.mem_cons.1 hx with rfl | hx
    · omega
    · have := le_sum l (fun z hz => h z (by simp [hz])) x hx; omega
theorem qs_nn {n : Int} {l : List Int} (hn : 0 ≤ n) (h : ∀ x ∈ l, 0 ≤ x) (hS : 0 < l.sum) : ∀ q ∈ qs n l.sum l, 0 ≤ q := by
  intro q hq
  obtain ⟨x, hx, rfl⟩ := List.mem_map.1 hq
  exact Int.ediv_nonneg (Int.mul_nonneg hn (h x hx)) (by omega)
/-- One that is sure of q, and all that is left, are no more than n. -/
theorem q_left {n : Int} {l : List Int} (hn : 0 ≤ n) (h : ∀ x ∈ l, 0 ≤ x) (hS : 0 < l.sum) : ∀ q ∈ qs n l.sum l, 0 ≤ q ∧ q + leftN n l ≤ n := by
  intro q hq
  have h1 := qs_nn hn h hS
  have h2 := le_sum _ h1 q hq
  have h3 := h1 q hq
  unfold leftN; omega
theorem areW_pos {l : List Int} (h : areW l = true) : (∀ x ∈ l, 0 ≤ x) ∧ 0 < l.sum := by
  unfold areW noNeg somePos at h
  rw [Bool.and_eq_true, List.all_eq_true, List.any_eq_true] at h
  have h1 : ∀ x ∈ l, 0 ≤ x := fun x hx => by simpa using h.1 x hx
  obtain ⟨x, hx, hp⟩ := h.2
  have := le_sum l h1 x hx
  simp at hp
  exact ⟨h1, by omega⟩
theorem qs_take {n S : Int} {l : List Int} {k : Nat} {x : Int} (h : l[k]? = some x) : (qs n S (l.take (k + 1))).sum = (qs n S (l.take k)).sum + n * x / S := by
  rw [List.take_add_one, h]; simp [qs]
/-- A product over the sum: the words that are handed to Div64. -/
theorem q_words {n x S : Int} (n0 : 0 ≤ n) (n1 : n ≤ 9223372036854775807) (x0 : 0 ≤ x) (x1 : x ≤ S) (S1 : S ≤ 9223372036854775807) (S0 : 0 < S) : 0 ≤ n * x / S ∧ n * x / S ≤ n ∧ 0 ≤ n * x % S ∧ n * x % S < S ∧ 0 ≤ n * x ∧ n * x < S * 9223372036854775808 := by
  have h0 : 0 ≤ n * x := Int.mul_nonneg n0 x0
  have h1 : n * x ≤ n * S := Int.mul_le_mul_of_nonneg_left x1 n0
  have h2 : n * S ≤ 9223372036854775807 * S := Int.mul_le_mul_of_nonneg_right n1 (by omega)
  refine ⟨Int.ediv_nonneg h0 (by omega), ?_, Int.emod_nonneg _ (by omega), Int.emod_lt_of_pos _ S0, h0, by omega⟩
  exact Int.ediv_le_of_le_mul S0 h1
end Go.Proofs.YthmbfdjbjljaiaaGreatDoor
