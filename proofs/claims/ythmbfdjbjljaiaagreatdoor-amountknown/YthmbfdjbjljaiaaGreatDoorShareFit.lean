/-
  My own text: the parts that dealing out answers: plain facts for the law's walk.
-/
import Derived.Test.YthmbfdjbjljaiaaGreatDoorFit
namespace Go.Proofs.YthmbfdjbjljaiaaGreatDoor
open Go.RowKit

theorem chs_left {n : Int} {l : List Int} {j : Nat} (h : j ∈ chs n l) : 1 ≤ leftN n l := by
  apply Classical.byContradiction
  intro hc
  unfold chs at h
  rw [show (leftN n l).toNat = 0 by omega] at h
  simp at h
theorem quot_b {n : Int} {l : List Int} {j : Nat} (n0 : 0 ≤ n) (hn : ∀ x ∈ l, 0 ≤ x) (hS : 0 < l.sum) (hj : j < l.length) : 0 ≤ n * l.getD j 0 / l.sum ∧ n * l.getD j 0 / l.sum + leftN n l ≤ n := by
  refine q_left n0 hn hS _ ?_
  rw [← qs_range]
  exact List.mem_map.2 ⟨j, List.mem_range.2 hj, rfl⟩
/-- What is known of two numbers that dealing out ties: the weight and the part. -/
structure Prt (n S x y : Int) : Prop where
  q0 : 0 ≤ n * x / S
  qn : n * x / S ≤ n
  near : y = n * x / S ∨ y = n * x / S + 1
  le : y ≤ n
  none : x = 0 → y = 0
theorem getD_of {l : List Int} {k : Nat} {x : Int} (h : l[k]? = some x) : l.getD k 0 = x := by rw [List.getD_eq_getElem?_getD, h]; rfl
theorem prt_at {n : Int} {l : List Int} (h : ¬ 1 ≤ wE n l) {j : Nat} {x y : Int} (hx : l[j]? = some x) (hy : (splitR n l)[j]? = some y) : Prt n l.sum x y := by
  obtain ⟨n0, hW, hS, _⟩ := wE_fit h
  obtain ⟨hn, hp⟩ := areW_pos hW
  have hj := (List.getElem?_eq_some_iff.1 hx).1
  have hb := left_bounds (n := n) hp
  have hq := quot_b n0 hn hp hj
  have e := part_at h hj
  rw [hy] at e
  have e := Option.some.inj e
  rw [getD_of hx] at hq e
  refine ⟨hq.1, by omega, ?_, ?_, ?_⟩
  · split at e <;> omega
  · split at e
    · have := chs_left (by assumption); omega
    · omega
  · intro h0
    have hc := chosen_none (n := n) (l := l) (c := j) (by rw [getD_of hx]; exact h0) hp
    rw [if_neg hc, h0] at e
    simp at e; exact e
theorem prt_two {n : Int} {l : List Int} (h : ¬ 1 ≤ wE n l) {k i : Nat} {x y x' y' : Int} (hk : l[k]? = some x) (hky : (splitR n l)[k]? = some y) (hi : l[i]? = some x') (hiy : (splitR n l)[i]? = some y') (hki : k < i) :
    (x' ≤ x → y' ≤ y) ∧ (x < x' → y ≤ y') := by
  obtain ⟨n0, hW, hS, _⟩ := wE_fit h
  obtain ⟨hn, hp⟩ := areW_pos hW
  have hkl := (List.getElem?_eq_some_iff.1 hk).1
  have hil := (List.getElem?_eq_some_iff.1 hi).1
  have e1 := part_at h hkl
  rw [hky] at e1
  have e1 := Option.some.inj e1
  have e2 := part_at h hil
  rw [hiy] at e2
  have e2 := Option.some.inj e2
  rw [e1, e2]
  constructor
  · intro hle; exact part_ge n0 hp hkl hki (by rw [getD_of hk, getD_of hi]; exact hle)
  · intro hlt; exact part_le n0 hn hp hil (by rw [getD_of hk, getD_of hi]; exact hlt)
theorem splitR_len' {n : Int} {l : List Int} (h : ¬ 1 ≤ wE n l) : (splitR n l).length = l.length := by rw [splitR_fit h, splitL_len]
theorem splitR_in {n : Int} {l : List Int} (h : ¬ 1 ≤ wE n l) (n1 : n ≤ 9223372036854775807) : ∀ y ∈ splitR n l, -9223372036854775808 ≤ y ∧ y ≤ 9223372036854775807 := by
  intro y hy
  obtain ⟨j, hj, e⟩ := List.mem_iff_getElem.1 hy
  rw [splitR_len' h] at hj
  obtain ⟨x, hx⟩ := some_at hj
  have p := prt_at h hx (y := y) (by rw [List.getElem?_eq_getElem (by rw [splitR_len' h]; exact hj), e])
  have := p.q0
  have := p.le
  rcases p.near with h | h <;> omega
/-- The low quotient, by the program's own product. -/
theorem md_low {n x S : Int} (n0 : 0 ≤ n) (n1 : n ≤ 9223372036854775807) (x0 : 0 ≤ x) (hS : 0 < S) (hq : n * x / S ≤ n) : mdV n x S 0 = n * x / S ∧ mdE n x S 0 = 0 := by
  have hu : mdQ n x S 0 = n * x / S := mdQ_down (up_ne (by omega) (by omega) (by omega))
  have h := md_ok (a := n) (b := x) (c := S) (mode := 0) (by omega) (by rw [hu]; omega)
  rw [hu] at h; exact h
theorem wE_by {n : Int} {l : List Int} {b : Int} (h : ¬ 1 ≤ wE n l) (hb : 0 < b) (hS : l.sum * b ≤ 9223372036854775807) : ¬ 1 ≤ wE n (l.map (· * b)) := by
  obtain ⟨n0, hW, _, _⟩ := wE_fit h
  obtain ⟨hn, hp⟩ := areW_pos hW
  have hA : areW (l.map (· * b)) = true := by
    unfold areW noNeg somePos at hW ⊢
    rw [Bool.and_eq_true, List.all_eq_true, List.any_eq_true] at hW ⊢
    refine ⟨fun y hy => ?_, ?_⟩
    · obtain ⟨x, hx, rfl⟩ := List.mem_map.1 hy
      have := Int.mul_nonneg (hn x hx) (Int.le_of_lt hb)
      simpa using this
    · obtain ⟨x, hx, hpx⟩ := hW.2
      have := Int.mul_pos (show 0 < x by simpa using hpx) hb
      exact ⟨x * b, List.mem_map.2 ⟨x, hx, rfl⟩, by simpa using this⟩
  have hpos := Int.mul_pos hp hb
  rw [(w_fit (n := n) (by omega) hA).2, (sum_ok (s := (l.map (· * b)).sum) (by rw [sum_by]; omega)).2]
  omega
theorem by_in {l : List Int} {b : Int} (hn : ∀ x ∈ l, 0 ≤ x) (hb : 0 < b) (hS : l.sum * b ≤ 9223372036854775807) : ∀ x ∈ l, 0 ≤ x * b ∧ x * b ≤ 9223372036854775807 := by
  intro x hx
  have h1 := le_sum l hn x hx
  have h2 := Int.mul_le_mul_of_nonneg_right h1 (Int.le_of_lt hb)
  have h3 := Int.mul_nonneg (hn x hx) (Int.le_of_lt hb)
  omega
end Go.Proofs.YthmbfdjbjljaiaaGreatDoor
