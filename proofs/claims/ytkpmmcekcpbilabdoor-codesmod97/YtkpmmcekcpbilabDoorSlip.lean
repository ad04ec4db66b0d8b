/-
  My own text: slips: forms that stay, sums that do not: plain facts.
-/
import Derived.Test.YtkpmmcekcpbilabDoorPut
namespace Go.Proofs.YtkpmmcekcpbilabDoor
open Go.RowKit

theorem cut_at {s : List UInt8} {k : Nat} (h : k < s.length) : s = s.take k ++ s.getD k 0 :: s.drop (k + 1) := by
  rw [getD_at h, List.getElem_cons_drop, List.take_append_drop]
theorem putL_eq (s : List UInt8) (k : Nat) (c : UInt8) : putL s k c = s.take k ++ c :: s.drop (k + 1) := by unfold putL; simp
theorem putL_at {s : List UInt8} {k : Nat} {c : UInt8} (h : k < s.length) (j : Nat) : (putL s k c).getD j 0 = if j = k then c else s.getD j 0 := by
  have hl : (s.take k).length = k := by rw [List.length_take]; omega
  rw [putL_eq]
  by_cases h1 : j < k
  · rw [getD_left (by omega), if_neg (by omega), List.getD_eq_getElem?_getD, List.getElem?_take, if_pos h1, ← List.getD_eq_getElem?_getD]
  · obtain ⟨i, rfl⟩ : ∃ i, j = k + i := ⟨j - k, by omega⟩
    have h2 := getD_right (l := s.take k) (p := c :: s.drop (k + 1)) i
    rw [hl] at h2
    rw [h2]
    cases i with
    | zero => rw [if_pos (by omega)]; rfl
    | succ i =>
      rw [if_neg (by omega), List.getD_cons_succ, List.getD_eq_getElem?_getD, List.getElem?_drop, List.getD_eq_getElem?_getD]
      congr 2; omega
theorem fit_like {x c p : UInt8} (h : fitB x p = true) (hl : Like x c) : fitB c p = true := by
  unfold fitB at h ⊢
  rcases hl with ⟨h1, h2⟩ | ⟨h1, h2⟩
  · by_cases e1 : p = 68
    · rw [if_pos e1]; exact h2
    · rw [if_neg e1] at h ⊢
      by_cases e2 : p = 67
      · rw [if_pos e2] at h; exact absurd h1 (cp_not_dg h)
      · rw [if_neg e2, h2]; rfl
  · by_cases e1 : p = 68
    · rw [if_pos e1] at h; exact absurd h (cp_not_dg h1)
    · rw [if_neg e1] at h ⊢
      by_cases e2 : p = 67
      · rw [if_pos e2]; exact h2
      · rw [if_neg e2, h2]; simp
theorem form_put {s f : List UInt8} {k : Nat} {c : UInt8} (h : Form s f) (hk : k < s.length) (hl : Like (s.getD k 0) c) : Form (putL s k c) f := by
  refine ⟨by rw [putL_len hk]; exact h.1, fun j hj => ?_⟩
  rw [putL_len hk] at hj
  rw [putL_at hk]
  by_cases e : j = k
  · subst e; rw [if_pos rfl]; exact fit_like (h.2 j hk) hl
  · rw [if_neg e]; exact h.2 j hj
theorem slip_isin {s : List UInt8} {k : Nat} {c : UInt8} (h : Form s isinF) (h0 : lsum (spr s) % 10 = 0) (hk : k < s.length) (dx : isDg (s.getD k 0) = true) (dc : isDg c = true) (hne : s.getD k 0 ≠ c) : isinR (putL s k c) = (7, 0) := by
  refine isinR_sum (form_put h hk (.inl ⟨dx, dc⟩)) ?_
  rw [cut_at hk] at h0
  rw [putL_eq]
  exact luhn_slip dx dc hne h0
/-- a text with two neighbours that have changed places -/
def turnL (s : List UInt8) (k : Nat) : List UInt8 := putL (putL s k (s.getD (k + 1) 0)) (k + 1) (s.getD k 0)
theorem cut_two {s : List UInt8} {k : Nat} (h : k + 1 < s.length) : s = s.take k ++ s.getD k 0 :: s.getD (k + 1) 0 :: s.drop (k + 2) := by
  have h1 := cut_at (s := s) (k := k) (by omega)
  have h2 : s.drop (k + 1) = s.getD (k + 1) 0 :: s.drop (k + 2) := by rw [getD_at h, List.getElem_cons_drop]
  rw [h2] at h1; exact h1
theorem turnL_eq {s : List UInt8} {k : Nat} (h : k + 1 < s.length) : turnL s k = s.take k ++ s.getD (k + 1) 0 :: s.getD k 0 :: s.drop (k + 2) := by
  have hl : (s.take k).length = k := by rw [List.length_take]; omega
  unfold turnL
  rw [putL_eq, putL_eq]
  have h2 : s.drop (k + 1) = s.getD (k + 1) 0 :: s.drop (k + 2) := by rw [getD_at h, List.getElem_cons_drop]
  rw [h2]
  rw [List.take_append, List.drop_append, hl]
  rw [List.take_of_length_le (show (s.take k).length ≤ k + 1 by omega), List.drop_eq_nil_of_le (show (s.take k).length ≤ k + 1 + 1 by omega)]
  rw [show k + 1 - k = 1 by omega, show k + 1 + 1 - k = 2 by omega]
  simp
theorem form_turn {s f : List UInt8} {k : Nat} (h : Form s f) (hk : k + 1 < s.length) (hl : Like (s.getD k 0) (s.getD (k + 1) 0)) : Form (turnL s k) f := by
  have hl' : Like (s.getD (k + 1) 0) (s.getD k 0) := by
    rcases hl with ⟨h1, h2⟩ | ⟨h1, h2⟩
    · exact .inl ⟨h2, h1⟩
    · exact .inr ⟨h2, h1⟩
  unfold turnL
  refine form_put (form_put h (by omega) hl) (by rw [putL_len (by omega)]; exact hk) ?_
  rw [putL_at (by omega), if_neg (by omega)]; exact hl'
theorem turn_isin {s : List UInt8} {k : Nat} (h : Form s isinF) (h0 : lsum (spr s) % 10 = 0) (hk : k + 1 < s.length) (dx : isDg (s.getD k 0) = true) (dy : isDg (s.getD (k + 1) 0) = true) (hne : s.getD k 0 ≠ s.getD (k + 1) 0)
    (h9 : ¬ ((s.getD k 0).toNat = 48 ∧ (s.getD (k + 1) 0).toNat = 57)) (h90 : ¬ ((s.getD k 0).toNat = 57 ∧ (s.getD (k + 1) 0).toNat = 48)) : isinR (turnL s k) = (7, 0) := by
  refine isinR_sum (form_turn h hk (.inl ⟨dx, dy⟩)) ?_
  rw [cut_two hk] at h0
  rw [turnL_eq hk]
  exact luhn_swap dx dy hne h9 h90 h0
theorem lei_one {s : List UInt8} (h : (leiR s).1 = 0) : rm (spr s) = 1 := by
  by_cases hF : Form s leiF
  · by_cases hs : s.drop 18 = two (spr (s.take 18))
    · have e : s = s.take 18 ++ two (spr (s.take 18)) := by rw [← hs, List.take_append_drop]
      rw [e]; exact taken_one _
    · rw [leiR_sum hF hs] at h; exact absurd h (by decide)
  · rw [leiR_bad hF] at h; exact absurd h (form_ne hF)
theorem lei_not {s : List UInt8} (hF : Form s leiF) (h : rm (spr s) ≠ 1) : leiR s = (7, 0) := by
  by_cases hs : s.drop 18 = two (spr (s.take 18))
  · exact absurd (lei_one (by rw [leiR_ok hF hs])) h
  · exact leiR_sum hF hs
theorem slip_lei {s : List UInt8} {k : Nat} {c : UInt8} (h : Form s leiF) (h0 : rm (spr s) = 1) (hk : k < s.length) (hl : Like (s.getD k 0) c) (hne : s.getD k 0 ≠ c) : leiR (putL s k c) = (7, 0) := by
  refine lei_not (form_put h hk hl) ?_
  rw [cut_at hk] at h0
  rw [putL_eq]
  exact mod97_slip hl hne h0
theorem turn_lei {s : List UInt8} {k : Nat} (h : Form s leiF) (h0 : rm (spr s) = 1) (hk : k + 1 < s.length) (hl : Like (s.getD k 0) (s.getD (k + 1) 0)) (hne : s.getD k 0 ≠ s.getD (k + 1) 0) : leiR (turnL s k) = (7, 0) := by
  refine lei_not (form_turn h hk hl) ?_
  rw [cut_two hk] at h0
  rw [turnL_eq hk]
  exact mod97_swap hl hne h0
end Go.Proofs.YtkpmmcekcpbilabDoor
