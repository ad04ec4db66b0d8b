/-
  My own text: the law GuardOwn.
-/
import Derived.Test.YtejdchknpfodeabDoorG13
namespace Go.Proofs.YtejdchknpfodeabDoor
open Go.RowKit

theorem num_errV (k : Int) (w : World) (h1 : 0 ≤ k) (h2 : k ≤ 24) :
    Calls Tryd.prog 5 #[errV k] w fun e w' => e = .returned (.int .i64 k) ∧ w' = w := by
  by_cases h : k = 0
  · subst h; exact num_nil w
  · rw [errV_pos (by omega)]; exact num_errno k w (by omega) h2
theorem kyE_more {A S A' S' a s : Int} (h : kyE A S a s = 0) (hA : A ≤ A') (hS : S ≤ S') : kyE A' S' a s = 0 := by
  unfold kyE at *
  by_cases h1 : 0 ≤ a ∧ a < A
  · rw [if_pos h1] at h
    by_cases h2 : 0 ≤ s ∧ s < S
    · rw [if_pos (by omega), if_pos (by omega)]
    · rw [if_neg h2] at h; omega
  · rw [if_neg h1] at h; omega
theorem hdE_more {A S A' S' a s q : Int} (h : hdE A S a s q = 0) (hA : A ≤ A') (hS : S ≤ S') : hdE A' S' a s q = 0 := by
  unfold hdE at *
  by_cases h1 : kyE A S a s = 0
  · rw [if_pos h1] at h
    rw [if_pos (kyE_more h1 hA hS)]; exact h
  · rw [if_neg h1] at h; exact absurd h h1
theorem mkE_more {A S A' S' a s q n : Int} (h : mkE A S a s q n = 0) (hA : A ≤ A') (hS : S ≤ S') : mkE A' S' a s q n = 0 := by
  unfold mkE at *
  by_cases h1 : hdE A S a s q = 0
  · rw [if_pos h1] at h
    rw [if_pos (hdE_more h1 hA hS)]; exact h
  · rw [if_neg h1] at h; exact absurd h h1
theorem lgE_more {A S A' S' : Int} {l : LG.El} (h : lgE A S l = 0) (hA : A ≤ A') (hS : S ≤ S') : lgE A' S' l = 0 := by
  unfold lgE at *
  by_cases h1 : 0 ≤ l.1 ∧ l.1 < A
  · rw [if_pos h1] at h
    rw [if_pos (by omega)]
    by_cases h2 : 0 ≤ l.2.1 ∧ l.2.1 < A
    · rw [if_pos h2] at h
      rw [if_pos (by omega)]
      by_cases h3 : l.1 = l.2.1
      · rw [if_pos h3] at h; omega
      · rw [if_neg h3] at h ⊢
        by_cases h4 : 0 ≤ l.2.2.1 ∧ l.2.2.1 < S
        · rw [if_pos h4] at h
          rw [if_pos (by omega)]; exact h
        · rw [if_neg h4] at h; omega
    · rw [if_neg h2] at h; omega
  · rw [if_neg h1] at h; omega
theorem fst0_all : ∀ {L : List Int}, fst0 L = 0 → ∀ x ∈ L, x = 0
  | y :: t, h, x, hx => by
    by_cases hy : y = 0
    · have e : fst0 (y :: t) = fst0 t := by show (if y = 0 then fst0 t else y) = _; rw [if_pos hy]
      rcases List.mem_cons.1 hx with rfl | hx
      · exact hy
      · exact fst0_all (e.symm.trans h) x hx
    · have e : fst0 (y :: t) = y := by show (if y = 0 then fst0 t else y) = _; rw [if_neg hy]
      exact absurd (e.symm.trans h) hy
theorem fst0_zero : ∀ {L : List Int}, (∀ x ∈ L, x = 0) → fst0 L = 0
  | [], _ => rfl
  | y :: t, h => by
    show (if y = 0 then fst0 t else y) = 0
    rw [if_pos (h y List.mem_cons_self)]
    exact fst0_zero (fun x hx => h x (List.mem_cons_of_mem _ hx))
theorem chk_more {A S A' S' : Int} {o : OpX} (h : chk A S o = 0) (hA : A ≤ A') (hS : S ≤ S') : chk A' S' o = 0 := by
  by_cases hc : 1 ≤ o.code ∧ o.code ≤ 8
  · obtain e | e | e | e | e | e | e | e : o.code = 1 ∨ o.code = 2 ∨ o.code = 3 ∨ o.code = 4 ∨ o.code = 5 ∨ o.code = 6 ∨ o.code = 7 ∨ o.code = 8 := by omega
    · rw [chk_1 e] at *; exact hdE_more h hA hS
    · rw [chk_2 e] at *; exact hdE_more h hA hS
    · rw [chk_3 e] at *; exact mkE_more h hA hS
    · rw [chk_4 e] at *; exact mkE_more h hA hS
    · rw [chk_5 e] at *
      unfold sbE at *
      by_cases h1 : idE o.id = 0
      · rw [if_pos h1] at h ⊢
        by_cases h2 : o.legs.length = 0
        · rw [if_pos h2] at h; omega
        · rw [if_neg h2] at h ⊢
          by_cases h3 : 4 < o.legs.length
          · rw [if_pos h3] at h; omega
          · rw [if_neg h3] at h ⊢
            exact fst0_zero (fun x hx => by
              obtain ⟨l, hl, rfl⟩ := List.mem_map.1 hx
              exact lgE_more (fst0_all h _ (List.mem_map.2 ⟨l, hl, rfl⟩)) hA hS)
      · rw [if_neg h1] at h; omega
    · rw [chk_6 e] at *; exact h
    · rw [chk_7 e] at *; exact h
    · rw [chk_8 e] at *
      unfold snE at *
      by_cases h3 : 64 < o.pairs.length
      · rw [if_pos h3] at h; omega
      · rw [if_neg h3] at h ⊢
        exact fst0_zero (fun x hx => by
          obtain ⟨l, hl, rfl⟩ := List.mem_map.1 hx
          exact kyE_more (fst0_all h _ (List.mem_map.2 ⟨l, hl, rfl⟩)) hA hS)
  · rw [chk_0 hc] at h; omega
end Go.Proofs.YtejdchknpfodeabDoor
