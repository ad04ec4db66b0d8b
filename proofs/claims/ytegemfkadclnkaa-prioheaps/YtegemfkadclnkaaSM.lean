/-
  My own text: the row of a heap is a stable sort.
-/
import Derived.Test.YtegemfkadclnkaaPM1
namespace Go.Proofs.Ytegemfkadclnkaa
open Go.RowKit

section
variable {α : Type} {k : α → Int}
theorem srt_some [DecidableEq α] {R : List (α × Nat)} {m : Nat} {x : α × Nat} (h : mn k (fun _ => true) R = some x) : srt k (m + 1) R = x.1 :: srt k m (er R x) := by simp only [srt, h]
theorem mn_ex {R : List (α × Nat)} (h : 0 < R.length) : ∃ x, mn k (fun _ => true) R = some x := by
  cases hm : mn k (fun _ => true) R with
  | some x => exact ⟨x, rfl⟩
  | none =>
    cases R with
    | nil => simp at h
    | cons e t => have := mn_none.1 hm e (by simp); cases this
theorem er_length [DecidableEq α] {R : List (α × Nat)} {x : α × Nat} (h : x ∈ R) : (er R x).length + 1 = R.length := by
  have h2 : (R.erase x).length = R.length - 1 := List.length_erase_of_mem h
  have h3 := List.length_pos_of_mem h
  show (R.erase x).length + 1 = _
  omega
theorem srt_len [DecidableEq α] : ∀ (m : Nat) (R : List (α × Nat)), R.length = m → (srt k m R).length = m
  | 0, _, _ => rfl
  | m + 1, R, h => by
    obtain ⟨x, hx⟩ := mn_ex (k := k) (R := R) (by omega)
    rw [srt_some hx, List.length_cons, srt_len m (er R x) (by have := er_length (mn_some hx).1; omega)]
theorem srt_mem [DecidableEq α] : ∀ (m : Nat) (R : List (α × Nat)) (y : α), y ∈ srt k m R → ∃ c, (y, c) ∈ R
  | 0, _, _, h => by cases h
  | m + 1, R, y, h => by
    cases hx : mn k (fun _ => true) R with
    | none => simp only [srt, hx] at h; cases h
    | some x =>
      rw [srt_some hx] at h
      rcases List.mem_cons.1 h with rfl | h
      · exact ⟨x.2, (mn_some hx).1⟩
      · obtain ⟨c, hc⟩ := srt_mem m (er R x) y h
        exact ⟨c, er_sub hc⟩
/-- None is less than the one ahead of it. -/
theorem srt_sorted [DecidableEq α] : ∀ (m : Nat) (R : List (α × Nat)), List.Pairwise (fun a b => k a ≤ k b) (srt k m R)
  | 0, _ => List.Pairwise.nil
  | m + 1, R => by
    cases hx : mn k (fun _ => true) R with
    | none => simp only [srt, hx]; exact List.Pairwise.nil
    | some x =>
      rw [srt_some hx]
      refine List.Pairwise.cons (fun y hy => ?_) (srt_sorted m _)
      obtain ⟨c, hc⟩ := srt_mem m _ y hy
      have := (mn_some hx).2.2 (y, c) (er_sub hc) rfl
      rw [ltE_no] at this
      dsimp only at this
      omega
theorem filt_ne [DecidableEq α] {c : Int} {x : α × Nat} (h : k x.1 ≠ c) : ∀ R : List (α × Nat), (er R x).filter (fun e => k e.1 == c) = R.filter (fun e => k e.1 == c)
  | [] => rfl
  | e :: t => by
    have ih := filt_ne h t
    unfold er at ih ⊢
    rw [List.erase_cons]
    by_cases he : e = x
    · subst he
      rw [if_pos (by simp), List.filter_cons_of_neg (by simpa using h)]
    · rw [if_neg (by simpa using he), List.filter_cons, List.filter_cons, ih]
theorem filt_eq [DecidableEq α] {c : Int} {x : α × Nat} (h : k x.1 = c) : ∀ {R : List (α × Nat)} {n : Nat}, Rs n R → x ∈ R → (∀ e ∈ R, k e.1 = c → x.2 ≤ e.2) → R.filter (fun e => k e.1 == c) = x :: (er R x).filter (fun e => k e.1 == c)
  | e :: t, n, hr, hx, hm => by
    by_cases he : e = x
    · subst he
      rw [List.filter_cons_of_pos (by simpa using h)]
      unfold er
      rw [List.erase_cons_head]
    · have hxt : x ∈ t := (List.mem_cons.1 hx).resolve_left (fun q => he q.symm)
      have hlt := Rs.ge hr.2 x hxt
      have hne : ¬ k e.1 = c := fun q => by have := hm e (by simp) q; omega
      have ih := filt_eq h hr.2 hxt (fun e' he' => hm e' (by simp [he']))
      unfold er at ih ⊢
      rw [List.filter_cons_of_neg (by simpa using hne), ih, List.erase_cons_tail (by simpa using he), List.filter_cons_of_neg (by simpa using hne)]
/-- Those of one key come in the order of their coming. -/
theorem srt_filter [DecidableEq α] (c : Int) : ∀ (m : Nat) (R : List (α × Nat)), R.length = m → Rs 0 R → (srt k m R).filter (fun y => k y == c) = (R.filter (fun e => k e.1 == c)).map (·.1)
  | 0, R, h, _ => by
    obtain rfl := List.eq_nil_of_length_eq_zero h
    rfl
  | m + 1, R, h, hr => by
    obtain ⟨x, hx⟩ := mn_ex (k := k) (R := R) (by omega)
    obtain ⟨h1, _, h3⟩ := mn_some hx
    rw [srt_some hx]
    have ih := srt_filter c m (er R x) (by have := er_length h1; omega) (hr.er x)
    by_cases hc : k x.1 = c
    · rw [List.filter_cons_of_pos (by simpa using hc), ih, filt_eq hc hr h1 (fun e he hk => by
        have := h3 e he rfl
        rw [ltE_no] at this
        omega), List.map_cons]
    · rw [List.filter_cons_of_neg (by simpa using hc), ih, filt_ne hc]
theorem Rs.zip : ∀ (l : List α) (n : Nat), Rs n (l.zipIdx n)
  | [], _ => trivial
  | _ :: t, n => ⟨Nat.le_refl _, Rs.zip t (n + 1)⟩
theorem zip_filter (c : Int) : ∀ (l : List α) (n : Nat), ((l.zipIdx n).filter (fun e => k e.1 == c)).map (·.1) = l.filter (fun y => k y == c)
  | [], _ => rfl
  | a :: t, n => by
    have ih := zip_filter c t (n + 1)
    rw [List.zipIdx_cons, List.filter_cons, List.filter_cons]
    by_cases h : k a == c
    · rw [if_pos h, if_pos h, List.map_cons, ih]
    · rw [if_neg h, if_neg h, ih]
theorem zip_snoc {l : List α} {t : Nat} {x : α} (h : l[t]? = some x) : (l.take t).zipIdx ++ [(x, t)] = (l.take (t + 1)).zipIdx := by
  have hl := (List.getElem?_eq_some_iff.1 h).1
  rw [List.take_add_one, h, Option.toList_some, List.zipIdx_append]
  simp
  omega
end
end Go.Proofs.Ytegemfkadclnkaa
