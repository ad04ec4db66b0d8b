/-
  My own text: layer 17: the document's rising keys: a key put where it belongs, seen from a loop.
-/
import Derived.Test.YtdjhbecbbmdimaaGreatDoorVM1
namespace Go.Proofs.YtdjhbecbbmdimaaGreatDoor
open Go.RowKit

theorem insK_app (k : Ky) : ∀ (A B : List Ky), (∃ x ∈ A, ¬ ltK x k) → insK k (A ++ B) = insK k A ++ B
  | [], _, h => by obtain ⟨x, hx, _⟩ := h; cases hx
  | y :: t, B, h => by
    show insK k (y :: (t ++ B)) = _
    unfold insK
    split
    · rfl
    · next hne =>
      split
      · rfl
      · next hnl =>
        rw [insK_app k t B (by
          obtain ⟨x, hx, hn⟩ := h
          rcases List.mem_cons.1 hx with e | e
          · subst e
            rcases ltK_tri k x with c | c | c
            · exact absurd c hnl
            · exact absurd c hne
            · exact absurd c hn
          · exact ⟨x, e, hn⟩)]
        rfl
theorem insK_lt (k : Ky) : ∀ (A B : List Ky), (∀ x ∈ A, ltK x k) → insK k (A ++ B) = A ++ insK k B
  | [], _, _ => rfl
  | y :: t, B, h => by
    have hy := h y (by simp)
    show insK k (y :: (t ++ B)) = y :: (t ++ insK k B)
    rw [insK, if_neg (fun e => ltK_ne hy e.symm), if_neg (ltK_asym hy), insK_lt k t B (fun x hx => h x (List.mem_cons_of_mem _ hx))]
/-- What `with` has made of the first keys: put or not. -/
def Wi (k : Ky) (A : List Ky) (b : Bool) (O : List Ky) : Prop := (b = true ∧ O = insK k A ∧ ∃ x ∈ A, ¬ ltK x k) ∨ (b = false ∧ O = A ∧ ∀ x ∈ A, ltK x k)
theorem Wi.nil (k : Ky) : Wi k [] false [] := .inr ⟨rfl, rfl, fun _ h => by cases h⟩
theorem Wi.put {k y : Ky} {A O : List Ky} (h : Wi k A true O) : Wi k (A ++ [y]) true (O ++ [y]) := by
  rcases h with ⟨_, rfl, x, hx, hn⟩ | ⟨e, _⟩
  · exact .inl ⟨rfl, (insK_app k A [y] ⟨x, hx, hn⟩).symm, x, List.mem_append_left _ hx, hn⟩
  · cases e
theorem Wi.eq {k : Ky} {A O : List Ky} (h : Wi k A false O) : Wi k (A ++ [k]) true (O ++ [k]) := by
  rcases h with ⟨e, _⟩ | ⟨_, rfl, ha⟩
  · cases e
  · exact .inl ⟨rfl, by rw [insK_lt k _ _ ha, insK, if_pos rfl], k, by simp, ltK_irr k⟩
theorem Wi.lt {k y : Ky} {A O : List Ky} (h : Wi k A false O) (hl : ltK k y) : Wi k (A ++ [y]) true (O ++ [k] ++ [y]) := by
  rcases h with ⟨e, _⟩ | ⟨_, rfl, ha⟩
  · cases e
  · refine .inl ⟨rfl, ?_, y, by simp, ltK_asym hl⟩
    rw [insK_lt k _ _ ha, insK, if_neg (ltK_ne hl), if_pos hl]
    simp
theorem Wi.gt {k y : Ky} {A O : List Ky} (h : Wi k A false O) (hn : ¬ k = y) (hl : ¬ ltK k y) : Wi k (A ++ [y]) false (O ++ [y]) := by
  rcases h with ⟨e, _⟩ | ⟨_, rfl, ha⟩
  · cases e
  · refine .inr ⟨rfl, rfl, fun x hx => ?_⟩
    rcases List.mem_append.1 hx with e | e
    · exact ha x e
    · rw [List.mem_singleton.1 e]
      rcases ltK_tri k y with c | c | c
      · exact absurd c hl
      · exact absurd c hn
      · exact c
theorem Wi.end1 {k : Ky} {A O : List Ky} (h : Wi k A true O) : O = insK k A := by
  rcases h with ⟨_, rfl, _⟩ | ⟨e, _⟩
  · rfl
  · cases e
theorem Wi.end0 {k : Ky} {A O : List Ky} (h : Wi k A false O) : O ++ [k] = insK k A := by
  rcases h with ⟨e, _⟩ | ⟨_, rfl, ha⟩
  · cases e
  · have := insK_lt k O [] ha
    rw [List.append_nil] at this
    rw [this]; rfl
theorem Wi.len {k : Ky} {A O : List Ky} {b : Bool} (h : Wi k A b O) : O.length ≤ A.length + 1 := by
  rcases h with ⟨_, rfl, _⟩ | ⟨_, rfl, _⟩
  · exact insK_len k A
  · omega
/-- The keys of an operation. -/
def kyO (cd ac as_ id : Int) (L : List LG.El) (P : List Ky) : List Ky :=
  if cd = 1 ∨ cd = 2 ∨ cd = 3 ∨ cd = 4 then [(ac, as_)] else if cd = 5 then lkK id L else if cd = 6 ∨ cd = 7 then [(-1, id)] else if cd = 8 then ks P else []
theorem om_key (w w1 : World) (a b : Int) (hb : w.heap.size ≤ w1.heap.size) : KY.OM (w1.alloc (.cells #[.int .i64 a, .int .i64 b] 39)) w.heap.size (.slice (some ⟨w1.heap.size, 0, none⟩) 1 1) [(a, b)] := ⟨rfl, .inr ⟨w1.heap.size, 1, _, rfl, hb, alloc_new w1 _, Nat.le_refl _, by decide, rfl, rfl⟩⟩
theorem om_key2 (w : World) (o : Obj) (a b : Int) : KY.OM ((w.alloc o).alloc (.cells #[.int .i64 a, .int .i64 b] 39)) w.heap.size (.slice (some ⟨w.heap.size + 1, 0, none⟩) 1 1) [(a, b)] := by
  have h := om_key w (w.alloc o) a b (by simp)
  rw [show (w.alloc o).heap.size = w.heap.size + 1 by simp] at h
  exact h
end Go.Proofs.YtdjhbecbbmdimaaGreatDoor
