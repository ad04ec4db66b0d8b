/-
  My own text: layer 11: the document's Keys: the mathematics of keys that are put where they belong, from the end.
-/
import Derived.Test.YtgeholiagcckoaaGreatDoorGKR
namespace Go.Proofs.YtgeholiagcckoaaGreatDoor
open Go.RowKit

def ltR (a b : Int × Int) : Prop := a.1 < b.1 ∨ a.1 = b.1 ∧ a.2 < b.2
instance ltR_dec (a b : Int × Int) : Decidable (ltR a b) := inferInstanceAs (Decidable (_ ∨ _ ∧ _))
theorem ltR_irr (a : Int × Int) : ¬ ltR a a := fun h => by unfold ltR at h; omega
theorem ltR_asym {a b : Int × Int} (h : ltR a b) : ¬ ltR b a := fun k => by unfold ltR at h k; omega
theorem ltR_trans {a b c : Int × Int} (h : ltR a b) (k : ltR b c) : ltR a c := by unfold ltR at *; omega
theorem ltR_eq {a b : Int × Int} (h : ¬ ltR a b) (k : ¬ ltR b a) : a = b := by
  unfold ltR at h k
  have h1 : a.1 = b.1 := by omega
  have h2 : a.2 = b.2 := by omega
  exact Prod.ext h1 h2
theorem ltR_le {a b c : Int × Int} (h : ¬ ltR b a) (k : ¬ ltR c b) : ¬ ltR c a := by unfold ltR at *; omega
/-- Rising. -/
def SrR (L : List (Int × Int)) : Prop := L.Pairwise fun a b => ¬ ltR b a
/-- x at the place k of A. -/
def atR (A : List (Int × Int)) (x : Int × Int) (k : Nat) : List (Int × Int) := A.take k ++ x :: A.drop k
theorem atR_len {A : List (Int × Int)} {x : Int × Int} {k : Nat} (h : k ≤ A.length) : (atR A x k).length = A.length + 1 := by
  unfold atR; rw [List.length_append, List.length_cons, List.length_take, List.length_drop]; omega
theorem atR_end (A : List (Int × Int)) (x : Int × Int) : atR A x A.length = A ++ [x] := by unfold atR; rw [List.take_length, List.drop_length]
theorem atR_get {A : List (Int × Int)} {x : Int × Int} {k : Nat} (h : k ≤ A.length) : (atR A x k)[k]? = some x := by
  unfold atR
  rw [List.getElem?_append_right (by rw [List.length_take]; omega), List.length_take, Nat.min_eq_left h, Nat.sub_self]
  rfl
theorem atR_prev {A : List (Int × Int)} {x y : Int × Int} {k : Nat} (hy : A[k]? = some y) : (atR A x (k + 1))[k]? = some y := by
  have hl := (List.getElem?_eq_some_iff.1 hy).1
  unfold atR
  rw [List.getElem?_append_left (by rw [List.length_take]; omega), List.getElem?_take_of_lt (by omega)]
  exact hy
theorem atR_down {A : List (Int × Int)} {x y : Int × Int} {k : Nat} (hy : A[k]? = some y) : ((atR A x (k + 1)).set (k + 1) y).set k x = atR A x k := by
  have hl := (List.getElem?_eq_some_iff.1 hy).1
  have e1 : A.take (k + 1) = A.take k ++ [y] := by rw [List.take_add_one, hy]; rfl
  have e2 : A.drop k = y :: A.drop (k + 1) := by
    rw [List.drop_eq_getElem_cons hl, (List.getElem?_eq_some_iff.1 hy).2]
  have l1 : (A.take k).length = k := by rw [List.length_take]; omega
  unfold atR
  rw [e1, e2, List.append_assoc]
  rw [List.set_append_right _ _ (by rw [l1]; omega), l1, show k + 1 - k = 1 by omega, List.set_append_right _ _ (by rw [l1]; omega), l1, Nat.sub_self]
  rfl
theorem atR_perm (A : List (Int × Int)) (x : Int × Int) (k : Nat) : (atR A x k).Perm (A ++ [x]) := by
  unfold atR
  have h1 : (A.take k ++ x :: A.drop k).Perm (x :: (A.take k ++ A.drop k)) := List.perm_middle
  rw [List.take_append_drop] at h1
  exact h1.trans (List.perm_append_singleton x A).symm
theorem atR_srt {A : List (Int × Int)} {x : Int × Int} {k : Nat} (hA : SrR A) (hx : ∀ y ∈ A.drop k, ltR x y) (hk : ∀ y ∈ A.take k, ¬ ltR x y) : SrR (atR A x k) := by
  unfold SrR atR
  rw [← List.take_append_drop k A] at hA
  unfold SrR at hA
  rw [List.pairwise_append] at hA
  obtain ⟨h1, h2, h3⟩ := hA
  rw [List.pairwise_append]
  refine ⟨h1, List.pairwise_cons.2 ⟨fun y hy => ltR_asym (hx y hy), h2⟩, fun a ha b hb => ?_⟩
  rcases List.mem_cons.1 hb with rfl | hb
  · exact hk a ha
  · exact h3 a ha b hb
theorem take_low {A : List (Int × Int)} {x y : Int × Int} {k : Nat} (hA : SrR A) (hy : A[k]? = some y) (hn : ¬ ltR x y) : ∀ z ∈ A.take (k + 1), ¬ ltR x z := by
  intro z hz
  obtain ⟨i, hi⟩ := List.getElem?_of_mem hz
  have hil := (List.getElem?_eq_some_iff.1 hi).1
  rw [List.length_take] at hil
  rw [List.getElem?_take_of_lt (by omega)] at hi
  have hiA := List.getElem?_eq_some_iff.1 hi
  have hyA := List.getElem?_eq_some_iff.1 hy
  by_cases e : i = k
  · subst e
    rw [hi] at hy
    obtain rfl := Option.some.inj hy
    exact hn
  · have h := List.pairwise_iff_getElem.1 hA i k hiA.1 hyA.1 (by omega)
    rw [hiA.2, hyA.2] at h
    exact ltR_le h hn
/-- Two rising rows of the same keys are the same. -/
theorem srt_same : ∀ {L M : List (Int × Int)}, SrR L → SrR M → L.Perm M → L = M
  | [], M, _, _, h => h.nil_eq
  | a :: t, [], _, _, h => by have := h.length_eq; simp at this
  | a :: t, b :: u, hL, hM, h => by
    obtain ⟨l1, l2⟩ := List.pairwise_cons.1 hL
    obtain ⟨m1, m2⟩ := List.pairwise_cons.1 hM
    have hab : a = b := by
      have h1 : a ∈ b :: u := h.subset (by simp)
      have h2 : b ∈ a :: t := h.symm.subset (by simp)
      rcases List.mem_cons.1 h1 with e | e
      · exact e
      · rcases List.mem_cons.1 h2 with e2 | e2
        · exact e2.symm
        · exact ltR_eq (m1 a e) (l1 b e2)
    subst hab
    rw [srt_same l2 m2 (List.Perm.cons_inv h)]
end Go.Proofs.YtgeholiagcckoaaGreatDoor
