/-
  My own text: plain mathematics: the best of those not yet chosen is the next in the order.
-/
import Derived.Test.YthmbfdjbjljaiaaGreatDoorSplitMath
namespace Go.Proofs.YthmbfdjbjljaiaaGreatDoor

/-- a goes ahead of b: the greater rest, of equal ones the first. -/
def ahd (r : Nat → Int) (a b : Nat) : Prop := r b < r a ∨ (r b = r a ∧ a < b)
/-- C is the order of the places below n. -/
structure Ordr (C : List Nat) (r : Nat → Int) (n : Nat) : Prop where
  len : C.length = n
  lt : ∀ c ∈ C, c < n
  all : ∀ j, j < n → j ∈ C
  sorted : C.Pairwise (ahd r)
theorem ahd_irrefl (r : Nat → Int) (a : Nat) : ¬ ahd r a a := by unfold ahd; omega
theorem Ordr.nodup {C : List Nat} {r : Nat → Int} {n : Nat} (h : Ordr C r n) : C.Nodup :=
  List.Pairwise.imp (R := ahd r) (S := fun a b => a ≠ b) (fun {a b} hab e => ahd_irrefl r a (by rw [← e] at hab; exact hab)) h.sorted
/-- What the search holds after i places: none yet, all were chosen; or the best of them. -/
def Best (r : Nat → Int) (D : List Nat) (i : Nat) (b : Int) : Prop :=
  (b = -1 ∧ ∀ j, j < i → j ∈ D) ∨ ∃ m : Nat, b = (m : Int) ∧ m < i ∧ m ∉ D ∧ ∀ j, j < i → j ∉ D → j = m ∨ ahd r m j
theorem Best.start (r : Nat → Int) (D : List Nat) : Best r D 0 (-1) := .inl ⟨rfl, fun j hj => by omega⟩
theorem Best.got {r : Nat → Int} {D : List Nat} {i : Nat} {b : Int} (h : Best r D i b) (hi : i ∈ D) : Best r D (i + 1) b := by
  rcases h with ⟨hb, h⟩ | ⟨m, hb, hm, hd, h⟩
  · exact .inl ⟨hb, fun j hj => by by_cases e : j = i; · rw [e]; exact hi
                                   · exact h j (by omega)⟩
  · exact .inr ⟨m, hb, by omega, hd, fun j hj hjd => by
      by_cases e : j = i
      · rw [e] at hjd; exact absurd hi hjd
      · exact h j (by omega) hjd⟩
theorem Best.first {r : Nat → Int} {D : List Nat} {i : Nat} (h : Best r D i (-1)) (hi : i ∉ D) : Best r D (i + 1) (i : Int) := by
  rcases h with ⟨_, h⟩ | ⟨m, hb, _⟩
  · exact .inr ⟨i, rfl, by omega, hi, fun j hj hjd => by
      by_cases e : j = i
      · exact .inl e
      · exact absurd (h j (by omega)) hjd⟩
  · omega
theorem Best.better {r : Nat → Int} {D : List Nat} {i m : Nat} (h : Best r D i (m : Int)) (hi : i ∉ D) (hr : r m < r i) : Best r D (i + 1) (i : Int) := by
  rcases h with ⟨hb, _⟩ | ⟨m', hb, hm, hd, h⟩
  · omega
  · obtain rfl : m = m' := by omega
    exact .inr ⟨i, rfl, by omega, hi, fun j hj hjd => by
      by_cases e : j = i
      · exact .inl e
      · right
        rcases h j (by omega) hjd with e2 | e2
        · subst e2; exact .inl hr
        · unfold ahd at *; omega⟩
theorem Best.same {r : Nat → Int} {D : List Nat} {i m : Nat} (h : Best r D i (m : Int)) (hr : ¬ r m < r i) : Best r D (i + 1) (m : Int) := by
  rcases h with ⟨hb, _⟩ | ⟨m', hb, hm, hd, h⟩
  · omega
  · obtain rfl : m = m' := by omega
    exact .inr ⟨m, rfl, by omega, hd, fun j hj hjd => by
      by_cases e : j = i
      · subst e; right; unfold ahd; omega
      · exact h j (by omega) hjd⟩
/-- At the end the best is the next in the order. -/
theorem Best.last {C : List Nat} {r : Nat → Int} {n k c : Nat} {b : Int} (hC : Ordr C r n) (hk : C[k]? = some c) (h : Best r (C.take k) n b) : b = (c : Int) := by
  have hkl : k < C.length := (List.getElem?_eq_some_iff.1 hk).1
  have hck : C[k] = c := (List.getElem?_eq_some_iff.1 hk).2
  have hcm : c ∈ C := List.mem_of_getElem? hk
  have hcd : c ∉ C.take k := by
    intro hm
    have h2 := hC.nodup.sublist (List.take_sublist (k + 1) C)
    rw [show C.take (k + 1) = C.take k ++ [c] by rw [List.take_add_one, hk]; rfl, List.nodup_append] at h2
    exact h2.2.2 c hm c (by simp) rfl
  rcases h with ⟨_, h⟩ | ⟨m, hb, hm, hd, h⟩
  · exact absurd (h c (hC.lt c hcm)) hcd
  · have hmC := hC.all m hm
    obtain ⟨j, hj, hjm⟩ := List.getElem_of_mem hmC
    have hkj : k ≤ j := by
      by_cases h3 : k ≤ j
      · exact h3
      · exfalso; apply hd; rw [← hjm]; exact List.mem_take_iff_getElem.2 ⟨j, by omega, rfl⟩
    rcases h c (hC.lt c hcm) hcd with e | e
    · rw [hb, e]
    · by_cases h4 : k = j
      · subst h4; rw [hb, ← hjm, hck]
      · have h5 := List.pairwise_iff_getElem.1 hC.sorted k j hkl hj (by omega)
        rw [hck, hjm] at h5
        unfold ahd at *; omega
end Go.Proofs.YthmbfdjbjljaiaaGreatDoor
