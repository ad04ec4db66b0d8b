/-
  My own text: dealing out, at every argument: both answers by one list.
-/
import Derived.Test.YthmbfdjbjljaiaaGreatDoorOrder
import Derived.Test.YthmbfdjbjljaiaaGreatDoorSplitBad
namespace Go.Proofs.YthmbfdjbjljaiaaGreatDoor
open Go.RowKit

/-- What dealing out answers. -/
def splitR (n : Int) (l : List Int) : List Int :=
  if 1 ≤ wE n l then [] else splitL n l.sum l ((ordN (fun j => n * l.getD j 0 % l.sum) l.length).take (leftN n l).toNat)
theorem splitR_bad {n : Int} {l : List Int} (h : 1 ≤ wE n l) : splitR n l = [] := by unfold splitR; rw [if_pos h]
theorem splitR_fit {n : Int} {l : List Int} (h : ¬ 1 ≤ wE n l) : splitR n l = splitL n l.sum l ((ordN (fun j => n * l.getD j 0 % l.sum) l.length).take (leftN n l).toNat) := by unfold splitR; rw [if_neg h]
theorem splitL_len (n S : Int) (l : List Int) (D : List Nat) : (splitL n S l D).length = l.length := by simp [splitL]
theorem splitR_len (n : Int) (l : List Int) : (splitR n l).length ≤ l.length := by
  unfold splitR; split
  · simp
  · rw [splitL_len]; exact Nat.le_refl _
theorem wE_lo (n : Int) (l : List Int) : 0 ≤ wE n l ∧ wE n l ≤ 24 := by
  unfold wE; split
  · omega
  · exact sumE_lo _
theorem wE_fit {n : Int} {l : List Int} (h : ¬ 1 ≤ wE n l) : 0 ≤ n ∧ areW l = true ∧ l.sum ≤ 9223372036854775807 ∧ wE n l = 0 := by
  have h0 := (wE_lo n l).1
  have hz : wE n l = 0 := by omega
  refine ⟨?_, ?_, ?_, hz⟩
  · apply Classical.byContradiction; intro hn
    have := (w_arg (n := n) (l := l) (Or.inl (by omega))).2
    omega
  · cases hw : areW l
    · have := (w_arg (n := n) (l := l) (Or.inr hw)).2
      omega
    · rfl
  · apply Classical.byContradiction; intro hs
    unfold wE at hz
    split at hz
    · omega
    · rw [(sum_over (by omega)).2] at hz; omega
/-- A list of its own, that has no spare room. -/
def Own (w : World) (B : Nat) (r : Value) (o : List Int) : Prop :=
  (r = .slice none 0 0 ∧ o = []) ∨ ∃ P, r = .slice (some ⟨P, 0, none⟩) o.length o.length ∧ B ≤ P ∧ w.rowIs P 2 o.length (fun j => .int .i64 (o.getD j 0))
theorem Own.ri {w : World} {B : Nat} {r : Value} {o : List Int} (h : Own w B r o) : RI w .i64 r o := by
  rcases h with ⟨rfl, rfl⟩ | ⟨P, rfl, hP, hr⟩
  · exact ⟨_, _, rfl, .inl rfl⟩
  · refine ⟨_, _, rfl, .inr ⟨P, 0, rfl, hr.lt, fun j x hx => ?_⟩⟩
    rw [Nat.zero_add, hr.cell (List.getElem?_eq_some_iff.1 hx).1, List.getD_eq_getElem?_getD, hx]; rfl
theorem Own.later {w w1 : World} {B B' : Nat} {r : Value} {o : List Int} (h : Own w B r o) (hb : Below B' w w1) (hB : w.heap.size ≤ B') : Own w1 B r o := by
  rcases h with h | ⟨P, rfl, hP, hr⟩
  · exact .inl h
  · exact .inr ⟨P, rfl, hP, hr.of_block (hb.block P (by have := hr.lt; omega))⟩
theorem Own.weak {w : World} {B B' : Nat} {r : Value} {o : List Int} (h : Own w B r o) (hB : B' ≤ B) : Own w B' r o := by
  rcases h with h | ⟨P, rfl, hP, hr⟩
  · exact .inl h
  · exact .inr ⟨P, rfl, by omega, hr⟩

theorem split_any (n : Int) (v : Value) (l : List Int) (w : World) (hv : RI w .i64 v l) (hl : l.length ≤ 17592186044416) (hb : ∀ x ∈ l, -9223372036854775808 ≤ x ∧ x ≤ 9223372036854775807) (n1 : n ≤ 9223372036854775807) :
    Calls Tryz.prog 19 #[.int .i64 n, v] w fun e w' => ∃ r, e = .returned (.tuple #[r, errV (wE n l)]) ∧ Own w' w.heap.size r (splitR n l) ∧ Below w.heap.size w w' := by
  by_cases hE : 1 ≤ wE n l
  · refine (split_bad n v l w hv hl hb hE).mono ?_
    rintro e w' ⟨rfl, rfl⟩
    exact ⟨_, rfl, .inl ⟨rfl, splitR_bad hE⟩, Below.refl _ _⟩
  · obtain ⟨n0, hW, hS, hz⟩ := wE_fit hE
    have hpos : 0 < l.length := by
      have h := (areW_pos hW).2
      cases l with
      | nil => simp at h
      | cons a t => simp
    have hO := ordr_ordN (fun j => n * l.getD j 0 % l.sum) l.length
    refine (split_fit n v l w _ hv hl hb n0 n1 hW hS hO.len hO.nodup hO.lt (orders_any _ l.length hpos hl)).mono ?_
    rintro e w' ⟨P, rfl, hP, hr, hB⟩
    have hlen : (splitR n l).length = l.length := by rw [splitR_fit hE, splitL_len]
    refine ⟨_, by rw [hz]; rfl, .inr ⟨P, by rw [hlen], hP, ?_⟩, hB⟩
    rw [hlen]
    refine hr.congr fun j hj => ?_
    rw [splitR_fit hE]
    unfold splitL
    rw [List.getD_eq_getElem?_getD, List.getElem?_map, List.getElem?_range hj]
    rfl

theorem refSplit_any (n : Int) (v : Value) (l : List Int) (w : World) (hv : RI w .i64 v l) (hl : l.length ≤ 17592186044416) (hb : ∀ x ∈ l, -9223372036854775808 ≤ x ∧ x ≤ 9223372036854775807) (n1 : n ≤ 9223372036854775807) :
    Calls Tryz.prog 43 #[.int .i64 n, v] w fun e w' => ∃ r, e = .returned (.tuple #[r, .int .i64 (wE n l)]) ∧ RI w' .i64 r (splitR n l) ∧ Below w.heap.size w w' := by
  by_cases hE : 1 ≤ wE n l
  · refine (refSplit_bad n v l w hv hl hb hE).mono ?_
    rintro e w' ⟨rfl, hB⟩
    exact ⟨_, rfl, by rw [splitR_bad hE]; exact ⟨_, _, rfl, .inl rfl⟩, hB⟩
  · obtain ⟨n0, hW, hS, hz⟩ := wE_fit hE
    refine (refSplit_fit n v l w _ hv hl hb n0 n1 hW hS (ordr_ordN _ _)).mono ?_
    rintro e w' ⟨r, rfl, hr, hB⟩
    exact ⟨r, by rw [hz], by rw [splitR_fit hE]; exact hr, hB⟩
end Go.Proofs.YthmbfdjbjljaiaaGreatDoor
