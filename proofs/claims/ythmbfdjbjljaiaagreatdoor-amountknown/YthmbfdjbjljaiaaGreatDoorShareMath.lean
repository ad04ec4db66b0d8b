/-
  My own text: the largest remainder deals out the whole.
-/
import Derived.Test.YthmbfdjbjljaiaaGreatDoorSplitAny
namespace Go.Proofs.YthmbfdjbjljaiaaGreatDoor
open Go.RowKit Go.Sort Go.Lib Go.Shelf

theorem sum_add {α : Type} (f g : α → Int) : ∀ L : List α, (L.map fun j => f j + g j).sum = (L.map f).sum + (L.map g).sum
  | [] => by simp
  | x :: L => by have ih := sum_add f g L; simp only [List.map_cons, List.sum_cons]; omega
theorem sum_one (m c : Nat) : ((List.range m).map fun j => if j = c then (1 : Int) else 0).sum = if c < m then 1 else 0 := by
  induction m with
  | zero => simp
  | succ m ih =>
    rw [List.range_succ, List.map_append, List.sum_append, ih]
    simp only [List.map_cons, List.map_nil, List.sum_cons, List.sum_nil]
    by_cases h : m = c
    · subst h; simp
    · rw [if_neg h]
      by_cases h2 : c < m
      · rw [if_pos h2, if_pos (by omega)]; rfl
      · rw [if_neg h2, if_neg (by omega)]; rfl
theorem ind_sum (m : Nat) : ∀ C : List Nat, C.Nodup → (∀ c ∈ C, c < m) → ((List.range m).map fun j => if j ∈ C then (1 : Int) else 0).sum = C.length
  | [], _, _ => by
    have : ∀ L : List Nat, (L.map fun j => if j ∈ ([] : List Nat) then (1 : Int) else 0).sum = 0 := by
      intro L; induction L with
      | nil => rfl
      | cons x L ih => simp at ih ⊢; exact ih
    simpa using this (List.range m)
  | c :: C, hd, hm => by
    have hd' := List.nodup_cons.1 hd
    have ih := ind_sum m C hd'.2 (fun x hx => hm x (List.mem_cons_of_mem _ hx))
    have e : (fun j => if j ∈ c :: C then (1 : Int) else 0) = fun j => (if j = c then (1 : Int) else 0) + if j ∈ C then (1 : Int) else 0 := by
      funext j
      by_cases h : j = c
      · subst h; simp [hd'.1]
      · simp [h]
    rw [e, sum_add, ih, sum_one, if_pos (hm c (by simp)), List.length_cons]
    omega
theorem qs_range (n S : Int) (l : List Int) : ((List.range l.length).map fun j => n * l.getD j 0 / S) = qs n S l := by
  apply List.ext_getElem
  · simp [qs]
  · intro i h1 h2
    have hi : i < l.length := by simpa using h1
    simp [qs, List.getD_eq_getElem?_getD, hi]
/-- The parts are the whole together. -/
theorem splitR_sum {n : Int} {l : List Int} (h : ¬ 1 ≤ wE n l) : (splitR n l).sum = n := by
  obtain ⟨n0, hW, hS, hz⟩ := wE_fit h
  have hpos := (areW_pos hW).2
  have hO := ordr_ordN (fun j => n * l.getD j 0 % l.sum) l.length
  have hb := left_bounds (n := n) hpos
  rw [splitR_fit h]
  unfold splitL dealt
  rw [sum_add, qs_range, ind_sum]
  · rw [List.length_take, hO.len]
    unfold leftN at hb ⊢
    omega
  · exact hO.nodup.sublist (List.take_sublist _ _)
  · exact fun c hc => hO.lt c (List.mem_of_mem_take hc)
theorem ahd_asymm {r : Nat → Int} {a b : Nat} (h : ahd r a b) : ¬ ahd r b a := by unfold ahd at *; omega
/-- Who is ahead of one that is chosen is chosen. -/
theorem chosen_ahead {C : List Nat} {r : Nat → Int} {n L k i : Nat} (hO : Ordr C r n) (hi : i ∈ C.take L) (hk : k < n) (ha : ahd r k i) : k ∈ C.take L := by
  have h := hO.all k hk
  rw [← List.take_append_drop L C, List.mem_append] at h
  rcases h with h | h
  · exact h
  · have hs := hO.sorted
    rw [← List.take_append_drop L C, List.pairwise_append] at hs
    exact absurd (hs.2.2 i hi k h) (ahd_asymm ha)
/-- Rests that are multiplied by one number have the same order. -/
theorem ordN_by (r : Nat → Int) (n : Nat) (b : Int) (hb : 0 < b) : ordN (fun j => b * r j) n = ordN r n := by
  unfold ordN ordF
  have e : (fun x y : Fin n => !ltOf (cfR (fun i : Fin n => b * r i.val)) y x) = fun x y : Fin n => !ltOf (cfR (fun i : Fin n => r i.val)) y x := by
    funext x y
    rw [ltR, ltR]
    have h1 : b * r x.val < b * r y.val ↔ r x.val < r y.val := ⟨fun h => Int.lt_of_mul_lt_mul_left h (by omega), fun h => Int.mul_lt_mul_of_pos_left h hb⟩
    have h2 : b * r x.val = b * r y.val ↔ r x.val = r y.val := ⟨fun h => Int.eq_of_mul_eq_mul_left (by omega) h, fun h => by rw [h]⟩
    simp only [h1, h2]
  rw [e]
/-- Those that are chosen. -/
def chs (n : Int) (l : List Int) : List Nat := (ordN (fun j => n * l.getD j 0 % l.sum) l.length).take (leftN n l).toNat
theorem part_at {n : Int} {l : List Int} (h : ¬ 1 ≤ wE n l) {j : Nat} (hj : j < l.length) : (splitR n l)[j]? = some (n * l.getD j 0 / l.sum + if j ∈ chs n l then 1 else 0) := by
  rw [splitR_fit h]; unfold splitL; rw [List.getElem?_map, List.getElem?_range hj]; rfl
theorem perm_sum (f : Nat → Int) {A B : List Nat} (h : A.Perm B) : (A.map f).sum = (B.map f).sum := by
  induction h with
  | nil => rfl
  | cons x _ ih => simp only [List.map_cons, List.sum_cons, ih]
  | swap x y l => simp only [List.map_cons, List.sum_cons]; omega
  | trans _ _ h1 h2 => exact h1.trans h2
theorem ordN_perm (r : Nat → Int) (n : Nat) : (ordN r n).Perm (List.range n) := by
  have h := (ordF_perm (fun i : Fin n => r i.val)).map Fin.val
  have e : (List.ofFn fun i : Fin n => i).map Fin.val = List.range n := by
    apply List.ext_getElem
    · simp
    · intro i h1 h2; simp
  rw [e] at h; exact h
theorem sum_le (f : Nat → Int) (S : Int) : ∀ L : List Nat, (∀ x ∈ L, f x ≤ S) → (L.map f).sum ≤ S * L.length
  | [], _ => by simp
  | x :: L, h => by
    have ih := sum_le f S L (fun y hy => h y (List.mem_cons_of_mem _ hy))
    have h1 := h x (by simp)
    simp only [List.map_cons, List.sum_cons, List.length_cons, Int.natCast_add, Int.mul_add]
    omega
theorem sum_le0 (f : Nat → Int) (S : Int) (c : Nat) (hc : f c ≤ 0) : ∀ L : List Nat, (∀ x ∈ L, f x ≤ S) → c ∈ L → (L.map f).sum ≤ S * L.length - S
  | [], _, hm => by cases hm
  | x :: L, h, hm => by
    have h1 := h x (by simp)
    have h2 := sum_le f S L (fun y hy => h y (List.mem_cons_of_mem _ hy))
    simp only [List.map_cons, List.sum_cons, List.length_cons, Int.natCast_add, Int.mul_add]
    rcases List.mem_cons.1 hm with e | hm
    · subst e; omega
    · have ih := sum_le0 f S c hc L (fun y hy => h y (List.mem_cons_of_mem _ hy)) hm
      omega
theorem rs_range (n S : Int) (l : List Int) : ((List.range l.length).map fun j => n * l.getD j 0 % S) = rs n S l := by
  apply List.ext_getElem
  · simp [rs]
  · intro i h1 h2
    have hi : i < l.length := by simpa using h1
    simp [rs, List.getD_eq_getElem?_getD, hi]
/-- Who is chosen has a rest. -/
theorem chosen_pos {n : Int} {l : List Int} {c : Nat} (hS : 0 < l.sum) (hc : c ∈ chs n l) : 0 < n * l.getD c 0 % l.sum := by
  apply Classical.byContradiction
  intro hn
  have hO := ordr_ordN (fun j => n * l.getD j 0 % l.sum) l.length
  have hb := left_bounds (n := n) hS
  have h1 := qr_sum n l.sum l
  have h2 := perm_sum (fun j => n * l.getD j 0 % l.sum) (ordN_perm (fun j => n * l.getD j 0 % l.sum) l.length)
  rw [rs_range] at h2
  have h3 : l.sum * leftN n l = (rs n l.sum l).sum := by unfold leftN; rw [Int.mul_sub, Int.mul_comm l.sum n]; omega
  unfold chs at hc
  have hlen := hO.len
  have hs := hO.sorted
  generalize hC : ordN (fun j => n * l.getD j 0 % l.sum) l.length = C at *
  rw [← List.take_append_drop (leftN n l).toNat C, List.map_append, List.sum_append] at h2
  have h4 := sum_le0 (fun j => n * l.getD j 0 % l.sum) l.sum c (by simpa using hn) (C.take (leftN n l).toNat) (fun x _ => Int.le_of_lt (Int.emod_lt_of_pos _ hS)) hc
  have h5 := sum_le (fun j => n * l.getD j 0 % l.sum) 0 (C.drop (leftN n l).toNat) (fun x hx => by
    rw [← List.take_append_drop (leftN n l).toNat C, List.pairwise_append] at hs
    have h := hs.2.2 c hc x hx
    unfold ahd at h
    simp only at h ⊢
    omega)
  have h6 : ((C.take (leftN n l).toNat).length : Int) = leftN n l := by rw [List.length_take]; omega
  rw [h6] at h4
  omega
theorem chosen_none {n : Int} {l : List Int} {c : Nat} (h : l.getD c 0 = 0) (hS : 0 < l.sum) : c ∉ chs n l := by
  intro hc
  have := chosen_pos hS hc
  rw [h] at this; simp at this
/-- Who weighs no less and stands ahead gets no less. -/
theorem part_ge {n : Int} {l : List Int} {k i : Nat} (n0 : 0 ≤ n) (hS : 0 < l.sum) (hk : k < l.length) (hki : k < i) (hw : l.getD i 0 ≤ l.getD k 0) :
    n * l.getD i 0 / l.sum + (if i ∈ chs n l then (1 : Int) else 0) ≤ n * l.getD k 0 / l.sum + if k ∈ chs n l then 1 else 0 := by
  have hm : n * l.getD i 0 ≤ n * l.getD k 0 := Int.mul_le_mul_of_nonneg_left hw n0
  have hq : n * l.getD i 0 / l.sum ≤ n * l.getD k 0 / l.sum := Int.ediv_le_ediv hS hm
  by_cases hc : i ∈ chs n l
  · rw [if_pos hc]
    by_cases e : n * l.getD i 0 / l.sum = n * l.getD k 0 / l.sum
    · have h1 := Int.mul_ediv_add_emod (n * l.getD i 0) l.sum
      have h2 := Int.mul_ediv_add_emod (n * l.getD k 0) l.sum
      rw [e] at h1
      have ha : ahd (fun j => n * l.getD j 0 % l.sum) k i := by
        unfold ahd; simp only; omega
      rw [if_pos (show k ∈ chs n l from chosen_ahead (ordr_ordN _ _) hc hk ha)]
      omega
    · split <;> omega
  · rw [if_neg hc]; split <;> omega
theorem left_zero {l : List Int} (hn : ∀ x ∈ l, 0 ≤ x) (hS : 0 < l.sum) : leftN 0 l = 0 := by
  have hb := left_bounds (n := 0) hS
  have hq := q_left (n := 0) (by omega) hn hS
  match l, hS with
  | [], hS => simp at hS
  | x :: t, hS =>
    have := hq (0 * x / (x :: t).sum) (by simp [qs])
    omega
/-- Who weighs less gets no more. -/
theorem part_le {n : Int} {l : List Int} {k i : Nat} (n0 : 0 ≤ n) (hn : ∀ x ∈ l, 0 ≤ x) (hS : 0 < l.sum) (hi : i < l.length) (hw : l.getD k 0 < l.getD i 0) :
    n * l.getD k 0 / l.sum + (if k ∈ chs n l then (1 : Int) else 0) ≤ n * l.getD i 0 / l.sum + if i ∈ chs n l then 1 else 0 := by
  have hm : n * l.getD k 0 ≤ n * l.getD i 0 := Int.mul_le_mul_of_nonneg_left (by omega) n0
  have hq : n * l.getD k 0 / l.sum ≤ n * l.getD i 0 / l.sum := Int.ediv_le_ediv hS hm
  by_cases hc : k ∈ chs n l
  · rw [if_pos hc]
    by_cases e : n * l.getD k 0 / l.sum = n * l.getD i 0 / l.sum
    · have hnp : 0 < n := by
        apply Classical.byContradiction
        intro hz
        have hz' : n = 0 := by omega
        subst hz'
        unfold chs at hc
        rw [left_zero hn hS] at hc
        simp at hc
      have hm' : n * l.getD k 0 < n * l.getD i 0 := Int.mul_lt_mul_of_pos_left hw hnp
      have h1 := Int.mul_ediv_add_emod (n * l.getD k 0) l.sum
      have h2 := Int.mul_ediv_add_emod (n * l.getD i 0) l.sum
      rw [e] at h1
      have ha : ahd (fun j => n * l.getD j 0 % l.sum) i k := by
        unfold ahd; simp only; omega
      rw [if_pos (show i ∈ chs n l from chosen_ahead (ordr_ordN _ _) hc hi ha)]
      omega
    · split <;> omega
  · rw [if_neg hc]; split <;> omega
theorem sum_by (b : Int) : ∀ l : List Int, (l.map (· * b)).sum = l.sum * b
  | [] => by simp
  | x :: l => by have ih := sum_by b l; simp only [List.map_cons, List.sum_cons, ih, Int.add_mul]
theorem getD_by (b : Int) (l : List Int) (j : Nat) : (l.map (· * b)).getD j 0 = l.getD j 0 * b := by
  rw [List.getD_eq_getElem?_getD, List.getD_eq_getElem?_getD, List.getElem?_map]
  cases l[j]? <;> simp
/-- Weights that are multiplied by one number give the same parts. -/
theorem splitR_by {n : Int} {l : List Int} {b : Int} (hb : 0 < b) (h : ¬ 1 ≤ wE n l) (h' : ¬ 1 ≤ wE n (l.map (· * b))) : splitR n (l.map (· * b)) = splitR n l := by
  have hq : ∀ x : Int, n * (x * b) / (l.sum * b) = n * x / l.sum := fun x => by rw [← Int.mul_assoc, Int.mul_ediv_mul_of_pos_left _ _ hb]
  have hr : ∀ x : Int, n * (x * b) % (l.sum * b) = b * (n * x % l.sum) := fun x => by
    rw [← Int.mul_assoc, Int.mul_comm (n * x) b, Int.mul_comm l.sum b, Int.mul_emod_mul_of_pos _ _ hb]
  have hL : leftN n (l.map (· * b)) = leftN n l := by
    unfold leftN qs
    rw [sum_by, List.map_map]
    congr 2
    apply List.map_congr_left
    intro x _
    exact hq x
  rw [splitR_fit h, splitR_fit h', hL, List.length_map, sum_by]
  have e1 : (fun j => n * (l.map (· * b)).getD j 0 % (l.sum * b)) = fun j => b * (n * l.getD j 0 % l.sum) := by
    funext j; rw [getD_by, hr]
  rw [e1, ordN_by _ _ _ hb]
  unfold splitL dealt
  rw [List.length_map]
  apply List.map_congr_left
  intro j _
  simp only [getD_by, hq]
end Go.Proofs.YthmbfdjbjljaiaaGreatDoor
