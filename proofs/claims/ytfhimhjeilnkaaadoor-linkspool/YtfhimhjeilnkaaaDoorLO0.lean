/-
  My own text: layer 23: the mathematics of orders: of what can stand next the most urgent; rows of it are beginnings of one another.
-/
import Derived.Test.YtfhimhjeilnkaaaDoorLS0
namespace Go.Proofs.YtfhimhjeilnkaaaDoor
open Go.RowKit

/-- No more unlike numbers below n than n. -/
theorem pigeon : ∀ (n : Nat) (L : List Nat), L.Nodup → (∀ x ∈ L, x < n) → L.length ≤ n
  | 0, L, _, h => by
    cases L with
    | nil => exact Nat.le_refl _
    | cons a t => exact absurd (h a (List.mem_cons_self ..)) (by omega)
  | n + 1, L, hd, h => by
    have h1 := pigeon n (L.filter fun x => decide (x ≠ n)) (hd.sublist List.filter_sublist) (fun x hx => by
      rw [List.mem_filter] at hx
      have := h x hx.1
      have h2 := hx.2
      simp at h2
      omega)
    have h2 : L.length ≤ (L.filter fun x => decide (x ≠ n)).length + 1 := by
      clear h h1
      induction L with
      | nil => simp
      | cons a t ih =>
        rw [List.nodup_cons] at hd
        rw [List.filter_cons]
        by_cases e : a = n
        · subst e
          have : t.filter (fun x => decide (x ≠ a)) = t := by
            rw [List.filter_eq_self]
            intro x hx
            simp
            intro q; subst q; exact hd.1 hx
          rw [if_neg (by simp), this]
          simp
        · rw [if_pos (by simp [e])]
          have := ih hd.2
          simp only [List.length_cons]
          omega
    omega
theorem nodup_of_inj {L : List Nat} (h : ∀ u v x y : Nat, u < v → L[u]? = some x → L[v]? = some y → x ≠ y) : L.Nodup := by
  unfold List.Nodup
  rw [List.pairwise_iff_getElem]
  intro i j hi hj hij e
  exact h i j _ _ hij (List.getElem?_eq_getElem hi) (List.getElem?_eq_getElem hj) e
theorem SI.nodup {pr : Nat → Int} {n : Nat} {L : List Nat} (h : SI pr n L) : L.Nodup :=
  nodup_of_inj fun u v x y huv hx hy e => by
    have := h.st u v x y huv hx hy (by rw [e])
    omega
theorem all_in {n : Nat} {L : List Nat} (hd : L.Nodup) (hl : L.length = n) (h : ∀ x ∈ L, x < n) {x : Nat} (hx : x < n) : x ∈ L := by
  apply Classical.byContradiction
  intro hn
  have := pigeon n (x :: L) (List.nodup_cons.2 ⟨hn, hd⟩) (fun y hy => by
    rcases List.mem_cons.1 hy with rfl | hy
    · exact hx
    · exact h y hy)
  rw [List.length_cons, hl] at this
  omega
theorem SI.all {pr : Nat → Int} {n : Nat} {L : List Nat} (h : SI pr n L) {x : Nat} (hx : x < n) : ∃ j, j < n ∧ L[j]? = some x := by
  have := all_in h.nodup h.len (fun y hy => by obtain ⟨j, hj⟩ := List.getElem?_of_mem hy; exact h.lt j y hj) hx
  obtain ⟨j, hj⟩ := List.getElem?_of_mem this
  exact ⟨j, by have := (List.getElem?_eq_some_iff.1 hj).1; rw [h.len] at this; exact this, hj⟩
theorem SI.inj {pr : Nat → Int} {n : Nat} {L : List Nat} (h : SI pr n L) {i j x : Nat} (hi : L[i]? = some x) (hj : L[j]? = some x) : i = j := by
  rcases Nat.lt_trichotomy i j with q | q | q
  · have := h.st i j x x q hi hj rfl; omega
  · exact q
  · have := h.st j i x x q hj hi rfl; omega
/-- x stands ahead of y. -/
def bf (pr : Nat → Int) (x y : Nat) : Prop := pr y < pr x ∨ (pr x = pr y ∧ x < y)
theorem bf_of {pr : Nat → Int} {n : Nat} {L : List Nat} (h : SI pr n L) (hs : Srt pr L 0 n) {i j x y : Nat} (hij : i < j) (hx : L[i]? = some x) (hy : L[j]? = some y) : bf pr x y := by
  have h1 := hs i j x y (Nat.zero_le _) hij (by have := (List.getElem?_eq_some_iff.1 hy).1; rw [h.len] at this; exact this) hx hy
  by_cases e : pr x = pr y
  · exact .inr ⟨e, h.st i j x y hij hx hy e⟩
  · exact .inl (by omega)
theorem bf_asym {pr : Nat → Int} {x y : Nat} (h : bf pr x y) (k : bf pr y x) : False := by
  unfold bf at h k; omega
theorem SI.start (pr : Nat → Int) (n : Nat) : SI pr n (List.range n) := by
  have hr : ∀ j x : Nat, (List.range n)[j]? = some x → x = j ∧ j < n := fun j x h => by
    have hj : j < n := by have := (List.getElem?_eq_some_iff.1 h).1; rwa [List.length_range] at this
    rw [List.getElem?_range hj] at h
    cases h; exact ⟨rfl, hj⟩
  exact ⟨List.length_range, fun j x h => by have := hr j x h; omega, fun u v x y huv hu hv _ => by have := hr u x hu; have := hr v y hv; omega⟩

/-! the order -/
/-- From how many edges x waits. -/
def awt (E : List (Nat × Nat)) (row : List Nat) (x : Nat) : Nat := E.countP fun p => p.2 == x && !(row.contains p.1)
/-- x can stand next. -/
def Av (n : Nat) (E : List (Nat × Nat)) (row : List Nat) (x : Nat) : Prop := x < n ∧ x ∉ row ∧ awt E row x = 0
/-- .. and does. -/
def Nxt (n : Nat) (E : List (Nat × Nat)) (pr : Nat → Int) (row : List Nat) (x : Nat) : Prop := Av n E row x ∧ ∀ y, Av n E row y → y ≠ x → bf pr x y
/-- Rows that come one behind the other. -/
inductive Gr' (n : Nat) (E : List (Nat × Nat)) (pr : Nat → Int) : List Nat → Prop
  | nil : Gr' n E pr []
  | step {row x} : Gr' n E pr row → Nxt n E pr row x → Gr' n E pr (row ++ [x])
theorem Nxt.uniq {n : Nat} {E : List (Nat × Nat)} {pr : Nat → Int} {row : List Nat} {x y : Nat} (h : Nxt n E pr row x) (k : Nxt n E pr row y) : x = y := by
  apply Classical.byContradiction
  intro e
  exact bf_asym (h.2 y k.1 (fun q => e q.symm)) (k.2 x h.1 e)
/-- .. are beginnings of one another. -/
theorem Gr'.pre {n : Nat} {E : List (Nat × Nat)} {pr : Nat → Int} {A : List Nat} (h : Gr' n E pr A) : ∀ {B : List Nat}, Gr' n E pr B → A.length ≤ B.length → A = B.take A.length := by
  induction h with
  | nil => intro B _ _; simp
  | @step row x hr hx ih =>
    intro B hB hl
    rw [List.length_append, List.length_singleton] at hl ⊢
    clear hr
    induction hB with
    | nil => simp at hl
    | @step r2 y hr2 hy ih2 =>
      rw [List.length_append, List.length_singleton] at hl
      by_cases e : row.length = r2.length
      · have h1 := ih hr2 (by omega)
        rw [e, List.take_length] at h1
        subst h1
        rw [hx.uniq hy, List.take_of_length_le (by simp)]
      · have h1 := ih2 (by omega)
        rw [List.take_append_of_le_length (by omega)]
        exact h1
theorem Gr'.uniq {n : Nat} {E : List (Nat × Nat)} {pr : Nat → Int} {A B : List Nat} (h : Gr' n E pr A) (k : Gr' n E pr B) (hA : ∀ y, ¬ Av n E A y) (hB : ∀ y, ¬ Av n E B y) : A = B := by
  have key : ∀ {A B : List Nat}, Gr' n E pr A → Gr' n E pr B → (∀ y, ¬ Av n E A y) → A.length ≤ B.length → A = B := by
    intro A B h k hA hl
    by_cases e : A.length = B.length
    · have := h.pre k hl
      rw [e, List.take_length] at this
      exact this
    · exfalso
      have hlt : A.length < B.length := by omega
      clear hl
      induction k with
      | nil => simp at hlt
      | @step r2 y hr2 hy ih2 =>
        rw [List.length_append, List.length_singleton] at hlt e
        by_cases e2 : A.length = r2.length
        · have := h.pre hr2 (by omega)
          rw [e2, List.take_length] at this
          subst this
          exact hA y hy.1
        · exact ih2 e2 (by omega)
  rcases Nat.le_total A.length B.length with q | q
  · exact key h k hA q
  · exact (key k h hB q).symm
theorem Gr'.low {n : Nat} {E : List (Nat × Nat)} {pr : Nat → Int} {A : List Nat} (h : Gr' n E pr A) : A.Nodup ∧ ∀ x ∈ A, x < n := by
  induction h with
  | nil => exact ⟨List.nodup_nil, fun x hx => by cases hx⟩
  | @step row x hr hx ih =>
    refine ⟨?_, fun y hy => ?_⟩
    · rw [List.nodup_append]
      refine ⟨ih.1, by simp, fun a ha b hb e => ?_⟩
      simp at hb
      subst hb; subst e
      exact hx.1.2.1 ha
    · rw [List.mem_append] at hy
      rcases hy with hy | hy
      · exact ih.2 y hy
      · simp at hy; subst hy; exact hx.1.1
/-- What waits behind an edge of one that stands. -/
theorem awt_snoc (E : List (Nat × Nat)) (row : List Nat) (x y : Nat) (hx : x ∉ row) : awt E row y = awt E (row ++ [x]) y + (E.countP fun p => p.1 == x && p.2 == y) := by
  unfold awt
  induction E with
  | nil => rfl
  | cons p t ih =>
    rw [List.countP_cons, List.countP_cons, List.countP_cons, ih]
    have hc : (row ++ [x]).contains p.1 = (row.contains p.1 || (p.1 == x)) := by
      rw [List.contains_eq_any_beq, List.contains_eq_any_beq, List.any_append]; simp
    rw [hc]
    by_cases e : p.1 = x
    · have h1 : row.contains p.1 = false := by rw [e]; simpa using hx
      have h2 : (p.1 == x) = true := by simpa using e
      rw [h1, h2]
      cases (p.2 == y) <;> simp <;> omega
    · have h2 : (p.1 == x) = false := by simpa using e
      rw [h2]
      cases (p.2 == y) <;> cases (row.contains p.1) <;> simp <;> omega
theorem awt_nil (E : List (Nat × Nat)) (x : Nat) : awt E [] x = (E.filter fun p => p.2 == x).length := by
  unfold awt
  rw [List.countP_eq_length_filter]
  simp
theorem nx_count (E : List (Nat × Nat)) (x y : Nat) : ((E.filter fun p => p.1 == x).map (·.2)).count y = E.countP fun p => p.1 == x && p.2 == y := by
  induction E with
  | nil => rfl
  | cons p t ih =>
    rw [List.filter_cons, List.countP_cons, ← ih]
    cases h : (p.1 == x)
    · simp
    · simp [List.count_cons]
end Go.Proofs.YtfhimhjeilnkaaaDoor
