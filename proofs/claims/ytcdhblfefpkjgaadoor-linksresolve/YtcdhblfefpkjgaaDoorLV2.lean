/-
  My own text: LO0, LV1, LV2 in one.
-/
import Derived.Test.YtcdhblfefpkjgaaDoorLS0
namespace Go.Proofs.YtcdhblfefpkjgaaDoor
open Go.RowKit

/-- No more unlike numbers below n than n. -/
theorem pigeon : ∀ (n : Nat) (L : List Nat), L.Nodup → (∀ x ∈ L, x < n) → L.length ≤ n
  | 0, L, _, h => by
    cases L with
    | nil => exact Nat.le_refl _
    | cons a t => exact absurd (h a (List.mem_cons_self ..)) (by omega)
  | n + 1, L, hd, h => by
    have h1 := pigeon n (L.filter fun x => decide (x ≠ n)) (hd.sublist List.filter_sublist) (fun x hx => by
      rw [List.mem_filter] at hx
      have := h x hx.1
      have h2 := hx.2
      simp at h2
      omega)
    have h2 : L.length ≤ (L.filter fun x => decide (x ≠ n)).length + 1 := by
      clear h h1
      induction L with
      | nil => simp
      | cons a t ih =>
        rw [List.nodup_cons] at hd
        rw [List.filter_cons]
        by_cases e : a = n
        · subst e
          have : t.filter (fun x => decide (x ≠ a)) = t := by
            rw [List.filter_eq_self]
            intro x hx
            simp
            intro q; subst q; exact hd.1 hx
          rw [if_neg (by simp), this]
          simp
        · rw [if_pos (by simp [e])]
          have := ih hd.2
          simp only [List.length_cons]
          omega
    omega
theorem nodup_of_inj {L : List Nat} (h : ∀ u v x y : Nat, u < v → L[u]? = some x → L[v]? = some y → x ≠ y) : L.Nodup := by
  unfold List.Nodup
  rw [List.pairwise_iff_getElem]
  intro i j hi hj hij e
  exact h i j _ _ hij (List.getElem?_eq_getElem hi) (List.getElem?_eq_getElem hj) e
theorem SI.nodup {pr : Nat → Int} {n : Nat} {L : List Nat} (h : SI pr n L) : L.Nodup :=
  nodup_of_inj fun u v x y huv hx hy e => by
    have := h.st u v x y huv hx hy (by rw [e])
    omega
theorem all_in {n : Nat} {L : List Nat} (hd : L.Nodup) (hl : L.length = n) (h : ∀ x ∈ L, x < n) {x : Nat} (hx : x < n) : x ∈ L := by
  apply Classical.byContradiction
  intro hn
  have := pigeon n (x :: L) (List.nodup_cons.2 ⟨hn, hd⟩) (fun y hy => by
    rcases List.mem_cons.1 hy with rfl | hy
    · exact hx
    · exact h y hy)
  rw [List.length_cons, hl] at this
  omega
theorem SI.all {pr : Nat → Int} {n : Nat} {L : List Nat} (h : SI pr n L) {x : Nat} (hx : x < n) : ∃ j, j < n ∧ L[j]? = some x := by
  have := all_in h.nodup h.len (fun y hy => by obtain ⟨j, hj⟩ := List.getElem?_of_mem hy; exact h.lt j y hj) hx
  obtain ⟨j, hj⟩ := List.getElem?_of_mem this
  exact ⟨j, by have := (List.getElem?_eq_some_iff.1 hj).1; rw [h.len] at this; exact this, hj⟩
theorem SI.inj {pr : Nat → Int} {n : Nat} {L : List Nat} (h : SI pr n L) {i j x : Nat} (hi : L[i]? = some x) (hj : L[j]? = some x) : i = j := by
  rcases Nat.lt_trichotomy i j with q | q | q
  · have := h.st i j x x q hi hj rfl; omega
  · exact q
  · have := h.st j i x x q hj hi rfl; omega
/-- x stands ahead of y. -/
def bf (pr : Nat → Int) (x y : Nat) : Prop := pr y < pr x ∨ (pr x = pr y ∧ x < y)
theorem bf_of {pr : Nat → Int} {n : Nat} {L : List Nat} (h : SI pr n L) (hs : Srt pr L 0 n) {i j x y : Nat} (hij : i < j) (hx : L[i]? = some x) (hy : L[j]? = some y) : bf pr x y := by
  have h1 := hs i j x y (Nat.zero_le _) hij (by have := (List.getElem?_eq_some_iff.1 hy).1; rw [h.len] at this; exact this) hx hy
  by_cases e : pr x = pr y
  · exact .inr ⟨e, h.st i j x y hij hx hy e⟩
  · exact .inl (by omega)
theorem bf_asym {pr : Nat → Int} {x y : Nat} (h : bf pr x y) (k : bf pr y x) : False := by
  unfold bf at h k; omega
theorem SI.start (pr : Nat → Int) (n : Nat) : SI pr n (List.range n) := by
  have hr : ∀ j x : Nat, (List.range n)[j]? = some x → x = j ∧ j < n := fun j x h => by
    have hj : j < n := by have := (List.getElem?_eq_some_iff.1 h).1; rwa [List.length_range] at this
    rw [List.getElem?_range hj] at h
    cases h; exact ⟨rfl, hj⟩
  exact ⟨List.length_range, fun j x h => by have := hr j x h; omega, fun u v x y huv hu hv _ => by have := hr u x hu; have := hr v y hv; omega⟩

/-! the order -/
/-- From how many edges x waits. -/
def awt (E : List (Nat × Nat)) (row : List Nat) (x : Nat) : Nat := E.countP fun p => p.2 == x && !(row.contains p.1)
/-- x can stand next. -/
def Av (n : Nat) (E : List (Nat × Nat)) (row : List Nat) (x : Nat) : Prop := x < n ∧ x ∉ row ∧ awt E row x = 0
/-- .. and does. -/
def Nxt (n : Nat) (E : List (Nat × Nat)) (pr : Nat → Int) (row : List Nat) (x : Nat) : Prop := Av n E row x ∧ ∀ y, Av n E row y → y ≠ x → bf pr x y
/-- Rows that come one behind the other. -/
inductive Gr' (n : Nat) (E : List (Nat × Nat)) (pr : Nat → Int) : List Nat → Prop
  | nil : Gr' n E pr []
  | step {row x} : Gr' n E pr row → Nxt n E pr row x → Gr' n E pr (row ++ [x])
theorem Nxt.uniq {n : Nat} {E : List (Nat × Nat)} {pr : Nat → Int} {row : List Nat} {x y : Nat} (h : Nxt n E pr row x) (k : Nxt n E pr row y) : x = y := by
  apply Classical.byContradiction
  intro e
  exact bf_asym (h.2 y k.1 (fun q => e q.symm)) (k.2 x h.1 e)
/-- .. are beginnings of one another. -/
theorem Gr'.pre {n : Nat} {E : List (Nat × Nat)} {pr : Nat → Int} {A : List Nat} (h : Gr' n E pr A) : ∀ {B : List Nat}, Gr' n E pr B → A.length ≤ B.length → A = B.take A.length := by
  induction h with
  | nil => intro B _ _; simp
  | @step row x hr hx ih =>
    intro B hB hl
    rw [List.length_append, List.length_singleton] at hl ⊢
    clear hr
    induction hB with
    | nil => simp at hl
    | @step r2 y hr2 hy ih2 =>
      rw [List.length_append, List.length_singleton] at hl
      by_cases e : row.length = r2.length
      · have h1 := ih hr2 (by omega)
        rw [e, List.take_length] at h1
        subst h1
        rw [hx.uniq hy, List.take_of_length_le (by simp)]
      · have h1 := ih2 (by omega)
        rw [List.take_append_of_le_length (by omega)]
        exact h1
theorem Gr'.uniq {n : Nat} {E : List (Nat × Nat)} {pr : Nat → Int} {A B : List Nat} (h : Gr' n E pr A) (k : Gr' n E pr B) (hA : ∀ y, ¬ Av n E A y) (hB : ∀ y, ¬ Av n E B y) : A = B := by
  have key : ∀ {A B : List Nat}, Gr' n E pr A → Gr' n E pr B → (∀ y, ¬ Av n E A y) → A.length ≤ B.length → A = B := by
    intro A B h k hA hl
    by_cases e : A.length = B.length
    · have := h.pre k hl
      rw [e, List.take_length] at this
      exact this
    · exfalso
      have hlt : A.length < B.length := by omega
      clear hl
      induction k with
      | nil => simp at hlt
      | @step r2 y hr2 hy ih2 =>
        rw [List.length_append, List.length_singleton] at hlt e
        by_cases e2 : A.length = r2.length
        · have := h.pre hr2 (by omega)
          rw [e2, List.take_length] at this
          subst this
          exact hA y hy.1
        · exact ih2 e2 (by omega)
  rcases Nat.le_total A.length B.length with q | q
  · exact key h k hA q
  · exact (key k h hB q).symm
theorem Gr'.low {n : Nat} {E : List (Nat × Nat)} {pr : Nat → Int} {A : List Nat} (h : Gr' n E pr A) : A.Nodup ∧ ∀ x ∈ A, x < n := by
  induction h with
  | nil => exact ⟨List.nodup_nil, fun x hx => by cases hx⟩
  | @step row x hr hx ih =>
    refine ⟨?_, fun y hy => ?_⟩
    · rw [List.nodup_append]
      refine ⟨ih.1, by simp, fun a ha b hb e => ?_⟩
      simp at hb
      subst hb; subst e
      exact hx.1.2.1 ha
    · rw [List.mem_append] at hy
      rcases hy with hy | hy
      · exact ih.2 y hy
      · simp at hy; subst hy; exact hx.1.1
/-- What waits behind an edge of one that stands. -/
theorem awt_snoc (E : List (Nat × Nat)) (row : List Nat) (x y : Nat) (hx : x ∉ row) : awt E row y = awt E (row ++ [x]) y + (E.countP fun p => p.1 == x && p.2 == y) := by
  unfold awt
  induction E with
  | nil => rfl
  | cons p t ih =>
    rw [List.countP_cons, List.countP_cons, List.countP_cons, ih]
    have hc : (row ++ [x]).contains p.1 = (row.contains p.1 || (p.1 == x)) := by
      rw [List.contains_eq_any_beq, List.contains_eq_any_beq, List.any_append]; simp
    rw [hc]
    by_cases e : p.1 = x
    · have h1 : row.contains p.1 = false := by rw [e]; simpa using hx
      have h2 : (p.1 == x) = true := by simpa using e
      rw [h1, h2]
      cases (p.2 == y) <;> simp <;> omega
    · have h2 : (p.1 == x) = false := by simpa using e
      rw [h2]
      cases (p.2 == y) <;> cases (row.contains p.1) <;> simp <;> omega
theorem awt_nil (E : List (Nat × Nat)) (x : Nat) : awt E [] x = (E.filter fun p => p.2 == x).length := by
  unfold awt
  rw [List.countP_eq_length_filter]
  simp
theorem nx_count (E : List (Nat × Nat)) (x y : Nat) : ((E.filter fun p => p.1 == x).map (·.2)).count y = E.countP fun p => p.1 == x && p.2 == y := by
  induction E with
  | nil => rfl
  | cons p t ih =>
    rw [List.filter_cons, List.countP_cons, ← ih]
    cases h : (p.1 == x)
    · simp
    · simp [List.count_cons]
end Go.Proofs.YtcdhblfefpkjgaaDoor
namespace Go.Proofs.YtcdhblfefpkjgaaDoor
open Go.RowKit

/-- The k-th of some things; the place of a thing among them. -/
def gT (hs : List Nat) (k : Nat) : Nat := hs.getD k 0
def iT (hs : List Nat) (x : Nat) : Nat := hs.idxOf x
theorem gT_at {hs : List Nat} {k : Nat} (h : k < hs.length) : hs[k]? = some (gT hs k) := by
  unfold gT; rw [List.getD_eq_getElem?_getD, List.getElem?_eq_getElem h]; rfl
theorem gT_mem {hs : List Nat} {k : Nat} (h : k < hs.length) : gT hs k ∈ hs := List.mem_of_getElem? (gT_at h)
theorem iT_lt {hs : List Nat} {x : Nat} (h : x ∈ hs) : iT hs x < hs.length := List.idxOf_lt_length_of_mem h
theorem g_i {hs : List Nat} {x : Nat} (h : x ∈ hs) : gT hs (iT hs x) = x := by
  have h1 := gT_at (iT_lt h)
  have h2 : hs[iT hs x]? = some x := by
    unfold iT
    rw [List.getElem?_eq_getElem (List.idxOf_lt_length_of_mem h), List.getElem_idxOf]
  rw [h1] at h2
  exact Option.some.inj h2
/-- Rising. -/
abbrev Rs' (hs : List Nat) : Prop := hs.Pairwise (· < ·)
theorem g_mono {hs : List Nat} (hr : Rs' hs) {i k : Nat} (hk : k < hs.length) (h : i < k) : gT hs i < gT hs k := by
  have hi : i < hs.length := by omega
  have := List.pairwise_iff_getElem.1 hr i k hi hk h
  have e1 := gT_at hi
  have e2 := gT_at hk
  rw [List.getElem?_eq_getElem hi] at e1
  rw [List.getElem?_eq_getElem hk] at e2
  rw [← Option.some.inj e1, ← Option.some.inj e2]
  exact this
theorem g_inj {hs : List Nat} (hr : Rs' hs) {i k : Nat} (hi : i < hs.length) (hk : k < hs.length) (h : gT hs i = gT hs k) : i = k := by
  rcases Nat.lt_trichotomy i k with q | q | q
  · have := g_mono hr hk q; omega
  · exact q
  · have := g_mono hr hi q; omega
theorem i_g {hs : List Nat} (hr : Rs' hs) {k : Nat} (hk : k < hs.length) : iT hs (gT hs k) = k := g_inj hr (iT_lt (gT_mem hk)) hk (g_i (gT_mem hk))
/-- What of a row is among them, renumbered. -/
def pk (hs row : List Nat) : List Nat := (row.filter fun x => decide (x ∈ hs)).map (iT hs)
theorem pk_snoc (hs row : List Nat) (x : Nat) : pk hs (row ++ [x]) = if x ∈ hs then pk hs row ++ [iT hs x] else pk hs row := by
  unfold pk
  rw [List.filter_append, List.map_append]
  by_cases h : x ∈ hs
  · rw [if_pos h]; simp [h]
  · rw [if_neg h]; simp [h]
theorem mem_pk {hs row : List Nat} (hr : Rs' hs) {k : Nat} (hk : k < hs.length) : k ∈ pk hs row ↔ gT hs k ∈ row := by
  unfold pk
  rw [List.mem_map]
  constructor
  · rintro ⟨x, hx, e⟩
    rw [List.mem_filter, decide_eq_true_eq] at hx
    rw [← e, g_i hx.2]
    exact hx.1
  · intro h
    exact ⟨gT hs k, List.mem_filter.2 ⟨h, decide_eq_true (gT_mem hk)⟩, i_g hr hk⟩
/-- Edges among them. -/
def gE (hs : List Nat) (E : List (Nat × Nat)) : List (Nat × Nat) := E.map fun p => (gT hs p.1, gT hs p.2)
theorem awt_g {hs row : List Nat} (hr : Rs' hs) {E : List (Nat × Nat)} (hE : ∀ p ∈ E, p.1 < hs.length ∧ p.2 < hs.length) {k : Nat} (hk : k < hs.length) : awt (gE hs E) row (gT hs k) = awt E (pk hs row) k := by
  unfold awt gE
  rw [List.countP_map]
  refine List.countP_congr fun p hp => ?_
  obtain ⟨h1, h2⟩ := hE p hp
  simp only [Function.comp, Bool.and_eq_true, beq_iff_eq, Bool.not_eq_true', List.contains_eq_mem, decide_eq_false_iff_not]
  constructor
  · rintro ⟨a, b⟩
    exact ⟨g_inj hr h2 hk a, fun q => b ((mem_pk hr h1).1 q)⟩
  · rintro ⟨a, b⟩
    exact ⟨by rw [a], fun q => b ((mem_pk hr h1).2 q)⟩
theorem av_g {n : Nat} {hs row : List Nat} (hr : Rs' hs) (hn : ∀ x ∈ hs, x < n) {E : List (Nat × Nat)} (hE : ∀ p ∈ E, p.1 < hs.length ∧ p.2 < hs.length) {k : Nat} (hk : k < hs.length) : Av hs.length E (pk hs row) k ↔ Av n (gE hs E) row (gT hs k) := by
  unfold Av
  rw [awt_g hr hE hk]
  constructor
  · rintro ⟨_, h2, h3⟩
    exact ⟨hn _ (gT_mem hk), fun q => h2 ((mem_pk hr hk).2 q), h3⟩
  · rintro ⟨_, h2, h3⟩
    exact ⟨hk, fun q => h2 ((mem_pk hr hk).1 q), h3⟩
theorem nxt_g {n : Nat} {hs row : List Nat} (hr : Rs' hs) (hn : ∀ x ∈ hs, x < n) {E : List (Nat × Nat)} (hE : ∀ p ∈ E, p.1 < hs.length ∧ p.2 < hs.length) {pr : Nat → Int} {x : Nat} (hx : x ∈ hs) (h : Nxt n (gE hs E) pr row x) : Nxt hs.length E (fun k => pr (gT hs k)) (pk hs row) (iT hs x) := by
  refine ⟨(av_g hr hn hE (iT_lt hx)).2 (by rw [g_i hx]; exact h.1), fun k hk hne => ?_⟩
  have hkl : k < hs.length := hk.1
  have h2 := h.2 (gT hs k) ((av_g hr hn hE hkl).1 hk) (fun q => hne (by rw [← q, i_g hr hkl]))
  unfold bf at h2 ⊢
  dsimp only
  rw [g_i hx]
  rcases h2 with h2 | ⟨h2, h3⟩
  · exact .inl h2
  · refine .inr ⟨h2, ?_⟩
    rcases Nat.lt_trichotomy (iT hs x) k with q | q | q
    · exact q
    · exact absurd q.symm hne
    · have := g_mono hr (iT_lt hx) q
      rw [g_i hx] at this
      omega
/-- The order of all, without those that have no edges, is the order of the others. -/
theorem gr_g {n : Nat} {hs : List Nat} (hr : Rs' hs) (hn : ∀ x ∈ hs, x < n) {E : List (Nat × Nat)} (hE : ∀ p ∈ E, p.1 < hs.length ∧ p.2 < hs.length) {pr : Nat → Int} {row : List Nat} (h : Gr' n (gE hs E) pr row) : Gr' hs.length E (fun k => pr (gT hs k)) (pk hs row) := by
  induction h with
  | nil => exact Gr'.nil
  | @step row x hrow hx ih =>
    rw [pk_snoc]
    by_cases hm : x ∈ hs
    · rw [if_pos hm]
      exact Gr'.step ih (nxt_g hr hn hE hm hx)
    · rw [if_neg hm]
      exact ih
theorem none_g {n : Nat} {hs row : List Nat} (hr : Rs' hs) (hn : ∀ x ∈ hs, x < n) {E : List (Nat × Nat)} (hE : ∀ p ∈ E, p.1 < hs.length ∧ p.2 < hs.length) (h : ∀ y, ¬ Av n (gE hs E) row y) : ∀ k, ¬ Av hs.length E (pk hs row) k :=
  fun _ hk => h _ ((av_g hr hn hE hk.1).1 hk)
/-- All stand just where all of them stand. -/
theorem all_g {n : Nat} {hs row : List Nat} (hr : Rs' hs) (hn : ∀ x ∈ hs, x < n) {E : List (Nat × Nat)} (hE : ∀ p ∈ E, p.1 < hs.length ∧ p.2 < hs.length) {pr : Nat → Int} (h : Gr' n (gE hs E) pr row) (hno : ∀ y, ¬ Av n (gE hs E) row y) : row.length = n ↔ (pk hs row).length = hs.length := by
  have hg := gr_g hr hn hE h
  constructor
  · intro hl
    have h1 : hs.length ≤ (pk hs row).length := by
      have hp := pigeon (pk hs row).length (List.range hs.length) List.nodup_range
      apply Classical.byContradiction
      intro hlt
      obtain ⟨k, hk, hkn⟩ : ∃ k, k < hs.length ∧ k ∉ pk hs row := by
        apply Classical.byContradiction
        intro hno2
        have hall : ∀ k, k < hs.length → k ∈ pk hs row := fun k hk => Classical.byContradiction fun q => hno2 ⟨k, hk, q⟩
        have := (List.nodup_range (n := hs.length)).length_le_of_subset (l₂ := pk hs row) (fun k hk => hall k (List.mem_range.1 hk))
        rw [List.length_range] at this
        omega
      exact hkn ((mem_pk hr hk).2 (all_in h.low.1 hl h.low.2 (hn _ (gT_mem hk))))
    have h2 : (pk hs row).length ≤ hs.length := pigeon _ _ hg.low.1 hg.low.2
    omega
  · intro hl
    apply Classical.byContradiction
    intro hne
    have hle : row.length ≤ n := pigeon n row h.low.1 h.low.2
    obtain ⟨x, hx, hxr⟩ : ∃ x, x < n ∧ x ∉ row := by
      apply Classical.byContradiction
      intro hno2
      have hall : ∀ k, k < n → k ∈ row := fun k hk => Classical.byContradiction fun q => hno2 ⟨k, hk, q⟩
      have := (List.nodup_range (n := n)).length_le_of_subset (l₂ := row) (fun k hk => hall k (List.mem_range.1 hk))
      rw [List.length_range] at this
      omega
    by_cases hm : x ∈ hs
    · exact hxr (by
        have := (mem_pk (row := row) hr (iT_lt hm)).1 (all_in hg.low.1 hl hg.low.2 (iT_lt hm))
        rwa [g_i hm] at this)
    · refine hno x ⟨hx, hxr, ?_⟩
      unfold awt gE
      rw [List.countP_eq_zero]
      intro p hp
      obtain ⟨p', hp', rfl⟩ := List.mem_map.1 hp
      have := (hE p' hp').2
      simp only [Bool.and_eq_true, beq_iff_eq, not_and]
      intro e
      exact absurd (e ▸ gT_mem this) hm
end Go.Proofs.YtcdhblfefpkjgaaDoor
namespace Go.Proofs.YtcdhblfefpkjgaaDoor
open Go.RowKit

/-- The heads, rising; the members of a head. -/
def hsT (hd : Nat → Nat) (n : Nat) : List Nat := (List.range n).filter fun x => decide (hd x = x)
def memT (hd : Nat → Nat) (n x : Nat) : List Nat := (List.range n).filter fun k => decide (hd k = x)
theorem hsT_rs (hd : Nat → Nat) (n : Nat) : Rs' (hsT hd n) := List.Pairwise.filter _ List.pairwise_lt_range
theorem mem_hsT {hd : Nat → Nat} {n x : Nat} : x ∈ hsT hd n ↔ x < n ∧ hd x = x := by
  unfold hsT
  rw [List.mem_filter, List.mem_range, decide_eq_true_eq]
theorem hsT_lt {hd : Nat → Nat} {n : Nat} : ∀ x ∈ hsT hd n, x < n := fun _ hx => (mem_hsT.1 hx).1
theorem hsT_len (hd : Nat → Nat) (n : Nat) : (hsT hd n).length ≤ n := by
  have := List.length_filter_le (fun x => decide (hd x = x)) (List.range n)
  rwa [List.length_range] at this
theorem hsT_succ (hd : Nat → Nat) (n : Nat) : hsT hd (n + 1) = if hd n = n then hsT hd n ++ [n] else hsT hd n := by
  unfold hsT
  rw [List.range_succ, List.filter_append]
  by_cases h : hd n = n
  · rw [if_pos h]; simp [h]
  · rw [if_neg h]; simp [h]
theorem memT_succ (hd : Nat → Nat) (n x : Nat) : memT hd (n + 1) x = if hd n = x then memT hd n x ++ [n] else memT hd n x := by
  unfold memT
  rw [List.range_succ, List.filter_append]
  by_cases h : hd n = x
  · rw [if_pos h]; simp [h]
  · rw [if_neg h]; simp [h]
/-- Each thing leads to a head. -/
structure HdOk (hd : Nat → Nat) (n : Nat) : Prop where
  le : ∀ x, x < n → hd x ≤ x
  hh : ∀ x, x < n → hd (hd x) = hd x
theorem HdOk.mem {hd : Nat → Nat} {n x : Nat} (h : HdOk hd n) (hx : x < n) : hd x ∈ hsT hd n := mem_hsT.2 ⟨Nat.lt_of_le_of_lt (h.le x hx) hx, h.hh x hx⟩
/-- The number of a thing's group. -/
def nuT (hd : Nat → Nat) (n x : Nat) : Nat := iT (hsT hd n) (hd x)
theorem g_nu {hd : Nat → Nat} {n x : Nat} (h : HdOk hd n) (hx : x < n) : gT (hsT hd n) (nuT hd n x) = hd x := g_i (h.mem hx)
theorem nu_lt {hd : Nat → Nat} {n x : Nat} (h : HdOk hd n) (hx : x < n) : nuT hd n x < (hsT hd n).length := iT_lt (h.mem hx)
/-- Edges between groups, in both ways. -/
theorem gE_nu {hd : Nat → Nat} {n : Nat} (h : HdOk hd n) (E : List (Nat × Nat)) (hE : ∀ p ∈ E, p.1 < n ∧ p.2 < n) : gE (hsT hd n) (E.map fun p => (nuT hd n p.1, nuT hd n p.2)) = E.map fun p => (hd p.1, hd p.2) := by
  unfold gE
  rw [List.map_map]
  refine List.map_congr_left fun p hp => ?_
  obtain ⟨h1, h2⟩ := hE p hp
  simp only [Function.comp, g_nu h h1, g_nu h h2]
theorem nu_rng {hd : Nat → Nat} {n : Nat} (h : HdOk hd n) (E : List (Nat × Nat)) (hE : ∀ p ∈ E, p.1 < n ∧ p.2 < n) : ∀ p ∈ E.map (fun p => (nuT hd n p.1, nuT hd n p.2)), p.1 < (hsT hd n).length ∧ p.2 < (hsT hd n).length := by
  intro p hp
  obtain ⟨q, hq, rfl⟩ := List.mem_map.1 hp
  exact ⟨nu_lt h (hE q hq).1, nu_lt h (hE q hq).2⟩
/-- The lists of an order of all things, and of the order of the groups. -/
theorem lists_same {hd : Nat → Nat} {n : Nat} {row : List Nat} (hr : ∀ x ∈ row, x < n) : (pk (hsT hd n) row).map (fun k => memT hd n (gT (hsT hd n) k)) = (row.filter fun x => decide (hd x = x)).map (memT hd n) := by
  unfold pk
  rw [List.map_map]
  have e : (row.filter fun x => decide (x ∈ hsT hd n)) = row.filter fun x => decide (hd x = x) := by
    refine List.filter_congr fun x hx => ?_
    have := hr x hx
    simp [mem_hsT, this]
  rw [e]
  refine List.map_congr_left fun x hx => ?_
  rw [List.mem_filter, decide_eq_true_eq] at hx
  simp only [Function.comp]
  rw [g_i (mem_hsT.2 ⟨hr x hx.1, hx.2⟩)]
/-- The greatest priority of a group's members. -/
def upT (pr : Nat → Int) (l : List Nat) (z : Int) : Int := l.foldl (fun a x => max a (pr x)) z
theorem upT_snoc (pr : Nat → Int) (l : List Nat) (z : Int) (x : Nat) : upT pr (l ++ [x]) z = max (upT pr l z) (pr x) := by unfold upT; rw [List.foldl_append]; rfl
end Go.Proofs.YtcdhblfefpkjgaaDoor
