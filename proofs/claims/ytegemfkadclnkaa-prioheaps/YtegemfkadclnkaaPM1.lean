/-
  My own text: the mathematics of a heap: a list as a tree, by any order; things with the time of their coming; the first of them.
-/
import Derived.Test.YtegemfkadclnkaaErr
namespace Go.Proofs.Ytegemfkadclnkaa
open Go.RowKit

/-! a heap as a list, by any strict order -/
section
variable {ε : Type} {lt : ε → ε → Bool}
/-- An order. -/
structure SO (lt : ε → ε → Bool) : Prop where
  asym : ∀ a b, lt a b = true → lt b a = false
  neg : ∀ a b c, lt a b = false → lt b c = false → lt a c = false
theorem SO.irr (h : SO lt) (a : ε) : lt a a = false := by
  cases e : lt a a with
  | false => rfl
  | true => have := h.asym a a e; rw [e] at this; cases this
theorem SO.lt_neg (h : SO lt) {a b c : ε} (h1 : lt a b = false) (h2 : lt c b = true) : lt a c = false := by
  refine h.neg a b c h1 (h.asym c b h2)
/-- None stands ahead of the one above it. -/
def HeapOk (lt : ε → ε → Bool) (E : List ε) : Prop := ∀ j x y, 0 < j → E[j]? = some x → E[(j - 1) / 2]? = some y → lt x y = false
def Low (lt : ε → ε → Bool) (E : List ε) (p : Nat) : Prop := ∀ j x y, 0 < j → (j - 1) / 2 = p → 0 < p → E[j]? = some x → E[(p - 1) / 2]? = some y → lt x y = false
/-- .. but about p. -/
def Hole (lt : ε → ε → Bool) (E : List ε) (p : Nat) : Prop := (∀ j x y, 0 < j → j ≠ p → (j - 1) / 2 ≠ p → E[j]? = some x → E[(j - 1) / 2]? = some y → lt x y = false) ∧ Low lt E p
/-- .. but below p. -/
def Sink (lt : ε → ε → Bool) (E : List ε) (p : Nat) : Prop := (∀ j x y, 0 < j → (j - 1) / 2 ≠ p → E[j]? = some x → E[(j - 1) / 2]? = some y → lt x y = false) ∧ Low lt E p
def Ch (lt : ε → ε → Bool) (E : List ε) (p : Nat) : Prop := ∀ j x y, 0 < j → (j - 1) / 2 = p → E[j]? = some x → E[p]? = some y → lt x y = false
theorem HeapOk.hole {E : List ε} (h : HeapOk lt E) (ho : SO lt) {p : Nat} {z : ε} (hz : E[p]? = some z) : Hole lt E p :=
  ⟨fun j x y h0 _ _ hx hy => h j x y h0 hx hy, fun j x y h0 hp h1 hx hy => ho.neg x z y (h j x z h0 hx (by rw [hp]; exact hz)) (h p z y h1 hz hy)⟩
theorem HeapOk.sink {E : List ε} (h : HeapOk lt E) (ho : SO lt) {p : Nat} {z : ε} (hz : E[p]? = some z) : Sink lt E p :=
  ⟨fun j x y h0 _ hx hy => h j x y h0 hx hy, (h.hole ho hz).2⟩
theorem Sink.heap {E : List ε} {p : Nat} (h : Sink lt E p) (hc : Ch lt E p) : HeapOk lt E := fun j x y h0 hx hy => by
  by_cases hp : (j - 1) / 2 = p
  · exact hc j x y h0 hp hx (by rw [← hp]; exact hy)
  · exact h.1 j x y h0 hp hx hy
theorem Hole.sink {E : List ε} {p : Nat} (h : Hole lt E p) (hp : ∀ x y, 0 < p → E[p]? = some x → E[(p - 1) / 2]? = some y → lt x y = false) : Sink lt E p :=
  ⟨fun j x y h0 hj hx hy => by
    by_cases hjp : j = p
    · subst hjp; exact hp x y h0 hx hy
    · exact h.1 j x y h0 hjp hj hx hy, h.2⟩
/-- Two change places. -/
def sw (E : List ε) (i j : Nat) (x y : ε) : List ε := (E.set i y).set j x
theorem sw_len (E : List ε) (i j : Nat) (x y : ε) : (sw E i j x y).length = E.length := by simp [sw]
theorem sw_perm {E : List ε} {i j : Nat} {x y : ε} (hi : E[i]? = some x) (hj : E[j]? = some y) : (sw E i j x y).Perm E := by
  obtain ⟨h1, rfl⟩ := List.getElem?_eq_some_iff.1 hi
  obtain ⟨h2, rfl⟩ := List.getElem?_eq_some_iff.1 hj
  exact List.set_set_perm h1 h2
theorem sw_i {E : List ε} {i j : Nat} {x y : ε} (hi : E[i]? = some x) (hij : i ≠ j) : (sw E i j x y)[i]? = some y := by
  have h1 := (List.getElem?_eq_some_iff.1 hi).1
  unfold sw
  rw [List.getElem?_set, if_neg (Ne.symm hij), List.getElem?_set, if_pos rfl, if_pos h1]
theorem sw_j {E : List ε} {i j : Nat} {x y : ε} (hj : E[j]? = some y) : (sw E i j x y)[j]? = some x := by
  have h1 := (List.getElem?_eq_some_iff.1 hj).1
  unfold sw
  rw [List.getElem?_set, if_pos rfl, if_pos (by rw [List.length_set]; exact h1)]
theorem sw_k {E : List ε} {i j k : Nat} {x y : ε} (h1 : k ≠ i) (h2 : k ≠ j) : (sw E i j x y)[k]? = E[k]? := by
  unfold sw
  rw [List.getElem?_set, if_neg (Ne.symm h2), List.getElem?_set, if_neg (Ne.symm h1)]
theorem Hole.up {E : List ε} (ho : SO lt) {p : Nat} {x y : ε} (h : Hole lt E p) (h0 : 0 < p) (hx : E[p]? = some x) (hy : E[(p - 1) / 2]? = some y) (hl : lt x y = true) :
    Hole lt (sw E p ((p - 1) / 2) x y) ((p - 1) / 2) ∧ Ch lt (sw E p ((p - 1) / 2) x y) ((p - 1) / 2) := by
  obtain ⟨q, hq⟩ : ∃ q, (p - 1) / 2 = q := ⟨_, rfl⟩
  rw [hq] at hy ⊢
  have hqp : p ≠ q := by omega
  have e1 : (sw E p q x y)[p]? = some y := sw_i hx hqp
  have e2 : (sw E p q x y)[q]? = some x := sw_j hy
  refine ⟨⟨fun j a b g0 g1 g2 ha hb => ?_, fun j a b g0 g1 g2 ha hb => ?_⟩, fun j a b g0 g1 ha hb => ?_⟩
  · by_cases hjp : j = p
    · subst hjp; exact absurd hq g2
    rw [sw_k hjp g1] at ha
    by_cases hpp : (j - 1) / 2 = p
    · rw [hpp, e1] at hb
      obtain rfl : y = b := by simpa using hb
      exact h.2 j a y g0 hpp h0 ha (by rw [hq]; exact hy)
    · rw [sw_k hpp g2] at hb
      exact h.1 j a b g0 hjp hpp ha hb
  · have k1 : (q - 1) / 2 ≠ p := by omega
    have k2 : (q - 1) / 2 ≠ q := by omega
    rw [sw_k k1 k2] at hb
    have hyb : lt y b = false := h.1 q y b g2 (Ne.symm hqp) k1 hy hb
    by_cases hjp : j = p
    · subst hjp
      rw [e1] at ha
      obtain rfl : y = a := by simpa using ha
      exact hyb
    · have hjq : j ≠ q := by omega
      rw [sw_k hjp hjq] at ha
      exact ho.neg a y b (h.1 j a y g0 hjp (by omega) ha (by rw [g1]; exact hy)) hyb
  · rw [e2] at hb
    obtain rfl : x = b := by simpa using hb
    by_cases hjp : j = p
    · subst hjp
      rw [e1] at ha
      obtain rfl : y = a := by simpa using ha
      exact ho.asym _ _ hl
    · have hjq : j ≠ q := by omega
      rw [sw_k hjp hjq] at ha
      exact ho.lt_neg (h.1 j a y g0 hjp (by omega) ha (by rw [g1]; exact hy)) hl
/-- One goes down. -/
theorem Sink.down {E : List ε} (ho : SO lt) {p c : Nat} {x y : ε} (h : Sink lt E p) (hc : c = 2 * p + 1 ∨ c = 2 * p + 2) (hx : E[p]? = some x) (hy : E[c]? = some y) (hl : lt y x = true)
    (hm : ∀ j z, 0 < j → (j - 1) / 2 = p → E[j]? = some z → lt z y = false) : Sink lt (sw E p c x y) c := by
  have hpc : p ≠ c := by omega
  have hcp : (c - 1) / 2 = p := by omega
  have e1 : (sw E p c x y)[p]? = some y := sw_i hx hpc
  have e2 : (sw E p c x y)[c]? = some x := sw_j hy
  refine ⟨fun j a b g0 g1 ha hb => ?_, fun j a b g0 g1 g2 ha hb => ?_⟩
  · by_cases hjp : j = p
    · subst hjp
      rw [e1] at ha
      obtain rfl : y = a := by simpa using ha
      rw [sw_k (by omega) (by omega)] at hb
      exact h.2 c y b (by omega) hcp g0 hy hb
    · by_cases hjc : j = c
      · subst hjc
        rw [e2] at ha
        obtain rfl : x = a := by simpa using ha
        rw [hcp, e1] at hb
        obtain rfl : y = b := by simpa using hb
        exact ho.asym _ _ hl
      · rw [sw_k hjp hjc] at ha
        by_cases hpp : (j - 1) / 2 = p
        · rw [hpp, e1] at hb
          obtain rfl : y = b := by simpa using hb
          exact hm j a g0 hpp ha
        · rw [sw_k hpp g1] at hb
          exact h.1 j a b g0 hpp ha hb
  · rw [hcp, e1] at hb
    obtain rfl : y = b := by simpa using hb
    rw [sw_k (by omega) (by omega)] at ha
    exact h.1 j a y g0 (by omega) ha (by rw [g1]; exact hy)
theorem HeapOk.first (ho : SO lt) {E : List ε} (h : HeapOk lt E) {m : ε} (hm : E[0]? = some m) : ∀ (n j : Nat) (x : ε), j ≤ n → E[j]? = some x → lt x m = false
  | n, 0, x, _, hx => by rw [hm] at hx; obtain rfl : m = x := by simpa using hx
                         exact ho.irr _
  | 0, j + 1, x, hj, _ => by omega
  | n + 1, j + 1, x, hj, hx => by
    have hl := (List.getElem?_eq_some_iff.1 hx).1
    have hlt : j / 2 < E.length := by omega
    have hy : E[j / 2]? = some E[j / 2] := List.getElem?_eq_getElem hlt
    exact ho.neg _ _ _ (h (j + 1) x _ (by omega) hx (by rw [Nat.add_sub_cancel]; exact hy)) (HeapOk.first ho h hm n (j / 2) _ (by omega) hy)
theorem HeapOk.mem (ho : SO lt) {E : List ε} (h : HeapOk lt E) {m : ε} (hm : E[0]? = some m) {x : ε} (hx : x ∈ E) : lt x m = false := by
  obtain ⟨j, hj, rfl⟩ := List.mem_iff_getElem.1 hx
  exact h.first ho hm j j _ (Nat.le_refl _) (List.getElem?_eq_getElem hj)
/-- What is left when one is taken out, the last in its stead. -/
theorem out_perm {E : List ε} {p l : Nat} {x y : ε} (hp : E[p]? = some x) (hl : E.length = l + 1) (hy : E[l]? = some y) : (x :: (E.set p y).take l).Perm E := by
  have h1 := sw_perm hp hy
  have hpl := (List.getElem?_eq_some_iff.1 hp).1
  have e : sw E p l x y = (E.set p y).take l ++ [x] := by
    refine List.ext_getElem? (fun k => ?_)
    by_cases hk : k < l
    · rw [List.getElem?_append_left (by simp; omega), List.getElem?_take, if_pos hk]
      unfold sw
      rw [List.getElem?_set, if_neg (by omega)]
    · by_cases hk2 : k = l
      · subst hk2
        rw [sw_j hy, List.getElem?_append_right (by simp; omega)]
        simp [hl]
      · rw [List.getElem?_eq_none (by rw [sw_len]; omega), List.getElem?_eq_none (by simp; omega)]
  rw [e] at h1
  exact (List.perm_append_comm (l₁ := [x])).trans h1
theorem HeapOk.take {E : List ε} (h : HeapOk lt E) (l : Nat) : HeapOk lt (E.take l) := fun j x y h0 hx hy => by
  rw [List.getElem?_take] at hx hy
  split at hx
  · rw [if_pos (by omega)] at hy; exact h j x y h0 hx hy
  · cases hx
theorem out_hole {E : List ε} (ho : SO lt) (h : HeapOk lt E) {p l : Nat} {x y : ε} (hp : E[p]? = some x) : Hole lt ((E.set p y).take l) p := by
  have hpl := (List.getElem?_eq_some_iff.1 hp).1
  have hg : ∀ (k : Nat) (z : ε), k ≠ p → ((E.set p y).take l)[k]? = some z → E[k]? = some z := fun k z hk hz => by
    rw [List.getElem?_take] at hz
    split at hz
    · rw [List.getElem?_set, if_neg (Ne.symm hk)] at hz; exact hz
    · cases hz
  refine ⟨fun j a b g0 g1 g2 ha hb => h j a b g0 (hg _ _ g1 ha) (hg _ _ g2 hb), fun j a b g0 g1 g2 ha hb => ?_⟩
  exact ho.neg a x b (h j a x g0 (hg _ _ (by omega) ha) (by rw [g1]; exact hp)) (h p x b g2 hp (hg _ _ (by omega) hb))
theorem push_hole {E : List ε} (h : HeapOk lt E) (x : ε) : Hole lt (E ++ [x]) E.length ∧ Ch lt (E ++ [x]) E.length := by
  have hg : ∀ (k : Nat) (z : ε), k ≠ E.length → (E ++ [x])[k]? = some z → E[k]? = some z := fun k z hk hz => by
    have := (List.getElem?_eq_some_iff.1 hz).1
    rw [List.length_append] at this
    simp at this
    rwa [List.getElem?_append_left (by omega)] at hz
  refine ⟨⟨fun j a b g0 g1 g2 ha hb => h j a b g0 (hg _ _ g1 ha) (hg _ _ g2 hb), fun j a b g0 g1 g2 ha hb => ?_⟩, fun j a b g0 g1 ha hb => ?_⟩
  all_goals
    have := (List.getElem?_eq_some_iff.1 ha).1
    simp at this
    omega
end

/-! things with the time of their coming -/
section
variable {α : Type} {k : α → Int}
/-- Does one entry stand ahead of another? -/
def ltE (k : α → Int) (e f : α × Nat) : Bool := if e.2 < f.2 then decide (k e.1 ≤ k f.1) else decide (k e.1 < k f.1)
theorem ltE_iff {e f : α × Nat} : ltE k e f = true ↔ k e.1 < k f.1 ∨ (k e.1 = k f.1 ∧ e.2 < f.2) := by
  unfold ltE; split <;> rw [decide_eq_true_eq] <;> omega
theorem ltE_no {e f : α × Nat} : ltE k e f = false ↔ k f.1 < k e.1 ∨ (k f.1 = k e.1 ∧ f.2 ≤ e.2) := by
  rw [← Bool.not_eq_true, ltE_iff]; omega
theorem ltE_so (k : α → Int) : SO (ltE k) where
  asym a b h := by rw [ltE_iff] at h; rw [ltE_no]; omega
  neg a b c h1 h2 := by rw [ltE_no] at *; omega
/-- Comings rise. -/
def Rs : Nat → List (α × Nat) → Prop
  | _, [] => True
  | n, e :: t => n ≤ e.2 ∧ Rs (e.2 + 1) t
theorem Rs.mono : ∀ {R : List (α × Nat)} {m n : Nat}, Rs n R → m ≤ n → Rs m R
  | [], _, _, _, _ => trivial
  | _ :: _, _, _, h, hm => ⟨Nat.le_trans hm h.1, h.2⟩
theorem Rs.ge : ∀ {R : List (α × Nat)} {n : Nat}, Rs n R → ∀ e ∈ R, n ≤ e.2
  | f :: t, n, h, e, he => by
    rcases List.mem_cons.1 he with rfl | he
    · exact h.1
    · have := Rs.ge h.2 e he; have := h.1; omega
theorem Rs.inj : ∀ {R : List (α × Nat)} {n : Nat}, Rs n R → ∀ e ∈ R, ∀ f ∈ R, e.2 = f.2 → e = f
  | g :: t, n, h, e, he, f, hf, hef => by
    rcases List.mem_cons.1 he with rfl | he <;> rcases List.mem_cons.1 hf with rfl | hf
    · rfl
    · have := Rs.ge h.2 f hf; omega
    · have := Rs.ge h.2 e (by assumption); omega
    · exact Rs.inj h.2 e he f hf hef
theorem Rs.erase [DecidableEq α] : ∀ {R : List (α × Nat)} {n : Nat}, Rs n R → ∀ e, Rs n (R.erase e)
  | [], _, _, _ => trivial
  | g :: t, n, h, e => by
    rw [List.erase_cons]
    split
    · exact (h.2).mono (by have := h.1; omega)
    · exact ⟨h.1, Rs.erase h.2 e⟩
theorem Rs.snoc : ∀ {R : List (α × Nat)} {n : Nat} {e : α × Nat}, Rs n R → n ≤ e.2 → (∀ f ∈ R, f.2 < e.2) → Rs n (R ++ [e])
  | [], _, _, _, h1, _ => ⟨h1, trivial⟩
  | g :: t, _, _, h, _, h2 => ⟨h.1, Rs.snoc h.2 (h2 g (by simp)) (fun f hf => h2 f (by simp [hf]))⟩
/-- The first by the order of those that are so. -/
def mn (k : α → Int) (p : α → Bool) : List (α × Nat) → Option (α × Nat)
  | [] => none
  | e :: t => match mn k p t with
    | none => if p e.1 then some e else none
    | some m => if p e.1 && !ltE k m e then some e else some m
theorem mn_none {p : α → Bool} : ∀ {R : List (α × Nat)}, mn k p R = none ↔ ∀ e ∈ R, p e.1 = false
  | [] => by simp [mn]
  | e :: t => by
    have ih := mn_none (p := p) (R := t)
    unfold mn
    cases hm : mn k p t with
    | none =>
      rw [hm] at ih
      dsimp only
      have := ih.1 rfl
      cases hp : p e.1 <;> simp [hp]
      exact fun a b => this (a, b)
    | some m =>
      rw [hm] at ih
      dsimp only
      constructor
      · intro h; split at h <;> cases h
      · intro h; exact absurd (ih.2 (fun e he => h e (by simp [he]))) (by simp)
theorem mn_some {p : α → Bool} : ∀ {R : List (α × Nat)} {m : α × Nat}, mn k p R = some m → m ∈ R ∧ p m.1 = true ∧ ∀ e ∈ R, p e.1 = true → ltE k e m = false
  | e :: t, m, h => by
    unfold mn at h
    cases hm : mn k p t with
    | none =>
      rw [hm] at h
      have hn := mn_none.1 hm
      dsimp only at h
      cases hp : p e.1 with
      | false => rw [hp] at h; simp at h
      | true =>
        rw [hp] at h
        obtain rfl : e = m := by simpa using h
        refine ⟨by simp, hp, fun f hf hpf => ?_⟩
        rcases List.mem_cons.1 hf with rfl | hf
        · exact (ltE_so k).irr _
        · rw [hn f hf] at hpf; cases hpf
    | some m' =>
      rw [hm] at h
      obtain ⟨h1, h2, h3⟩ := mn_some hm
      dsimp only at h
      cases hc : (p e.1 && !ltE k m' e) with
      | true =>
        rw [hc, if_pos rfl] at h
        obtain rfl : e = m := by simpa using h
        simp only [Bool.and_eq_true, Bool.not_eq_true'] at hc
        refine ⟨by simp, hc.1, fun f hf hpf => ?_⟩
        rcases List.mem_cons.1 hf with rfl | hf
        · exact (ltE_so k).irr _
        · exact (ltE_so k).neg _ _ _ (h3 f hf hpf) hc.2
      | false =>
        rw [hc] at h
        obtain rfl : m' = m := by simpa using h
        refine ⟨by simp [h1], h2, fun f hf hpf => ?_⟩
        rcases List.mem_cons.1 hf with rfl | hf
        · rw [hpf] at hc
          cases hl : ltE k m' f with
          | true => exact (ltE_so k).asym _ _ hl
          | false => rw [hl] at hc; cases hc
        · exact h3 f hf hpf
theorem mn_of {p : α → Bool} {R : List (α × Nat)} {n : Nat} (hr : Rs n R) {m : α × Nat} (h1 : m ∈ R) (h2 : p m.1 = true) (h3 : ∀ e ∈ R, p e.1 = true → ltE k e m = false) : mn k p R = some m := by
  cases hm : mn k p R with
  | none => have := mn_none.1 hm m h1; rw [h2] at this; cases this
  | some m' =>
    obtain ⟨g1, g2, g3⟩ := mn_some hm
    have a := h3 m' g1 g2
    have b := g3 m h1 h2
    rw [ltE_no] at a b
    have := hr.inj m' g1 m h1 (by omega)
    rw [this]
/-- One is taken out. -/
def er [DecidableEq α] (R : List (α × Nat)) (e : α × Nat) : List (α × Nat) := R.erase e
theorem Rs.er [DecidableEq α] {R : List (α × Nat)} {n : Nat} (h : Rs n R) (e : α × Nat) : Rs n (er R e) := Rs.erase h e
theorem er_sub [DecidableEq α] {R : List (α × Nat)} {e f : α × Nat} (h : f ∈ er R e) : f ∈ R := List.mem_of_mem_erase h
theorem perm_out [DecidableEq α] {E E' R : List (α × Nat)} {x : α × Nat} (h : (x :: E').Perm E) (hp : E.Perm R) : E'.Perm (er R x) ∧ (er R x).length + 1 = R.length := by
  have h1 := (h.trans hp).erase x
  rw [List.erase_cons_head] at h1
  have hm : x ∈ R := (h.trans hp).mem_iff.1 (by simp)
  have h2 := List.length_erase_of_mem hm
  have h3 := List.length_pos_of_mem hm
  exact ⟨h1, by unfold er; omega⟩
/-- The row. -/
def srt [DecidableEq α] (k : α → Int) : Nat → List (α × Nat) → List α
  | 0, _ => []
  | n + 1, R => match mn k (fun _ => true) R with
    | none => []
    | some m => m.1 :: srt k n (er R m)
theorem srt_step [DecidableEq α] {E R : List (α × Nat)} {x : α × Nat} {m : Nat} (hk : HeapOk (ltE k) E) (hp : E.Perm R) (hr : Rs 0 R) (hx : E[0]? = some x) : srt k (m + 1) R = x.1 :: srt k m (er R x) := by
  have h1 : mn k (fun _ => true) R = some x := mn_of hr (hp.mem_iff.1 (List.mem_of_getElem? hx)) rfl (fun e he _ => hk.mem (ltE_so k) hx (hp.mem_iff.2 he))
  simp only [srt, h1]
end
end Go.Proofs.Ytegemfkadclnkaa
