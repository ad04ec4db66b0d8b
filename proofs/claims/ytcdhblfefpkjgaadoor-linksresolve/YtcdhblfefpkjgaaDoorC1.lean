/-
  My own text: D4, D5, CMath, C1 in one.
-/
import Derived.Test.YtcdhblfefpkjgaaDoorD3
import Derived.Test.YtcdhblfefpkjgaaDoorProg
import Derived.WalkKit
import Derived.Test.YtcdhblfefpkjgaaDoorHeld
import Derived.RegionTactic
import Derived.WalkSmall
import Derived.Deep.QuietTactic
import Derived.BigQuiet
namespace Go.Proofs.YtcdhblfefpkjgaaDoor
open Go.RowKit

theorem ret_date {a b c a' b' c' : Int} (h1 : a = a') (h2 : b = b') (h3 : c = c') : Ending.returned (.agg #[.int .i64 a, .int .i64 b, .int .i64 c]) = .returned (dateV a' b' c') := by rw [h1, h2, h3]; rfl
theorem month_next {Y r k x : Int} (h : x = r - aheadM Y k) (hb : r ≤ ydays Y) (k1 : 1 ≤ k) (k2 : k ≤ 12) (hx : mdays Y k < x) : k < 12 := by
  by_cases e : k = 12
  · subst e
    have h1 := aheadM_succ Y (m := 12) (by omega) (by omega)
    have h2 := aheadM_last Y
    rw [show (12 : Int) + 1 = 13 from rfl] at h1
    omega
  · omega
theorem date_is {n Y k x : Int} (h1 : 1 ≤ n) (y1 : 1 ≤ Y) (k1 : 1 ≤ k) (k2 : k ≤ 12) (x1 : 1 ≤ x) (x2 : x ≤ mdays Y k) (h : x = n - aheadY Y - aheadM Y k) : yearI n = Y ∧ monthI n = k ∧ dayI n = x :=
  dateI_of ⟨y1, k1, k2, x1, x2⟩ (by unfold numI; omega) h1
theorem guess_b {n : Int} (h1 : 1 ≤ n) (h2 : n ≤ 3652059) : 0 ≤ (n - 1) * 400 / 146097 ∧ (n - 1) * 400 / 146097 ≤ 9998 := by omega

theorem cell_apart {w : World} {b o b' o' : Nat} {v x : Value} (h : w.cell? ⟨b', o', none⟩ = some x) (hne : b ≠ b' ∨ o ≠ o') : (w.setCell ⟨b, o, none⟩ v).cell? ⟨b', o', none⟩ = some x := by
  rw [World.cell?_setCell_other _ _ _ _ (by intro e; simp at e; omega)]; exact h
/-- A date's variable, in whatever later world. -/
structure Trio (w : World) (b : Nat) (x y z : Int) : Prop where
  lt : b < w.heap.size
  c0 : w.cell? ⟨b, 0, none⟩ = some (.int .i64 x)
  c1 : w.cell? ⟨b, 1, none⟩ = some (.int .i64 y)
  c2 : w.cell? ⟨b, 2, none⟩ = some (.int .i64 z)
  f0 : w.frozen? ⟨b, 0, none⟩ = false
  f1 : w.frozen? ⟨b, 1, none⟩ = false
  f2 : w.frozen? ⟨b, 2, none⟩ = false
theorem Trio.later {w w1 : World} {b : Nat} {x y z : Int} (h : Trio w b x y z) (hb : Below w.heap.size w w1) : Trio w1 b x y z := by
  obtain ⟨hc, hf⟩ := bcell hb
  exact ⟨Nat.lt_of_lt_of_le h.lt hb.size, (hc _ _ h.lt).trans h.c0, (hc _ _ h.lt).trans h.c1, (hc _ _ h.lt).trans h.c2, (hf _ _ h.lt).trans h.f0, (hf _ _ h.lt).trans h.f1, (hf _ _ h.lt).trans h.f2⟩
theorem Trio.new (w : World) (x y z : Int) (t : TypeId) : Trio (w.alloc (.cells #[.int .i64 x, .int .i64 y, .int .i64 z] t)) w.heap.size x y z := by
  refine ⟨by simp, ?_, ?_, ?_, ?_, ?_, ?_⟩ <;> simp
theorem Trio.other {w : World} {b b' o : Nat} {x y z : Int} (h : Trio w b x y z) (v : Value) (hne : b' ≠ b) : Trio (w.setCell ⟨b', o, none⟩ v) b x y z :=
  ⟨by simpa using h.lt, cell_apart h.c0 (Or.inl hne), cell_apart h.c1 (Or.inl hne), cell_apart h.c2 (Or.inl hne), by rw [World.frozen?_setCell]; exact h.f0, by rw [World.frozen?_setCell]; exact h.f1, by rw [World.frozen?_setCell]; exact h.f2⟩
theorem Trio.put0 {w : World} {b : Nat} {x y z : Int} (h : Trio w b x y z) (u : Int) : Trio (w.setCell ⟨b, 0, none⟩ (.int .i64 u)) b u y z :=
  ⟨by simpa using h.lt, World.cell?_setCell_same _ _ _ h.c0, cell_apart h.c1 (by omega), cell_apart h.c2 (by omega), by rw [World.frozen?_setCell]; exact h.f0, by rw [World.frozen?_setCell]; exact h.f1, by rw [World.frozen?_setCell]; exact h.f2⟩
theorem Trio.put1 {w : World} {b : Nat} {x y z : Int} (h : Trio w b x y z) (u : Int) : Trio (w.setCell ⟨b, 1, none⟩ (.int .i64 u)) b x u z :=
  ⟨by simpa using h.lt, cell_apart h.c0 (by omega), World.cell?_setCell_same _ _ _ h.c1, cell_apart h.c2 (by omega), by rw [World.frozen?_setCell]; exact h.f0, by rw [World.frozen?_setCell]; exact h.f1, by rw [World.frozen?_setCell]; exact h.f2⟩
theorem Trio.put2 {w : World} {b : Nat} {x y z : Int} (h : Trio w b x y z) (u : Int) : Trio (w.setCell ⟨b, 2, none⟩ (.int .i64 u)) b x y u :=
  ⟨by simpa using h.lt, cell_apart h.c0 (by omega), cell_apart h.c1 (by omega), World.cell?_setCell_same _ _ _ h.c2, by rw [World.frozen?_setCell]; exact h.f0, by rw [World.frozen?_setCell]; exact h.f1, by rw [World.frozen?_setCell]; exact h.f2⟩
theorem Trio.alloc {w : World} {b : Nat} {x y z : Int} (h : Trio w b x y z) (o : Obj) : Trio (w.alloc o) b x y z := h.later ((Below.refl _ _).alloc (Nat.le_refl _) _)
def ofV (n : Int) : Value := if dayB n then dateV (yearI n) (monthI n) (dayI n) else dateV 0 0 0
def ofE (n : Int) : Int := if dayB n then 0 else 8
theorem of_bad {n : Int} (h : dayB n = false) : ofV n = dateV 0 0 0 ∧ ofE n = 8 := by unfold ofV ofE; rw [h]; exact ⟨rfl, rfl⟩
theorem of_ok {n : Int} (h : dayB n = true) : ofV n = dateV (yearI n) (monthI n) (dayI n) ∧ ofE n = 0 := by unfold ofV ofE; rw [h]; exact ⟨rfl, rfl⟩
theorem dayB_iff (n : Int) : dayB n = true ↔ 1 ≤ n ∧ n ≤ 3652059 := by unfold dayB; rw [decide_eq_true_iff]
theorem ret_datei {a b c a' b' c' e e' : Int} (h1 : a = a') (h2 : b = b') (h3 : c = c') (h4 : e = e') : Ending.returned (.tuple #[.agg #[.int .i64 a, .int .i64 b, .int .i64 c], .int .i64 e]) = .returned (.tuple #[dateV a' b' c', .int .i64 e']) := by rw [h1, h2, h3, h4]; rfl
end Go.Proofs.YtcdhblfefpkjgaaDoor
namespace Go.Proofs.YtcdhblfefpkjgaaDoor
open Go.RowKit

theorem yearI_b {n : Int} (h1 : 1 ≤ n) (h2 : n ≤ 3652059) : 1 ≤ yearI n ∧ yearI n ≤ 9999 := by
  obtain ⟨a, b⟩ := dateI_right h1
  exact ⟨a.y1, year_b a (by omega)⟩
theorem ret_dv {a b : Value} {x y : Value} (h : a = b) (h2 : x = y) : Ending.returned (.tuple #[a, x]) = .returned (.tuple #[b, y]) := by rw [h, h2]
theorem ret_iv {a b : Int} {x y : Value} (h : a = b) (h2 : x = y) : Ending.returned (.tuple #[.int .i64 a, x]) = .returned (.tuple #[.int .i64 b, y]) := by rw [h, h2]
theorem ret_iiv {a b c d : Int} {x y : Value} (h : a = b) (h1 : c = d) (h2 : x = y) : Ending.returned (.tuple #[.int .i64 a, .int .i64 c, x]) = .returned (.tuple #[.int .i64 b, .int .i64 d, y]) := by rw [h, h1, h2]
/-- The day of the week, 0 where there is no day. -/
def wdV (n : Int) : Int := if dayB n then (n - 1) % 7 else 0
theorem wd_bad {n : Int} (h : dayB n = false) : wdV n = 0 := by unfold wdV; rw [h]; rfl
theorem wd_ok {n : Int} (h : dayB n = true) : wdV n = (n - 1) % 7 := by unfold wdV; rw [h]; rfl
/-- The Thursday of a day's week. -/
def midI (n : Int) : Int := n - (n - 1) % 7 + 3
theorem mid_b {n : Int} (h1 : 1 ≤ n) (h2 : n ≤ 3652059) : 4 ≤ midI n ∧ midI n ≤ 3652059 := by unfold midI; omega
def wyV (n : Int) : Int := if dayB n then yearI (midI n) else 0
def wkV (n : Int) : Int := if dayB n then (midI n - aheadY (yearI (midI n)) - 1) / 7 + 1 else 0
theorem wk_bad {n : Int} (h : dayB n = false) : wyV n = 0 ∧ wkV n = 0 := by unfold wyV wkV; rw [h]; exact ⟨rfl, rfl⟩
theorem wk_ok {n : Int} (h : dayB n = true) : wyV n = yearI (midI n) ∧ wkV n = (midI n - aheadY (yearI (midI n)) - 1) / 7 + 1 := by unfold wyV wkV; rw [h]; exact ⟨rfl, rfl⟩
end Go.Proofs.YtcdhblfefpkjgaaDoor
namespace Go.Proofs.YtcdhblfefpkjgaaDoor.LC

/-! ### signs and forms -/
def isDg (c : UInt8) : Bool := decide (48 ≤ c.toNat ∧ c.toNat ≤ 57)
def isCp (c : UInt8) : Bool := decide (65 ≤ c.toNat ∧ c.toNat ≤ 90)
def fitB (c p : UInt8) : Bool := if p = 68 then isDg c else if p = 67 then isCp c else isDg c || isCp c
/-- A text has a form up to a place. -/
def Fits (l f : List UInt8) (k : Nat) : Prop := ∀ j, j < k → fitB (l.getD j 0) (f.getD j 0) = true
theorem fits_zero (l f : List UInt8) : Fits l f 0 := fun j h => by omega
theorem fits_next {l f : List UInt8} {k : Nat} (h : Fits l f k) (h2 : fitB (l.getD k 0) (f.getD k 0) = true) : Fits l f (k + 1) := by
  intro j hj
  by_cases e : j = k
  · subst e; exact h2
  · exact h j (by omega)
def badAt (l f : List UInt8) : Option Nat := (List.range l.length).find? fun j => !fitB (l.getD j 0) (f.getD j 0)
theorem badAt_some {l f : List UInt8} {k : Nat} (h : Fits l f k) (hk : k < l.length) (h2 : fitB (l.getD k 0) (f.getD k 0) = false) : badAt l f = some k := by
  unfold badAt
  rw [List.find?_range_eq_some]
  exact ⟨by rw [h2]; rfl, List.mem_range.2 hk, fun j hj => by rw [h j hj]; rfl⟩
theorem badAt_none {l f : List UInt8} (h : Fits l f l.length) : badAt l f = none := by
  unfold badAt
  rw [List.find?_range_eq_none]
  intro j hj; rw [h j hj]; rfl
theorem badAt_fits {l f : List UInt8} (h : badAt l f = none) : Fits l f l.length := by
  unfold badAt at h
  rw [List.find?_range_eq_none] at h
  intro j hj
  have := h j hj
  simpa using this
/-- The error's number and the place, of a text that should have a form. -/
def formR (l f : List UInt8) : Int × Int :=
  if l.length < f.length then (2, 0) else if f.length < l.length then (3, 0) else match badAt l f with | some k => (6, (k : Int)) | none => (0, 0)
theorem form_short {l f : List UInt8} (h : l.length < f.length) : formR l f = (2, 0) := if_pos h
theorem form_long {l f : List UInt8} (h : f.length < l.length) : formR l f = (3, 0) := by
  unfold formR; rw [if_neg (by omega), if_pos h]
theorem form_bad {l f : List UInt8} {k : Nat} (hl : l.length = f.length) (h : Fits l f k) (hk : k < l.length) (h2 : fitB (l.getD k 0) (f.getD k 0) = false) : formR l f = (6, (k : Int)) := by
  unfold formR; rw [if_neg (by omega), if_neg (by omega), badAt_some h hk h2]
theorem form_ok {l f : List UInt8} (hl : l.length = f.length) (h : Fits l f l.length) : formR l f = (0, 0) := by
  unfold formR; rw [if_neg (by omega), if_neg (by omega), badAt_none h]
/-- Has a text a form? -/
def Form (l f : List UInt8) : Prop := l.length = f.length ∧ Fits l f l.length
theorem form_cases (l f : List UInt8) : (Form l f ∧ formR l f = (0, 0)) ∨ (¬ Form l f ∧ (formR l f).1 ≠ 0) := by
  by_cases h1 : l.length < f.length
  · exact .inr ⟨fun h => by have := h.1; omega, by rw [form_short h1]; decide⟩
  by_cases h2 : f.length < l.length
  · exact .inr ⟨fun h => by have := h.1; omega, by rw [form_long h2]; decide⟩
  cases hb : badAt l f with
  | none => exact .inl ⟨⟨by omega, badAt_fits hb⟩, by unfold formR; rw [if_neg h1, if_neg h2, hb]⟩
  | some k => exact .inr ⟨fun h => (by rw [badAt_none h.2] at hb; cases hb), by unfold formR; rw [if_neg h1, if_neg h2, hb]; simp⟩
theorem formR_lo (l f : List UInt8) : formR l f = (0, 0) ∨ formR l f = (2, 0) ∨ formR l f = (3, 0) ∨ ∃ k : Nat, k < l.length ∧ formR l f = (6, (k : Int)) := by
  by_cases h1 : l.length < f.length
  · exact .inr (.inl (form_short h1))
  by_cases h2 : f.length < l.length
  · exact .inr (.inr (.inl (form_long h2)))
  cases hb : badAt l f with
  | none => exact .inl (by unfold formR; rw [if_neg h1, if_neg h2, hb])
  | some k =>
    have : k ∈ List.range l.length := List.mem_of_find?_eq_some hb
    exact .inr (.inr (.inr ⟨k, List.mem_range.1 this, by unfold formR; rw [if_neg h1, if_neg h2, hb]⟩))

/-! ### the spread -/
def Sign (c : UInt8) : Prop := isDg c = true ∨ isCp c = true
theorem fit_sign {c p : UInt8} (h : fitB c p = true) : Sign c := by
  unfold fitB at h
  split at h
  · exact .inl h
  · split at h
    · exact .inr h
    · rcases Bool.or_eq_true_iff.1 h with h | h
      · exact .inl h
      · exact .inr h
theorem form_signs {l f : List UInt8} (h : Form l f) : ∀ c ∈ l, Sign c := by
  intro c hc
  obtain ⟨j, hj, rfl⟩ := List.getElem_of_mem hc
  have h2 := h.2 j hj
  rw [List.getD_eq_getElem?_getD, List.getElem?_eq_getElem hj] at h2
  exact fit_sign h2
def sprc (c : UInt8) : List Int := if isDg c = true then [(c.toNat : Int) - 48] else [((c.toNat : Int) - 55) / 10, ((c.toNat : Int) - 55) % 10]
def spr (l : List UInt8) : List Int := l.flatMap sprc
theorem spr_app (a b : List UInt8) : spr (a ++ b) = spr a ++ spr b := by simp [spr]
theorem sprc_d {c : UInt8} {x : Nat} (h : c.toNat = x) (h2 : 48 ≤ x ∧ x ≤ 57) : sprc c = [(x : Int) - 48] := by
  unfold sprc; rw [if_pos (by unfold isDg; rw [h]; simpa using h2), h]
theorem sprc_c {c : UInt8} {x : Nat} (h : c.toNat = x) (h2 : ¬ (48 ≤ x ∧ x ≤ 57)) : sprc c = [((x : Int) - 55) / 10, ((x : Int) - 55) % 10] := by
  unfold sprc; rw [if_neg (by unfold isDg; rw [h]; simpa using h2), h]
theorem sprc_dig {c : UInt8} (h : Sign c) : ∀ d ∈ sprc c, 0 ≤ d ∧ d ≤ 9 := by
  intro d hd
  unfold sprc at hd
  by_cases hc : isDg c = true
  · rw [if_pos hc] at hd
    unfold isDg at hc
    simp at hd hc; omega
  · rw [if_neg hc] at hd
    rcases h with h | h
    · exact absurd h hc
    · unfold isCp at h
      simp at hd h
      rcases hd with rfl | rfl
      · omega
      · omega
theorem spr_dig {l : List UInt8} (h : ∀ c ∈ l, Sign c) : ∀ d ∈ spr l, 0 ≤ d ∧ d ≤ 9 := by
  intro d hd
  obtain ⟨c, hc, hd⟩ := List.mem_flatMap.1 hd
  exact sprc_dig (h c hc) d hd
theorem sprc_len (c : UInt8) : 1 ≤ (sprc c).length ∧ (sprc c).length ≤ 2 := by unfold sprc; split <;> simp
theorem spr_len (l : List UInt8) : (spr l).length ≤ 2 * l.length := by
  induction l with
  | nil => simp [spr]
  | cons c t ih =>
    have := (sprc_len c).2
    have e : spr (c :: t) = sprc c ++ spr t := by simp [spr]
    rw [e, List.length_append, List.length_cons]; omega

/-! ### the Luhn sum -/
def dbl (d : Int) : Int := if 9 < 2 * d then 2 * d - 9 else 2 * d
def lsum : List Int → Int
  | [] => 0
  | d :: t => (if t.length % 2 = 1 then dbl d else d) + lsum t
theorem lsum_cons (d : Int) (t : List Int) : lsum (d :: t) = (if t.length % 2 = 1 then dbl d else d) + lsum t := rfl
theorem lsum_drop {l : List Int} {k : Nat} {d : Int} (h : l[k]? = some d) : lsum (l.drop k) = (if (l.length - k) % 2 = 0 then dbl d else d) + lsum (l.drop (k + 1)) := by
  have hk : k < l.length := (List.getElem?_eq_some_iff.1 h).1
  have e : l.drop k = d :: l.drop (k + 1) := by
    rw [List.drop_eq_getElem_cons hk, (List.getElem?_eq_some_iff.1 h).2]
  rw [e, lsum_cons, List.length_drop]
  by_cases hp : (l.length - k) % 2 = 0
  · rw [if_pos hp, if_pos (by omega)]
  · rw [if_neg hp, if_neg (by omega)]
theorem dbl_b {d : Int} (h : 0 ≤ d ∧ d ≤ 9) : 0 ≤ dbl d ∧ dbl d ≤ 9 := by unfold dbl; split <;> omega
theorem lsum_b {l : List Int} (h : ∀ d ∈ l, 0 ≤ d ∧ d ≤ 9) : 0 ≤ lsum l ∧ lsum l ≤ 9 * (l.length : Int) := by
  induction l with
  | nil => simp [lsum]
  | cons d t ih =>
    have h1 := ih (fun x hx => h x (List.mem_cons_of_mem _ hx))
    have h2 := h d (List.mem_cons_self ..)
    have h3 := dbl_b h2
    rw [lsum_cons, List.length_cons]
    split <;> omega
theorem lsum_mid (a b b' : List Int) (h : b.length = b'.length) : lsum (a ++ b) - lsum (a ++ b') = lsum b - lsum b' := by
  induction a with
  | nil => rfl
  | cons d t ih =>
    rw [List.cons_append, List.cons_append, lsum_cons, lsum_cons]
    rw [show (t ++ b).length = (t ++ b').length by simp [h]]
    omega
theorem lsum_last (a : List Int) (k : Int) : lsum (a ++ [k]) = lsum (a ++ [0]) + k := by
  have h := lsum_mid a [k] [0] rfl
  simp [lsum] at h; omega
/-- The check digit's number. -/
def chk (ds : List Int) : Int := (10 - lsum (ds ++ [0]) % 10) % 10
theorem chk_b (ds : List Int) : 0 ≤ chk ds ∧ chk ds ≤ 9 := by unfold chk; omega
theorem chk_iff (ds : List Int) {k : Int} (h0 : 0 ≤ k) (h1 : k ≤ 9) : lsum (ds ++ [k]) % 10 = 0 ↔ k = chk ds := by
  rw [lsum_last]; unfold chk; omega

/-! ### the remainder -/
def rm (l : List Int) : Int := l.foldl (fun r d => (r * 10 + d) % 97) 0
theorem rm_snoc {l : List Int} {k : Nat} {d : Int} (h : l[k]? = some d) : rm (l.take (k + 1)) = (rm (l.take k) * 10 + d) % 97 := by
  rw [List.take_add_one, h]; simp [rm]
theorem rm_b (l : List Int) : 0 ≤ rm l ∧ rm l ≤ 96 := by
  rcases List.eq_nil_or_concat l with rfl | ⟨t, d, rfl⟩
  · simp [rm]
  · simp [rm]; omega
def dv (l : List Int) : Int := l.foldl (fun r d => r * 10 + d) 0
theorem rm_dv (l : List Int) : rm l = dv l % 97 := by
  have h : ∀ (l : List Int) (a b : Int), a = b % 97 → l.foldl (fun r d => (r * 10 + d) % 97) a = l.foldl (fun r d => r * 10 + d) b % 97 := by
    intro l
    induction l with
    | nil => intro a b h; simpa using h
    | cons d t ih => intro a b h; exact ih _ _ (by show (a * 10 + d) % 97 = (b * 10 + d) % 97; omega)
  exact h l 0 0 (by omega)
theorem dv_app (a b : List Int) : dv (a ++ b) = dv a * 10 ^ b.length + dv b := by
  have h : ∀ (l : List Int) (x : Int), l.foldl (fun r d => r * 10 + d) x = x * 10 ^ l.length + l.foldl (fun r d => r * 10 + d) 0 := by
    intro l
    induction l with
    | nil => intro x; simp
    | cons d t ih =>
      intro x
      simp only [List.foldl_cons, List.length_cons]
      rw [ih (x * 10 + d), ih (0 * 10 + d), Int.pow_succ]
      simp only [Int.add_mul, Int.zero_mul, Int.zero_add]
      rw [Int.mul_assoc, Int.mul_comm 10, Int.add_assoc]
  unfold dv
  rw [List.foldl_append, h]
/-- The check digits' number. -/
def chk2 (ds : List Int) : Int := 98 - rm (ds ++ [0, 0])
theorem chk2_b (ds : List Int) : 2 ≤ chk2 ds ∧ chk2 ds ≤ 98 := by have := rm_b (ds ++ [0, 0]); unfold chk2; omega
end Go.Proofs.YtcdhblfefpkjgaaDoor.LC
namespace Go.Proofs.YtcdhblfefpkjgaaDoor.LC
open Go.RowKit

theorem ret_b {a b : Bool} (h : a = b) : Ending.returned (.bool a) = .returned (.bool b) := by rw [h]
theorem ret_v {a b : Value} (h : a = b) : Ending.returned a = .returned b := by rw [h]
theorem bytes_size (l : List UInt8) : (⟨l.toArray⟩ : ByteArray).size = l.length := by simp [ByteArray.size]
theorem bytes_app (a b : List UInt8) : (⟨a.toArray⟩ : ByteArray) ++ ⟨b.toArray⟩ = ⟨(a ++ b).toArray⟩ := by
  apply ByteArray.ext; simp
theorem isDg_yes {c : UInt8} {x : Nat} (h : c.toNat = x) (h1 : 48 ≤ x) (h2 : x ≤ 57) : isDg c = true := by unfold isDg; rw [h]; simp; omega
theorem isDg_no {c : UInt8} {x : Nat} (h : c.toNat = x) (h1 : x < 48 ∨ 57 < x) : isDg c = false := by unfold isDg; rw [h]; simp; omega
theorem isCp_yes {c : UInt8} {x : Nat} (h : c.toNat = x) (h1 : 65 ≤ x) (h2 : x ≤ 90) : isCp c = true := by unfold isCp; rw [h]; simp; omega
theorem isCp_no {c : UInt8} {x : Nat} (h : c.toNat = x) (h1 : x < 65 ∨ 90 < x) : isCp c = false := by unfold isCp; rw [h]; simp; omega

theorem fitB_d (c : UInt8) : fitB c 68 = isDg c := rfl
theorem fitB_c (c : UInt8) : fitB c 67 = isCp c := rfl
theorem fitB_s {c p : UInt8} (h1 : p ≠ 68) (h2 : p ≠ 67) : fitB c p = (isDg c || isCp c) := by unfold fitB; rw [if_neg h1, if_neg h2]
theorem u8_ne {p q : UInt8} (h : p ≠ q) : ((p.toNat : Int) == (q.toNat : Int)) = false := by
  have : p.toNat ≠ q.toNat := fun e => h (UInt8.toNat_inj.1 e)
  simp; omega


/-! ### the look at a whole text -/
/-- An error by its number and place. -/
def errF (r : Int × Int) : Value := if r.1 = 0 then .nilIface else if r.1 = 6 then .iface 80 (.agg #[.int .i64 6, .int .i64 0, .int .i64 r.2]) else .iface 57 (.int .i64 r.1)
theorem errF_ok : errF (0, 0) = .nilIface := rfl
theorem errF_no {n : Int} (h0 : n ≠ 0) (h6 : n ≠ 6) : errF (n, 0) = .iface 57 (.int .i64 n) := by unfold errF; rw [if_neg h0, if_neg h6]
theorem errF_at (k : Int) : errF (6, k) = .iface 80 (.agg #[.int .i64 6, .int .i64 0, .int .i64 k]) := rfl
theorem getD_at {l : List UInt8} {k : Nat} (h : k < l.length) : l.getD k 0 = l[k] := by rw [List.getD_eq_getElem?_getD, List.getElem?_eq_getElem h]; rfl
theorem ret_ii {a b c d : Int} (h : (a, b) = (c, d)) : Ending.returned (.tuple #[.int .i64 a, .int .i64 b]) = .returned (.tuple #[.int .i64 c, .int .i64 d]) := by cases h; rfl
end Go.Proofs.YtcdhblfefpkjgaaDoor.LC
