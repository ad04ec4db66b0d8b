/-
  My own text: plain mathematics: numerals, read.
-/
import Derived.Test.YthmbfdjbjljaiaaGreatDoorTextMath
namespace Go.Proofs.YthmbfdjbjljaiaaGreatDoor

def okc (c : UInt8) : Bool := c.toNat == 46 || (decide (48 ≤ c.toNat) && decide (c.toNat ≤ 57))
/-- digits, points, digits behind the point (as often as there are points ahead of them) -/
def step (t : Nat × Nat × Nat) (c : UInt8) : Nat × Nat × Nat := if c.toNat = 46 then (t.1, t.2.1 + 1, t.2.2) else (t.1 + 1, t.2.1, t.2.2 + t.2.1)
def stepR (t : Nat × Nat × Nat) (c : UInt8) : Nat × Nat × Nat := if c.toNat = 46 then (t.1, t.2.1 + 1, t.2.2) else (t.1 + 1, t.2.1, if 0 < t.2.1 then t.2.2 + 1 else t.2.2)
def st (l : List UInt8) : Nat × Nat × Nat := l.foldl step (0, 0, 0)
def stR (l : List UInt8) : Nat × Nat × Nat := l.foldl stepR (0, 0, 0)
theorem st_snoc (l : List UInt8) (c : UInt8) : st (l ++ [c]) = step (st l) c := by simp [st]
theorem stR_snoc (l : List UInt8) (c : UInt8) : stR (l ++ [c]) = stepR (stR l) c := by simp [stR]
theorem fold_mono : ∀ (l : List UInt8) (t : Nat × Nat × Nat), t.2.1 ≤ (l.foldl step t).2.1
  | [], t => Nat.le_refl _
  | c :: l, t => by
    have h := fold_mono l (step t c)
    have h2 : t.2.1 ≤ (step t c).2.1 := by unfold step; split <;> simp
    exact Nat.le_trans h2 h
theorem fold_same : ∀ (l : List UInt8) (t u : Nat × Nat × Nat), t.1 = u.1 → t.2.1 = u.2.1 → (t.2.1 ≤ 1 → t.2.2 = u.2.2) →
    (l.foldl step t).1 = (l.foldl stepR u).1 ∧ (l.foldl step t).2.1 = (l.foldl stepR u).2.1 ∧ ((l.foldl step t).2.1 ≤ 1 → (l.foldl step t).2.2 = (l.foldl stepR u).2.2)
  | [], t, u, h1, h2, h3 => ⟨h1, h2, h3⟩
  | c :: l, t, u, h1, h2, h3 => by
    simp only [List.foldl_cons]
    refine fold_same l (step t c) (stepR u c) ?_ ?_ ?_
    · unfold step stepR; split <;> simp [h1]
    · unfold step stepR; split <;> simp [h2]
    · unfold step stepR
      split
      · simp only; intro h; exact h3 (by omega)
      · simp only; intro h
        have := h3 h
        split <;> omega
theorem st_stR (l : List UInt8) : (st l).1 = (stR l).1 ∧ (st l).2.1 = (stR l).2.1 ∧ ((st l).2.1 ≤ 1 → (st l).2.2 = (stR l).2.2) := fold_same l _ _ rfl rfl (fun _ => rfl)
def isNum (l : List UInt8) : Bool := l.all okc && decide (0 < (st l).1) && decide ((st l).2.1 ≤ 1)
/-- The digits of a text, as numbers. -/
def digs (l : List UInt8) : List Int := (l.filter fun c => c.toNat != 46).map fun c => (c.toNat : Int) - 48
theorem digs_point {l : List UInt8} {c : UInt8} (h : c.toNat = 46) : digs (l ++ [c]) = digs l := by simp [digs, h]
theorem digs_digit {l : List UInt8} {c : UInt8} (h : c.toNat ≠ 46) : digs (l ++ [c]) = digs l ++ [(c.toNat : Int) - 48] := by
  unfold digs; rw [List.filter_append]; simp [h]
theorem digs_app (l m : List UInt8) : digs (l ++ m) = digs l ++ digs m := by simp [digs]
/-- digits read one by one; none: above the greatest amount -/
def rd (n : Int) : List Int → Option Int
  | [] => some n
  | d :: ds => if (9223372036854775807 - d) / 10 < n then none else rd (n * 10 + d) ds
theorem rd_app (n : Int) (a b : List Int) : rd n (a ++ b) = (rd n a).bind fun m => rd m b := by
  induction a generalizing n with
  | nil => rfl
  | cons d ds ih =>
    simp only [List.cons_append, rd]
    split
    · rfl
    · exact ih _
theorem rd_snoc {n m d : Int} {a : List Int} (h : rd n a = some m) : rd n (a ++ [d]) = if (9223372036854775807 - d) / 10 < m then none else some (m * 10 + d) := by
  rw [rd_app, h]; simp [rd]
theorem rd_none {n : Int} {a b : List Int} (h : rd n a = none) : rd n (a ++ b) = none := by rw [rd_app, h]; rfl
/-- A numeral with s digits behind its point. -/
def prs (l : List UInt8) (s : Nat) : Option Int := rd 0 (digs l ++ List.replicate (s - (st l).2.2) 0)
def pV (l : List UInt8) (s : Int) : Int := if s < 0 ∨ 18 < s then 0 else if isNum l = false then 0 else if s < ((st l).2.2 : Int) then 0 else (prs l s.toNat).getD 0
def pE (l : List UInt8) (s : Int) : Int := if s < 0 ∨ 18 < s then 1 else if isNum l = false then 6 else if s < ((st l).2.2 : Int) then 3 else if (prs l s.toNat).isNone then 9 else 0
theorem pE_lo (l : List UInt8) (s : Int) : 0 ≤ pE l s ∧ pE l s ≤ 24 := by
  unfold pE; split; omega; split; omega; split; omega; split <;> omega
theorem p_arg {l : List UInt8} {s : Int} (h : s < 0 ∨ 18 < s) : pV l s = 0 ∧ pE l s = 1 := by unfold pV pE; rw [if_pos h, if_pos h]; exact ⟨rfl, rfl⟩
theorem p_text {l : List UInt8} {s : Int} (h : ¬ (s < 0 ∨ 18 < s)) (h2 : isNum l = false) : pV l s = 0 ∧ pE l s = 6 := by unfold pV pE; rw [if_neg h, if_neg h, if_pos h2, if_pos h2]; exact ⟨rfl, rfl⟩
theorem p_long {l : List UInt8} {s : Int} (h : ¬ (s < 0 ∨ 18 < s)) (h2 : isNum l = true) (h3 : s < ((st l).2.2 : Int)) : pV l s = 0 ∧ pE l s = 3 := by
  have hm : ¬ isNum l = false := by rw [h2]; decide
  unfold pV pE; rw [if_neg h, if_neg h, if_neg hm, if_neg hm, if_pos h3, if_pos h3]; exact ⟨rfl, rfl⟩
theorem p_over {l : List UInt8} {s : Nat} (h : s ≤ 18) (h2 : isNum l = true) (h3 : (st l).2.2 ≤ s) (h4 : prs l s = none) : pV l s = 0 ∧ pE l s = 9 := by
  have hn : ¬ ((s : Int) < 0 ∨ (18 : Int) < s) := by omega
  have hm : ¬ isNum l = false := by rw [h2]; decide
  have h5 : ¬ (s : Int) < ((st l).2.2 : Int) := by omega
  unfold pV pE; rw [if_neg hn, if_neg hn, if_neg hm, if_neg hm, if_neg h5, if_neg h5, Int.toNat_natCast, h4]; exact ⟨rfl, rfl⟩
theorem p_ok {l : List UInt8} {s : Nat} {n : Int} (h : s ≤ 18) (h2 : isNum l = true) (h3 : (st l).2.2 ≤ s) (h4 : prs l s = some n) : pV l s = n ∧ pE l s = 0 := by
  have hn : ¬ ((s : Int) < 0 ∨ (18 : Int) < s) := by omega
  have hm : ¬ isNum l = false := by rw [h2]; decide
  have h5 : ¬ (s : Int) < ((st l).2.2 : Int) := by omega
  unfold pV pE; rw [if_neg hn, if_neg hn, if_neg hm, if_neg hm, if_neg h5, if_neg h5, Int.toNat_natCast, h4]; exact ⟨rfl, rfl⟩
theorem rep_snoc (k : Nat) : List.replicate (k + 1) (0 : Int) = List.replicate k 0 ++ [0] := List.replicate_succ'
theorem digs_zeros (k : Nat) : digs (List.replicate k 48) = List.replicate k 0 := by
  unfold digs; rw [List.filter_replicate]; simp
theorem take_snoc_b {l : List UInt8} {k : Nat} (h : k < l.length) : l.take (k + 1) = l.take k ++ [l[k]] := List.take_succ_eq_append_getElem h
end Go.Proofs.YthmbfdjbjljaiaaGreatDoor
