/-
  My own text: plain mathematics: what is written is read back.
-/
import Derived.Test.YtialddjadkkkkabDoorParseMath
namespace Go.Proofs.YtialddjadkkkkabDoor
open Go.Lib (decDigits nDigits lt_pow_nDigits nDigits_pos)

theorem dig_toNat {d : Nat} (h : d < 10) : (UInt8.ofNat (48 + d)).toNat = 48 + d := by
  simp; omega
theorem dgs_dig : ∀ (k m : Nat) (c : UInt8), c ∈ dgs m k → 48 ≤ c.toNat ∧ c.toNat ≤ 57
  | 0, m, c, h => by simp [dgs] at h
  | k + 1, m, c, h => by
    rw [dgs, List.mem_append] at h
    rcases h with h | h
    · exact dgs_dig k _ c h
    · simp only [List.mem_singleton] at h
      subst h
      rw [dig_toNat (Nat.mod_lt _ (by omega))]
      have := Nat.mod_lt m (show 0 < 10 by omega)
      omega
theorem fold_digits : ∀ (l : List UInt8) (d p b : Nat), (∀ c ∈ l, c.toNat ≠ 46) → l.foldl step (d, p, b) = (d + l.length, p, b + l.length * p)
  | [], d, p, b, _ => by simp
  | c :: l, d, p, b, h => by
    rw [List.foldl_cons, show step (d, p, b) c = (d + 1, p, b + p) from if_neg (h c (by simp)), fold_digits l _ _ _ (fun x hx => h x (by simp [hx]))]
    simp only [List.length_cons, Prod.mk.injEq, true_and]
    refine ⟨by omega, ?_⟩
    rw [Nat.add_mul, Nat.one_mul]; omega
theorem fold_shift : ∀ (l : List UInt8) (d p b : Nat), l.foldl step (d + 1, p, b) = ((l.foldl step (d, p, b)).1 + 1, (l.foldl step (d, p, b)).2.1, (l.foldl step (d, p, b)).2.2)
  | [], d, p, b => rfl
  | c :: l, d, p, b => by
    by_cases h : c.toNat = 46
    · rw [List.foldl_cons, List.foldl_cons, show step (d + 1, p, b) c = (d + 1, p + 1, b) from if_pos h, show step (d, p, b) c = (d, p + 1, b) from if_pos h]; exact fold_shift l _ _ _
    · rw [List.foldl_cons, List.foldl_cons, show step (d + 1, p, b) c = (d + 1 + 1, p, b + p) from if_neg h, show step (d, p, b) c = (d + 1, p, b + p) from if_neg h]; exact fold_shift l _ _ _
/-- digits as numbers -/
def vals (l : List UInt8) : List Int := l.map fun c => (c.toNat : Int) - 48
theorem digs_vals {l : List UInt8} (h : ∀ c ∈ l, c.toNat ≠ 46) : digs l = vals l := by
  unfold digs vals; rw [List.filter_eq_self.2 (fun c hc => by simpa using h c hc)]
theorem rd_dgs : ∀ (k m : Nat), m % 10 ^ k ≤ 9223372036854775807 → rd 0 (vals (dgs m k)) = some ((m % 10 ^ k : Nat) : Int)
  | 0, m, _ => by simp [dgs, vals, rd, Nat.mod_one]
  | k + 1, m, h => by
    have e : m % 10 ^ (k + 1) = m / 10 % 10 ^ k * 10 + m % 10 := by
      rw [Nat.pow_succ, Nat.mul_comm (10 ^ k) 10, Nat.mod_mul]; omega
    have hp := rd_dgs k (m / 10) (by omega)
    have hv : vals (dgs m (k + 1)) = vals (dgs (m / 10) k) ++ [((m % 10 : Nat) : Int)] := by
      rw [dgs]; unfold vals; rw [List.map_append]
      simp only [List.map_cons, List.map_nil]
      rw [dig_toNat (Nat.mod_lt _ (by omega))]
      congr 2; omega
    rw [hv, rd_snoc hp, if_neg (by omega), e]
    congr 1
theorem fmt_shape (n s : Nat) : ∃ a, 1 ≤ a ∧ n < 10 ^ (a + s) ∧ fmtL n s = dgs (n / 10 ^ s) a ++ (if s = 0 then [] else 46 :: dgs (n % 10 ^ s) s) := by
  refine ⟨nDigits (n / 10 ^ s), nDigits_pos _, ?_, ?_⟩
  · have h := lt_pow_nDigits (n / 10 ^ s)
    rw [Nat.pow_add]
    exact Nat.lt_mul_of_div_lt h (Nat.pow_pos (by omega))
  · unfold fmtL
    by_cases h : s = 0
    · subst h; rw [if_pos rfl, if_pos rfl, dec_dgs, Nat.pow_zero, Nat.div_one, List.append_nil]
    · rw [if_neg h, if_neg h, dec_dgs]
theorem ne46 {l : List UInt8} (h : ∀ c ∈ l, 48 ≤ c.toNat ∧ c.toNat ≤ 57) : ∀ c ∈ l, c.toNat ≠ 46 := fun c hc => by have := h c hc; omega
theorem ok_dig {c : UInt8} (h : 48 ≤ c.toNat ∧ c.toNat ≤ 57) : okc c = true := by unfold okc; simp; omega
/-- What is written is a numeral, of so many digits behind the point, and is read back. -/
theorem fmt_back (n s : Nat) (hn : n ≤ 9223372036854775807) : isNum (fmtL n s) = true ∧ (st (fmtL n s)).2.2 = s ∧ prs (fmtL n s) s = some (n : Int) ∧ s + 1 ≤ (fmtL n s).length := by
  obtain ⟨a, ha, hlt, hf⟩ := fmt_shape n s
  have d1 := dgs_dig a (n / 10 ^ s)
  have d2 := dgs_dig s (n % 10 ^ s)
  have n1 := ne46 d1
  have n2 := ne46 d2
  have hv : digs (fmtL n s) = vals (dgs n (a + s)) := by
    rw [hf, digs_app, digs_vals n1, dgs_split]
    by_cases h : s = 0
    · subst h; rw [if_pos rfl]; simp [digs, vals, dgs]
    · rw [if_neg h]
      have e : digs (46 :: dgs (n % 10 ^ s) s) = digs (dgs (n % 10 ^ s) s) := by unfold digs; rw [List.filter_cons_of_neg (by decide)]
      rw [e, digs_vals n2]; unfold vals; rw [List.map_append]
  have hst : st (fmtL n s) = (a + s, if s = 0 then 0 else 1, s) := by
    rw [hf]; unfold st; rw [List.foldl_append, fold_digits _ _ _ _ n1, dgs_len]
    by_cases h : s = 0
    · subst h; simp
    · rw [if_neg h, if_neg h, List.foldl_cons, show step (0 + a, 0, 0 + a * 0) 46 = (0 + a, 0 + 1, 0 + a * 0) from if_pos rfl, fold_digits _ _ _ _ n2, dgs_len]; simp
  refine ⟨?_, by rw [hst], ?_, ?_⟩
  · unfold isNum
    have hall : (fmtL n s).all okc = true := by
      rw [hf, List.all_append, Bool.and_eq_true]
      refine ⟨List.all_eq_true.2 fun c hc => ok_dig (d1 c hc), ?_⟩
      by_cases h : s = 0
      · rw [if_pos h]; rfl
      · rw [if_neg h, List.all_cons, Bool.and_eq_true]
        exact ⟨rfl, List.all_eq_true.2 fun c hc => ok_dig (d2 c hc)⟩
    rw [hall, hst]
    by_cases h : s = 0 <;> simp [h] <;> omega
  · unfold prs
    rw [hst, hv]
    simp only [Nat.sub_self, List.replicate_zero, List.append_nil]
    rw [rd_dgs _ _ (by rw [Nat.mod_eq_of_lt hlt]; exact hn), Nat.mod_eq_of_lt hlt]
  · rw [hf, List.length_append, dgs_len]
    by_cases h : s = 0
    · subst h; simp; omega
    · rw [if_neg h, List.length_cons, dgs_len]; omega
theorem st_cons0 (l : List UInt8) : st (48 :: l) = ((st l).1 + 1, (st l).2.1, (st l).2.2) := by
  unfold st; rw [List.foldl_cons, show step (0, 0, 0) 48 = (0 + 1, 0, 0 + 0) from if_neg (by decide)]; exact fold_shift l 0 0 0
theorem digs_cons0 (l : List UInt8) : digs (48 :: l) = 0 :: digs l := by unfold digs; rw [List.filter_cons_of_pos (by decide)]; rfl
/-- A 0 ahead changes nothing. -/
theorem p_cons0 {l : List UInt8} {s : Int} (h : pE l s = 0) : pV (48 :: l) s = pV l s ∧ pE (48 :: l) s = 0 := by
  have hs : ¬ (s < 0 ∨ 18 < s) := by intro hc; rw [(p_arg (l := l) hc).2] at h; cases h
  cases hn : isNum l
  · rw [(p_text hs hn).2] at h; cases h
  · have hn2 : isNum (48 :: l) = true := by
      unfold isNum at hn ⊢
      rw [st_cons0]
      simp at hn ⊢
      exact ⟨⟨by decide, hn.1.1⟩, hn.2⟩
    have hr : ∀ k, prs (48 :: l) k = prs l k := fun k => by
      unfold prs; rw [st_cons0, digs_cons0, List.cons_append, rd, if_neg (by omega)]; rfl
    have e1 : pV (48 :: l) s = pV l s := by unfold pV; rw [hn, hn2, st_cons0, hr]
    have e2 : pE (48 :: l) s = pE l s := by unfold pE; rw [hn, hn2, st_cons0, hr]
    exact ⟨e1, e2.trans h⟩
/-- A 0 behind, where there is a point. -/
theorem p_snoc0 {l : List UInt8} {s : Int} (h : pE l s = 0) (hp : (st l).2.1 = 1) :
    (pV (l ++ [48]) s = pV l s ∧ pE (l ++ [48]) s = 0) ∨ pE (l ++ [48]) s = 3 := by
  have hs : ¬ (s < 0 ∨ 18 < s) := by intro hc; rw [(p_arg (l := l) hc).2] at h; cases h
  cases hn : isNum l
  · rw [(p_text hs hn).2] at h; cases h
  · have hst : st (l ++ [48]) = ((st l).1 + 1, (st l).2.1, (st l).2.2 + 1) := by
      rw [st_snoc, show step (st l) 48 = ((st l).1 + 1, (st l).2.1, (st l).2.2 + (st l).2.1) from if_neg (by decide), hp]
    have hn2 : isNum (l ++ [48]) = true := by
      unfold isNum at hn ⊢
      rw [hst]
      simp at hn ⊢
      exact ⟨⟨hn.1.1, by decide⟩, hn.2⟩
    by_cases hlong : s < ((st l).2.2 : Int)
    · rw [(p_long hs hn hlong).2] at h; cases h
    by_cases hl2 : s < (((st l).2.2 + 1 : Nat) : Int)
    · right; exact (p_long hs hn2 (by rw [hst]; exact hl2)).2
    · left
      have hr : prs (l ++ [48]) s.toNat = prs l s.toNat := by
        unfold prs
        rw [hst, digs_app, show digs [48] = [0] from rfl, List.append_assoc]
        congr 2
        show (0 : Int) :: List.replicate _ 0 = _
        rw [← List.replicate_succ]
        congr 1
        show s.toNat - ((st l).2.2 + 1) + 1 = _
        omega
      have h5 : ¬ s < ((st (l ++ [48])).2.2 : Int) := by rw [hst]; exact hl2
      have m1 : ¬ isNum l = false := by rw [hn]; decide
      have m2 : ¬ isNum (l ++ [48]) = false := by rw [hn2]; decide
      have v1 : pV (l ++ [48]) s = (prs (l ++ [48]) s.toNat).getD 0 := by unfold pV; rw [if_neg hs, if_neg m2, if_neg h5]
      have v2 : pV l s = (prs l s.toNat).getD 0 := by unfold pV; rw [if_neg hs, if_neg m1, if_neg hlong]
      have w1 : pE (l ++ [48]) s = if (prs (l ++ [48]) s.toNat).isNone then 9 else 0 := by unfold pE; rw [if_neg hs, if_neg m2, if_neg h5]
      have w2 : pE l s = if (prs l s.toNat).isNone then 9 else 0 := by unfold pE; rw [if_neg hs, if_neg m1, if_neg hlong]
      exact ⟨by rw [v1, v2, hr], by rw [w1, hr, ← w2]; exact h⟩
theorem rd_nn : ∀ (ds : List Int) (n m : Int), 0 ≤ n → (∀ d ∈ ds, 0 ≤ d) → rd n ds = some m → 0 ≤ m ∧ (ds = [] ∨ m ≤ 9223372036854775807)
  | [], n, m, hn, _, h => by simp [rd] at h; exact ⟨by omega, .inl rfl⟩
  | d :: ds, n, m, hn, hd, h => by
    have h0 := hd d (by simp)
    rw [rd] at h
    split at h
    · cases h
    · have := rd_nn ds (n * 10 + d) m (by omega) (fun x hx => hd x (by simp [hx])) h
      refine ⟨this.1, .inr ?_⟩
      rcases this.2 with h2 | h2
      · subst h2; simp [rd] at h; omega
      · exact h2
theorem pV_nn (l : List UInt8) (s : Int) (h : pE l s = 0) : 0 ≤ pV l s ∧ pV l s ≤ 9223372036854775807 := by
  have hs : ¬ (s < 0 ∨ 18 < s) := by intro hc; rw [(p_arg (l := l) hc).2] at h; cases h
  cases hn : isNum l
  · rw [(p_text hs hn).2] at h; cases h
  · by_cases hlong : s < ((st l).2.2 : Int)
    · rw [(p_long hs hn hlong).2] at h; cases h
    have hp : prs l s.toNat ≠ none := by
      intro hc
      unfold pE at h
      rw [if_neg hs, if_neg (show ¬ isNum l = false by rw [hn]; decide), if_neg hlong, hc] at h
      cases h
    cases hq : prs l s.toNat with
    | none => exact absurd hq hp
    | some m =>
      have hv : pV l s = m := by
        unfold pV; rw [if_neg hs, if_neg (show ¬ isNum l = false by rw [hn]; decide), if_neg hlong, hq]; rfl
      rw [hv]
      have hall : ∀ c ∈ l, okc c = true := List.all_eq_true.1 (by unfold isNum at hn; simp at hn; simpa using hn.1.1)
      have hnn : ∀ d ∈ digs l ++ List.replicate (s.toNat - (st l).2.2) 0, 0 ≤ d := by
        intro d hd
        rcases List.mem_append.1 hd with h1 | h1
        · unfold digs at h1
          obtain ⟨c, hc, rfl⟩ := List.mem_map.1 h1
          obtain ⟨hc1, hc2⟩ := List.mem_filter.1 hc
          have := hall c hc1
          unfold okc at this
          simp at this hc2
          omega
        · rw [List.eq_of_mem_replicate h1]; omega
      have := rd_nn _ 0 m (by omega) hnn hq
      refine ⟨this.1, ?_⟩
      rcases this.2 with h2 | h2
      · unfold prs at hq; rw [h2] at hq; simp [rd] at hq; omega
      · exact h2
end Go.Proofs.YtialddjadkkkkabDoor
