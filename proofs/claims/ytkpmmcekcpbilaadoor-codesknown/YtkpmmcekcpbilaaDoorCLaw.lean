/-
  My own text: what the sums see: one sign that is wrong, two neighbours that have changed places: plain facts.
-/
import Derived.Test.YtkpmmcekcpbilaaDoorCMath
namespace Go.Proofs.YtkpmmcekcpbilaaDoor

theorem spr_cons (x : UInt8) (b : List UInt8) : spr (x :: b) = sprc x ++ spr b := by simp [spr]
theorem dg_bounds {x : UInt8} (h : isDg x = true) : 48 ≤ x.toNat ∧ x.toNat ≤ 57 := by unfold isDg at h; simpa using h
theorem cp_bounds {x : UInt8} (h : isCp x = true) : 65 ≤ x.toNat ∧ x.toNat ≤ 90 := by unfold isCp at h; simpa using h
theorem sprc_dg {x : UInt8} (h : isDg x = true) : sprc x = [(x.toNat : Int) - 48] := sprc_d rfl (dg_bounds h)
theorem ne_nat {x y : UInt8} (h : x ≠ y) : x.toNat ≠ y.toNat := fun e => h (UInt8.toNat_inj.1 e)

theorem luhn_slip {a b : List UInt8} {x y : UInt8} (dx : isDg x = true) (dy : isDg y = true) (h : x ≠ y) (h0 : lsum (spr (a ++ x :: b)) % 10 = 0) : lsum (spr (a ++ y :: b)) % 10 ≠ 0 := by
  have hx := dg_bounds dx
  have hy := dg_bounds dy
  have hn := ne_nat h
  rw [spr_app, spr_cons, sprc_dg dx] at h0
  rw [spr_app, spr_cons, sprc_dg dy]
  have hm := lsum_mid (spr a) ([(x.toNat : Int) - 48] ++ spr b) ([(y.toNat : Int) - 48] ++ spr b) (by simp)
  simp only [List.singleton_append, lsum_cons] at hm h0 ⊢
  unfold dbl at hm
  split at hm
  · split at hm <;> split at hm <;> omega
  · omega
theorem luhn_swap {a b : List UInt8} {x y : UInt8} (dx : isDg x = true) (dy : isDg y = true) (h : x ≠ y) (h09 : ¬ (x.toNat = 48 ∧ y.toNat = 57)) (h90 : ¬ (x.toNat = 57 ∧ y.toNat = 48))
    (h0 : lsum (spr (a ++ x :: y :: b)) % 10 = 0) : lsum (spr (a ++ y :: x :: b)) % 10 ≠ 0 := by
  have hx := dg_bounds dx
  have hy := dg_bounds dy
  have hn := ne_nat h
  rw [spr_app, spr_cons, spr_cons, sprc_dg dx, sprc_dg dy] at h0
  rw [spr_app, spr_cons, spr_cons, sprc_dg dx, sprc_dg dy]
  have hm := lsum_mid (spr a) ([(x.toNat : Int) - 48] ++ ([(y.toNat : Int) - 48] ++ spr b)) ([(y.toNat : Int) - 48] ++ ([(x.toNat : Int) - 48] ++ spr b)) (by simp)
  simp only [List.singleton_append, lsum_cons, List.length_cons] at hm h0 ⊢
  unfold dbl at hm
  by_cases hp : (spr b).length % 2 = 1
  · have hq : ¬ ((spr b).length + 1) % 2 = 1 := by omega
    simp only [if_neg hq, if_pos hp] at hm
    split at hm <;> split at hm <;> omega
  · have hq : ((spr b).length + 1) % 2 = 1 := by omega
    simp only [if_pos hq, if_neg hp] at hm
    split at hm <;> split at hm <;> omega

/-! ### the remainder -/
def val (x : UInt8) : Int := if isDg x = true then (x.toNat : Int) - 48 else (x.toNat : Int) - 55
theorem dv_sprc (x : UInt8) : dv (sprc x) = val x := by
  unfold sprc val dv
  split
  · simp
  · simp; omega
theorem pow97 (z : Int) (n : Nat) (h : z * 10 ^ n % 97 = 0) : z % 97 = 0 := by
  induction n with
  | zero => simpa using h
  | succ n ih =>
    refine ih ?_
    rw [Int.pow_succ, ← Int.mul_assoc] at h
    omega
/-- of one sort -/
def Like (x y : UInt8) : Prop := (isDg x = true ∧ isDg y = true) ∨ (isCp x = true ∧ isCp y = true)
theorem cp_not_dg {x : UInt8} (h : isCp x = true) : ¬ isDg x = true := by
  intro h2; have := cp_bounds h; have := dg_bounds h2; omega
theorem like_val {x y : UInt8} (h : Like x y) (hne : x ≠ y) : (sprc x).length = (sprc y).length ∧ val x ≠ val y ∧ -25 ≤ val x - val y ∧ val x - val y ≤ 25 := by
  have hn := ne_nat hne
  rcases h with ⟨h1, h2⟩ | ⟨h1, h2⟩
  · have := dg_bounds h1; have := dg_bounds h2
    unfold sprc val; simp only [if_pos h1, if_pos h2]
    refine ⟨rfl, ?_, ?_, ?_⟩ <;> omega
  · have := cp_bounds h1; have := cp_bounds h2
    unfold sprc val; simp only [if_neg (cp_not_dg h1), if_neg (cp_not_dg h2)]
    refine ⟨rfl, ?_, ?_, ?_⟩ <;> omega
theorem dv_at (a b : List UInt8) (x : UInt8) : dv (spr (a ++ x :: b)) = dv (spr a) * 10 ^ ((sprc x).length + (spr b).length) + val x * 10 ^ (spr b).length + dv (spr b) := by
  rw [spr_app, spr_cons, dv_app, dv_app, dv_sprc, List.length_append]; omega
theorem mod97_slip {a b : List UInt8} {x y : UInt8} (h : Like x y) (hne : x ≠ y) (h0 : rm (spr (a ++ x :: b)) = 1) : rm (spr (a ++ y :: b)) ≠ 1 := by
  intro h1
  obtain ⟨e, hv, lo, hi⟩ := like_val h hne
  rw [rm_dv, dv_at] at h0 h1
  rw [← e] at h1
  generalize dv (spr a) * 10 ^ ((sprc x).length + (spr b).length) = A at h0 h1
  have h2 : (val x - val y) * 10 ^ (spr b).length % 97 = 0 := by rw [Int.sub_mul]; omega
  have := pow97 _ _ h2
  omega
theorem swap1 (A X Y B : Int) (h0 : (A + 10 ^ 1 * X + (Y + B)) % 97 = 1) (h1 : (A + 10 ^ 1 * Y + (X + B)) % 97 = 1) : (X - Y) % 97 = 0 := by
  rw [show (10 : Int) ^ 1 = 10 from rfl] at h0 h1; omega
theorem swap2 (A X Y B : Int) (h0 : (A + 10 ^ 2 * X + (Y + B)) % 97 = 1) (h1 : (A + 10 ^ 2 * Y + (X + B)) % 97 = 1) : (X - Y) % 97 = 0 := by
  rw [show (10 : Int) ^ 2 = 100 from rfl] at h0 h1; omega
theorem mod97_swap {a b : List UInt8} {x y : UInt8} (h : Like x y) (hne : x ≠ y) (h0 : rm (spr (a ++ x :: y :: b)) = 1) : rm (spr (a ++ y :: x :: b)) ≠ 1 := by
  intro h1
  obtain ⟨e, hv, lo, hi⟩ := like_val h hne
  rw [rm_dv, dv_at, spr_cons, List.length_append, dv_app, dv_sprc] at h0 h1
  rw [← e] at h0 h1
  generalize dv (spr a) * 10 ^ ((sprc x).length + ((sprc x).length + (spr b).length)) = A at h0 h1
  have hs : (sprc x).length = 1 ∨ (sprc x).length = 2 := by have := sprc_len x; omega
  have hz : (val x - val y) * 10 ^ (spr b).length % 97 = 0 := by
    rw [Int.sub_mul]
    rw [Int.pow_add, Int.mul_left_comm] at h0 h1
    generalize val x * 10 ^ (spr b).length = X at h0 h1 ⊢
    generalize val y * 10 ^ (spr b).length = Y at h0 h1 ⊢
    rcases hs with hs | hs
    · rw [hs] at h0 h1; exact swap1 A X Y _ h0 h1
    · rw [hs] at h0 h1; exact swap2 A X Y _ h0 h1
  have := pow97 _ _ hz
  omega
/-- The check digits as signs. -/
def two (ds : List Int) : List UInt8 := [UInt8.ofNat (48 + chk2 ds / 10).toNat, UInt8.ofNat (48 + chk2 ds % 10).toNat]
theorem two_nat (ds : List Int) : (UInt8.ofNat (48 + chk2 ds / 10).toNat).toNat = (48 + chk2 ds / 10).toNat ∧ (UInt8.ofNat (48 + chk2 ds % 10).toNat).toNat = (48 + chk2 ds % 10).toNat := by
  have := chk2_b ds
  constructor <;> (rw [UInt8.toNat_ofNat']; omega)
theorem two_dg (ds : List Int) : ∀ c ∈ two ds, isDg c = true := by
  intro c hc
  have h := two_nat ds
  have := chk2_b ds
  unfold two at hc
  simp only [List.mem_cons, List.not_mem_nil, or_false] at hc
  unfold isDg
  rcases hc with rfl | rfl
  · rw [h.1]; simp; omega
  · rw [h.2]; simp; omega
theorem taken_one (h : List UInt8) : rm (spr (h ++ two (spr h))) = 1 := by
  have hb := chk2_b (spr h)
  have h2 := two_nat (spr h)
  have e : spr (two (spr h)) = [chk2 (spr h) / 10, chk2 (spr h) % 10] := by
    unfold two
    rw [spr_cons, spr_cons, sprc_dg (two_dg (spr h) _ (by simp [two])), sprc_dg (two_dg (spr h) _ (by simp [two])), h2.1, h2.2]
    rw [show spr [] = [] from rfl]
    simp only [List.append_nil, List.singleton_append]
    congr 1
    · omega
    · congr 1; omega
  rw [spr_app, e, rm_dv, dv_app]
  have h3 : chk2 (spr h) = 98 - rm (spr h ++ [0, 0]) := rfl
  rw [rm_dv, dv_app] at h3
  have h4 : dv [chk2 (spr h) / 10, chk2 (spr h) % 10] = chk2 (spr h) := by simp [dv]; omega
  rw [h4]
  simp [dv] at h3 ⊢
  omega
end Go.Proofs.YtkpmmcekcpbilaaDoor
