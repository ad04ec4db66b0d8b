/-
  My own text: the mathematics of parts: shares rounded down, what cash covers, the part that is taken, its money.
-/
import Derived.Test.YtmojckejjjlkjabRefMulDiv
namespace Go.Proofs.Ytmojckejjjlkjab
open Go.RowKit

/-- a n / q, rounded down. -/
def sh (a n q : Int) : Int := a * n / q
theorem sh_mono {a n m q : Int} (a0 : 0 ≤ a) (h : n ≤ m) (q0 : 0 < q) : sh a n q ≤ sh a m q := Int.ediv_le_ediv q0 (Int.mul_le_mul_of_nonneg_left h a0)
theorem sh_zero (a q : Int) : sh a 0 q = 0 := by unfold sh; rw [Int.mul_zero, Int.zero_ediv]
theorem sh_full {a q : Int} (q0 : 0 < q) : sh a q q = a := Int.mul_ediv_cancel a (by omega)
theorem sh_bnd {a n q : Int} (a0 : 0 ≤ a) (n0 : 0 ≤ n) (nq : n ≤ q) (q0 : 0 < q) : 0 ≤ sh a n q ∧ sh a n q ≤ a := by
  have h1 := sh_mono a0 n0 q0
  have h2 := sh_mono a0 nq q0
  rw [sh_zero] at h1
  rw [sh_full q0] at h2
  exact ⟨h1, h2⟩
theorem sh_lt {a n q t : Int} (q0 : 0 < q) : sh a n q < t ↔ a * n < t * q := Int.ediv_lt_iff_lt_mul q0
theorem md_down {a n q : Int} (a0 : 0 ≤ a) (a1 : a ≤ 9223372036854775807) (n0 : 0 ≤ n) (nq : n ≤ q) (q0 : 0 < q) : mdV a n q 0 = sh a n q := by
  have e : mdQ a n q 0 = sh a n q := mdQ_down (by unfold upB; rfl)
  have b := sh_bnd a0 n0 nq q0
  rw [(md_ok (by omega) (by rw [e]; omega)).1, e]
/-- x / c, rounded up. -/
def cl (x c : Int) : Int := if 0 < x % c then x / c + 1 else x / c
theorem cl_lt {x c n : Int} (c0 : 0 < c) : n < cl x c ↔ n * c < x := by
  have hx := Int.emod_add_mul_ediv x c
  have r0 := Int.emod_nonneg x (show c ≠ 0 by omega)
  have r1 := Int.emod_lt_of_pos x c0
  have hk : c * (x / c) = x / c * c := Int.mul_comm _ _
  unfold cl
  split
  · rename_i hr
    constructor
    · intro h
      have : n * c ≤ x / c * c := Int.mul_le_mul_of_nonneg_right (by omega) (by omega)
      omega
    · intro h
      refine Int.lt_of_not_ge fun g => ?_
      have g2 : (x / c + 1) * c ≤ n * c := Int.mul_le_mul_of_nonneg_right g (by omega)
      rw [Int.add_mul, Int.one_mul] at g2
      omega
  · rename_i hr
    constructor
    · intro h
      have : (n + 1) * c ≤ x / c * c := Int.mul_le_mul_of_nonneg_right (by omega) (by omega)
      rw [Int.add_mul, Int.one_mul] at this
      omega
    · intro h
      refine Int.lt_of_not_ge fun g => ?_
      have g2 : x / c * c ≤ n * c := Int.mul_le_mul_of_nonneg_right g (by omega)
      omega
theorem md_up {a n q : Int} (a0 : 0 ≤ a) (a1 : a ≤ 9223372036854775807) (n0 : 0 ≤ n) (nq : n ≤ q) (q0 : 0 < q) : mdV a n q 1 = cl (a * n) q := by
  have e : mdQ a n q 1 = cl (a * n) q := by
    unfold mdQ cl upB
    by_cases h : 0 < a * n % q
    · simp [h]
    · simp [h]
  have b : cl (a * n) q ≤ a := by
    refine Int.le_of_not_gt fun g => ?_
    have h := (cl_lt q0).1 g
    have : a * n ≤ a * q := Int.mul_le_mul_of_nonneg_left nq a0
    omega
  rw [(md_ok (by omega) (by rw [e]; omega)).1, e]
/-- The money of p behind D. -/
def mon (Q A D p : Int) : Int := sh A (D + p) Q - sh A D Q
theorem mon_zero (Q A D : Int) : mon Q A D 0 = 0 := by unfold mon; rw [Int.add_zero]; omega
theorem mon_mono {Q A D p r : Int} (Q0 : 0 < Q) (A0 : 0 ≤ A) (h : p ≤ r) : mon Q A D p ≤ mon Q A D r := by
  have := sh_mono (n := D + p) (m := D + r) A0 (by omega) Q0
  unfold mon; omega
theorem mon_left {Q A D : Int} (Q0 : 0 < Q) : mon Q A D (Q - D) = A - sh A D Q := by
  unfold mon; rw [show D + (Q - D) = Q by omega, sh_full Q0]
/-- The greatest quantity that cash covers. -/
def pay (Q A D cash : Int) : Int := if A - sh A D Q ≤ cash then Q - D else cl (Q * (sh A D Q + cash + 1)) A - 1 - D
theorem pay_iff {Q A D p cash : Int} (Q0 : 0 < Q) (A0 : 0 ≤ A) (D0 : 0 ≤ D) (hp : p ≤ Q - D) (c0 : 0 ≤ cash) (dq : D ≤ Q) : mon Q A D p ≤ cash ↔ p ≤ pay Q A D cash := by
  unfold pay
  split
  · rename_i h
    have h1 := mon_mono (D := D) Q0 A0 hp
    rw [mon_left Q0] at h1
    omega
  · rename_i h
    have b := sh_bnd A0 D0 dq Q0
    have hA : 0 < A := by omega
    have e : mon Q A D p ≤ cash ↔ sh A (D + p) Q < sh A D Q + cash + 1 := by unfold mon; omega
    rw [e, sh_lt Q0, Int.mul_comm A, Int.mul_comm _ Q, ← cl_lt hA]
    omega
theorem pay_bnd {Q A D cash : Int} (Q0 : 0 < Q) (A0 : 0 ≤ A) (D0 : 0 ≤ D) (dq : D ≤ Q) (c0 : 0 ≤ cash) : 0 ≤ pay Q A D cash ∧ pay Q A D cash ≤ Q - D := by
  refine ⟨(pay_iff Q0 A0 D0 (by omega) c0 dq).1 (by rw [mon_zero]; exact c0), ?_⟩
  by_cases h : A - sh A D Q ≤ cash
  · unfold pay; rw [if_pos h]; omega
  · have h2 : ¬ Q - D ≤ pay Q A D cash := fun q => h (by have := (pay_iff (p := Q - D) Q0 A0 D0 (by omega) c0 dq).2 q; rw [mon_left Q0] at this; exact this)
    omega
/-- The greatest part of what is left that is not above what there is. -/
def gr (left lot least have_ : Int) : Int := if left ≤ have_ then left else if have_ - have_ % lot < least then 0 else have_ - have_ % lot
theorem gr_bnd {left lot least h : Int} (l0 : 0 ≤ left) (h0 : 0 ≤ h) (lot0 : 0 < lot) : 0 ≤ gr left lot least h ∧ gr left lot least h ≤ left ∧ gr left lot least h ≤ h := by
  have r0 := Int.emod_nonneg h (show lot ≠ 0 by omega)
  have r1 : h % lot ≤ h := by
    have e := Int.emod_add_mul_ediv h lot
    have := Int.mul_nonneg (Int.le_of_lt lot0) (Int.ediv_nonneg h0 (Int.le_of_lt lot0))
    omega
  unfold gr
  split
  · omega
  · split <;> omega
/-- What is taken. -/
def tkQ (Q A L K D have_ cash : Int) : Int := if have_ < 1 ∨ cash < 0 then 0 else gr (Q - D) L K (min have_ (pay Q A D cash))
end Go.Proofs.Ytmojckejjjlkjab
