/-
  My own text: products over a divisor, rounded: of the program, and of the document's answer.
-/
import Derived.Test.YtmojckejjjlkjabDiv
import Derived.Test.YtmojckejjjlkjabOver
import Derived.Test.YtmojckejjjlkjabRow
namespace Go.Proofs.Ytmojckejjjlkjab
open Go.RowKit

theorem div64_any (hi lo y N : Int) (w : World) (h0 : 0 ≤ hi) (h1 : hi < y) (l0 : 0 ≤ lo) (l1 : lo < 18446744073709551616) (y1 : y < 9223372036854775808) (hN : Hid (N = hi * 18446744073709551616 + lo)) :
    Calls Try.prog 22 #[.int .u64 hi, .int .u64 lo, .int .u64 y] w fun e w' => e = .returned (.tuple #[.int .u64 (N / y), .int .u64 (N % y)]) ∧ Below w.heap.size w w' := by
  by_cases h : hi = 0
  · subst h
    have e : N = lo := by have := hN.out; omega
    subst e
    exact div64_zero N y w l0 l1 (by omega) y1
  · rw [hN.out]
    exact div64_big hi lo y w (by omega) h1 l0 l1 y1

/-- Is a quotient q with the rest r over c rounded up? -/
def upB (q r c mode : Int) : Bool := if mode = 1 then decide (0 < r) else if mode = 2 then decide (c ≤ 2 * r) else if mode = 3 then (decide (c < 2 * r) || (decide (2 * r = c) && (q % 2 == 1))) else false
theorem up1 (q r c : Int) : upB q r c 1 = decide (0 < r) := rfl
theorem up2 (q r c : Int) : upB q r c 2 = decide (c ≤ 2 * r) := rfl
theorem up3 (q r c : Int) : upB q r c 3 = (decide (c < 2 * r) || (decide (2 * r = c) && (q % 2 == 1))) := rfl
theorem up_ne {q r c mode : Int} (h1 : mode ≠ 1) (h2 : mode ≠ 2) (h3 : mode ≠ 3) : upB q r c mode = false := by unfold upB; rw [if_neg h1, if_neg h2, if_neg h3]

set_option maxHeartbeats 1000000 in
theorem roundsUp_any (q r c mode : Int) (w : World) (q0 : 0 ≤ q) (r0 : 0 ≤ r) (r1 : r < c) (c1 : c < 9223372036854775808) :
    Calls Try.prog 23 #[.int .u64 q, .int .u64 r, .int .u64 c, .int .i64 mode] w fun e w' => e = .returned (.bool (upB q r c mode)) ∧ w' = w := by
  by_cases m1 : mode = 1
  · subst m1
    have H := hide (up1 q r c)
    go_enter Try.func23, Try.ntmps23
    go_wp2
    go_ret
    exact ⟨ret_bool H.out.symm, rfl⟩
  have hm1 : (mode == 1) = false := by simpa using m1
  by_cases m2 : mode = 2
  · subst m2
    have H := hide (show upB q r c 2 = decide (c - r ≤ r) by rw [up2]; congr 1; apply propext; omega)
    go_enter Try.func23, Try.ntmps23
    go_wp2
    go_ret
    exact ⟨ret_bool H.out.symm, rfl⟩
  have hm2 : (mode == 2) = false := by simpa using m2
  by_cases m3 : mode = 3
  · subst m3
    by_cases a : c - r < r
    · have H := hide (show upB q r c 3 = true by rw [up3]; simp; omega)
      go_enter Try.func23, Try.ntmps23
      go_wp2
      go_ret
      exact ⟨ret_bool H.out.symm, rfl⟩
    · by_cases b : r = c - r
      · have hb : (r == c - r) = true := by simpa using b
        have H := hide (show upB q r c 3 = (q % 2 == 1) by
          rw [up3]
          have e1 : decide (c < 2 * r) = false := by simp; omega
          have e2 : decide (2 * r = c) = true := by simp; omega
          rw [e1, e2]; simp)
        clear b
        go_enter Try.func23, Try.ntmps23
        go_wp2
        go_ret
        exact ⟨ret_bool H.out.symm, rfl⟩
      · have hb : (r == c - r) = false := by simpa using b
        have H := hide (show upB q r c 3 = false by
          rw [up3]
          have e1 : decide (c < 2 * r) = false := by simp; omega
          have e2 : decide (2 * r = c) = false := by simp; omega
          rw [e1, e2]; simp)
        go_enter Try.func23, Try.ntmps23
        go_wp2
        go_ret
        exact ⟨ret_bool H.out.symm, rfl⟩
  have hm3 : (mode == 3) = false := by simpa using m3
  have H := hide (up_ne (q := q) (r := r) (c := c) m1 m2 m3)
  go_enter Try.func23, Try.ntmps23
  go_wp2
  go_ret
  exact ⟨ret_bool H.out.symm, rfl⟩

/-- a b over c, rounded: the value, the error's number. -/
def mdQ (a b c mode : Int) : Int := if upB (a * b / c) (a * b % c) c mode = true then a * b / c + 1 else a * b / c
def mdV (a b c mode : Int) : Int := if a < 0 ∨ b < 0 ∨ c ≤ 0 ∨ mode < 0 ∨ 3 < mode then 0 else if 9223372036854775807 < mdQ a b c mode then 0 else mdQ a b c mode
def mdE (a b c mode : Int) : Int := if a < 0 ∨ b < 0 ∨ c ≤ 0 ∨ mode < 0 ∨ 3 < mode then 1 else if 9223372036854775807 < mdQ a b c mode then 9 else 0
theorem mdE_lo (a b c mode : Int) : 0 ≤ mdE a b c mode ∧ mdE a b c mode ≤ 24 := by unfold mdE; split; omega; split <;> omega
theorem md_arg {a b c mode : Int} (h : a < 0 ∨ b < 0 ∨ c ≤ 0 ∨ mode < 0 ∨ 3 < mode) : mdV a b c mode = 0 ∧ mdE a b c mode = 1 := by unfold mdV mdE; rw [if_pos h, if_pos h]; exact ⟨rfl, rfl⟩
theorem md_over {a b c mode : Int} (h : ¬ (a < 0 ∨ b < 0 ∨ c ≤ 0 ∨ mode < 0 ∨ 3 < mode)) (h2 : 9223372036854775807 < mdQ a b c mode) : mdV a b c mode = 0 ∧ mdE a b c mode = 9 := by unfold mdV mdE; rw [if_neg h, if_neg h, if_pos h2, if_pos h2]; exact ⟨rfl, rfl⟩
theorem md_ok {a b c mode : Int} (h : ¬ (a < 0 ∨ b < 0 ∨ c ≤ 0 ∨ mode < 0 ∨ 3 < mode)) (h2 : ¬ 9223372036854775807 < mdQ a b c mode) : mdV a b c mode = mdQ a b c mode ∧ mdE a b c mode = 0 := by unfold mdV mdE; rw [if_neg h, if_neg h, if_neg h2, if_neg h2]; exact ⟨rfl, rfl⟩
theorem ret_ii' {a b c d : Int} (h : a = c) (h' : b = d) : Ending.returned (.tuple #[.int .i64 a, .int .i64 b]) = .returned (.tuple #[.int .i64 c, .int .i64 d]) := by rw [h, h']
theorem ret_ie' {a c : Int} {v v' : Value} (h : a = c) (h' : v = v') : Ending.returned (.tuple #[.int .i64 a, v]) = .returned (.tuple #[.int .i64 c, v']) := by rw [h, h']
theorem errV_of' {k m : Int} (h : k = m) : errV m = errV k := by rw [h]

set_option maxHeartbeats 1000000 in
theorem mulDiv_arg (a b c mode : Int) (w : World) (h : a < 0 ∨ b < 0 ∨ c ≤ 0 ∨ mode < 0 ∨ 3 < mode) :
    Calls Try.prog 20 #[.int .i64 a, .int .i64 b, .int .i64 c, .int .i64 mode] w fun e w' => e = .returned (.tuple #[.int .i64 (mdV a b c mode), errV (mdE a b c mode)]) ∧ Below w.heap.size w w' := by
  have H := hide (md_arg h)
  by_cases h1 : a < 0
  · go_enter Try.func20, Try.ntmps20
    go_wp2
    go_ret2
    exact ⟨ret_ie' H.out.1.symm (errV_of' (m := 1) H.out.2), Below.refl _ _⟩
  by_cases h2 : b < 0
  · go_enter Try.func20, Try.ntmps20
    go_wp2
    go_ret2
    exact ⟨ret_ie' H.out.1.symm (errV_of' (m := 1) H.out.2), Below.refl _ _⟩
  by_cases h3 : c ≤ 0
  · go_enter Try.func20, Try.ntmps20
    go_wp2
    go_ret2
    exact ⟨ret_ie' H.out.1.symm (errV_of' (m := 1) H.out.2), Below.refl _ _⟩
  by_cases h4 : mode < 0
  · go_enter Try.func20, Try.ntmps20
    go_wp2
    go_ret2
    exact ⟨ret_ie' H.out.1.symm (errV_of' (m := 1) H.out.2), Below.refl _ _⟩
  have h5 : 3 < mode := by omega
  clear h
  go_enter Try.func20, Try.ntmps20
  go_wp2
  go_ret2
  exact ⟨ret_ie' H.out.1.symm (errV_of' (m := 1) H.out.2), Below.refl _ _⟩

theorem mdQ_up {a b c mode : Int} (h : upB (a * b / c) (a * b % c) c mode = true) : mdQ a b c mode = a * b / c + 1 := if_pos h
theorem mdQ_down {a b c mode : Int} (h : upB (a * b / c) (a * b % c) c mode = false) : mdQ a b c mode = a * b / c := if_neg (by rw [h]; decide)
theorem mdQ_ge (a b c mode : Int) : a * b / c ≤ mdQ a b c mode := by unfold mdQ; split <;> omega

set_option maxHeartbeats 1000000 in
theorem mulDiv_fit (a b c mode : Int) (w : World) (a0 : 0 ≤ a) (a1 : a ≤ 9223372036854775807) (b0 : 0 ≤ b) (b1 : b ≤ 9223372036854775807) (c0 : 0 < c) (c1 : c ≤ 9223372036854775807) (m0 : 0 ≤ mode) (m1 : mode ≤ 3) :
    Calls Try.prog 20 #[.int .i64 a, .int .i64 b, .int .i64 c, .int .i64 mode] w fun e w' => e = .returned (.tuple #[.int .i64 (mdV a b c mode), errV (mdE a b c mode)]) ∧ Below w.heap.size w w' := by
  have hn : ¬ (a < 0 ∨ b < 0 ∨ c ≤ 0 ∨ mode < 0 ∨ 3 < mode) := by omega
  have N0 : 0 ≤ a * b := Int.mul_nonneg a0 b0
  have hN := hl (a * b)
  have hh := hi_nn N0
  have r0 := Int.emod_nonneg (a * b) (show c ≠ 0 by omega)
  have r1 := Int.emod_lt_of_pos (a * b) c0
  have q0 : 0 ≤ a * b / c := Int.ediv_nonneg N0 (by omega)
  have Hup := hide (fun h => mdQ_up (a := a) (b := b) (c := c) (mode := mode) h)
  have Hdn := hide (fun h => mdQ_down (a := a) (b := b) (c := c) (mode := mode) h)
  have Hge := hide (mdQ_ge a b c mode)
  have Hov := hide (fun h => md_over (a := a) (b := b) (c := c) (mode := mode) hn h)
  have Hok := hide (fun h => md_ok (a := a) (b := b) (c := c) (mode := mode) hn h)
  have HN := hide hN.1
  obtain ⟨-, l0, l1⟩ := hN
  clear hn
  by_cases hc : c ≤ hiW (a * b)
  · have hq : 9223372036854775807 < a * b / c := by
      have h1 : c * 18446744073709551616 ≤ a * b := by have := HN.out; omega
      have h2 : 18446744073709551616 ≤ a * b / c := Int.le_ediv_of_mul_le c0 (by omega)
      omega
    have H := hide (Hov.out (by have := Hge.out; omega))
    go_enter Try.func20, Try.ntmps20
    go_wp2_with (go_at_call 21; refine (mul64_any a b _ (by omega) (by omega) (by omega) (by omega)).mono ?_; rintro e w' ⟨rfl, rfl⟩)
    go_ret2
    exact ⟨ret_ie' H.out.1.symm (errV_of' (m := 9) H.out.2), Below.refl _ _⟩
  · go_enter Try.func20, Try.ntmps20
    go_wp2_with fail
    refine (mul64_any a b _ (by omega) (by omega) (by omega) (by omega)).mono ?_
    rintro e w' ⟨rfl, rfl⟩
    go_wp2_with fail
    refine (div64_any _ _ _ (a * b) _ hh (by omega) l0 l1 (by omega) (show _ = _ from HN.out.symm)).mono ?_
    rintro e w1 ⟨rfl, hb1⟩
    by_cases hq : 9223372036854775807 < a * b / c
    · have H := hide (Hov.out (by have := Hge.out; omega))
      go_wp2_with fail
      go_ret2
      exact ⟨ret_ie' H.out.1.symm (errV_of' (m := 9) H.out.2), hb1⟩
    · go_wp2_with fail
      refine (roundsUp_any _ _ _ _ _ q0 r0 r1 (by omega)).mono ?_
      rintro e w2 ⟨rfl, rfl⟩
      cases hu : upB (a * b / c) (a * b % c) c mode
      · have Hq := hide (Hdn.out hu)
        have H := hide (Hok.out (by have := Hq.out; omega))
        clear Hup Hdn Hge Hov Hok hu
        generalize a * b / c = q at *
        go_wp2_with fail
        go_ret2
        exact ⟨ret_ie' (Hq.out.symm.trans H.out.1.symm) (errV_of' (m := 0) H.out.2), hb1⟩
      · have Hq := hide (Hup.out hu)
        by_cases hm : 9223372036854775807 < a * b / c + 1
        · have H := hide (Hov.out (by have := Hq.out; omega))
          clear Hup Hdn Hge Hov Hok hu
          generalize a * b / c = q at *
          go_wp2_with fail
          go_ret2
          exact ⟨ret_ie' H.out.1.symm (errV_of' (m := 9) H.out.2), hb1⟩
        · have H := hide (Hok.out (by have := Hq.out; omega))
          clear Hup Hdn Hge Hov Hok hu
          generalize a * b / c = q at *
          go_wp2_with fail
          go_ret2
          exact ⟨ret_ie' (Hq.out.symm.trans H.out.1.symm) (errV_of' (m := 0) H.out.2), hb1⟩
end Go.Proofs.Ytmojckejjjlkjab
