/-
  My own text: tags: the program's look, and the document's (printed by mkt3.py).
-/
import Derived.Test.YtklhbhhkooddoaaT2
namespace Go.Proofs.Ytklhbhhkooddoaa
open Go.RowKit

def r16 : List UInt8 := [49, 54, 82]
def s16 : List UInt8 := [49, 54, 83]
def tagB (l : List UInt8) : Bool := (decide (l.length = 2) || decide (l.length = 3)) && isDg (l.getD 0 0) && isDg (l.getD 1 0) && (decide (l.length = 2) || isCp (l.getD 2 0)) && !(l == r16) && !(l == s16)
theorem beq_len {l m : List UInt8} (h : l.length ≠ m.length) : (l == m) = false := beq_eq_false_iff_ne.2 (fun e => h (by rw [e]))
theorem tagB_len {l : List UInt8} (h2 : l.length ≠ 2) (h3 : l.length ≠ 3) : tagB l = false := by unfold tagB; rw [decide_eq_false h2, decide_eq_false h3]; rfl
theorem tagB_two {l : List UInt8} (h : l.length = 2) : tagB l = (isDg (l.getD 0 0) && isDg (l.getD 1 0)) := by
  unfold tagB; rw [decide_eq_true h, beq_len (m := r16) (by rw [h]; decide), beq_len (m := s16) (by rw [h]; decide)]; simp
theorem tagB_three {l : List UInt8} (h : l.length = 3) : tagB l = (isDg (l.getD 0 0) && isDg (l.getD 1 0) && isCp (l.getD 2 0) && !(l == r16) && !(l == s16)) := by
  unfold tagB; rw [decide_eq_true h, decide_eq_false (show ¬ l.length = 2 by omega)]; simp
set_option maxRecDepth 100000 in
set_option maxHeartbeats 4000000 in
theorem tIsTag_any (l : List UInt8) (w : World) (hl : l.length ≤ 140737488355328) :
    Calls Try.prog 52 #[.string ⟨l.toArray⟩] w fun e w' => e = .returned (.bool (tagB l)) ∧ w' = w := by
  by_cases h2 : l.length = 2
  · rw [tagB_two h2]
    have e3 : ((l.length : Int) == 3) = false := by rw [h2]; rfl
    have e2 : ((l.length : Int) == 2) = true := by rw [h2]; rfl
    have eR : (l == [49, 54, 82]) = false := beq_len (by rw [h2]; decide)
    have eS : (l == [49, 54, 83]) = false := beq_len (by rw [h2]; decide)
    have s0 : 0 < (⟨l.toArray⟩ : ByteArray).size := by rw [bytes_size]; omega
    have s1 : 1 < (⟨l.toArray⟩ : ByteArray).size := by rw [bytes_size]; omega
    obtain ⟨a, ha, Ha⟩ : ∃ c, (⟨l.toArray⟩ : ByteArray)[0]'s0 = c ∧ l.getD 0 0 = c := ⟨_, rfl, getD_at (by omega)⟩
    obtain ⟨b, hb, Hb⟩ : ∃ c, (⟨l.toArray⟩ : ByteArray)[1]'s1 = c ∧ l.getD 1 0 = c := ⟨_, rfl, getD_at (by omega)⟩
    rw [Ha, Hb]
    have lt0 : 0 < l.length := by omega
    have lt1 : 1 < l.length := by omega
    have HA := hide (fun W : World => tIsDigit_any a W)
    have HB := hide (fun W : World => tIsDigit_any b W)
    clear Ha Hb h2
    cases qa : isDg a
    · rw [qa] at HA
      go_enter Try.func52, Try.ntmps52
      go_wp2_with fail
      refine (HA.out _).mono ?_
      rintro e w' ⟨rfl, rfl⟩
      go_wp2_with fail
      go_ret
      exact ⟨ret_b (by simp), rfl⟩
    · rw [qa] at HA
      go_enter Try.func52, Try.ntmps52
      go_wp2_with fail
      refine (HA.out _).mono ?_
      rintro e w' ⟨rfl, rfl⟩
      go_wp2_with fail
      refine (HB.out _).mono ?_
      rintro e w' ⟨rfl, rfl⟩
      go_wp2_with fail
      go_ret
      exact ⟨ret_b (by simp), rfl⟩
  by_cases h3 : l.length = 3
  · rw [tagB_three h3]
    have e3 : ((l.length : Int) == 3) = true := by rw [h3]; rfl
    have e2 : ((l.length : Int) == 2) = false := by rw [h3]; rfl
    have s0 : 0 < (⟨l.toArray⟩ : ByteArray).size := by rw [bytes_size]; omega
    have s1 : 1 < (⟨l.toArray⟩ : ByteArray).size := by rw [bytes_size]; omega
    have s2 : 2 < (⟨l.toArray⟩ : ByteArray).size := by rw [bytes_size]; omega
    obtain ⟨a, ha, Ha⟩ : ∃ c, (⟨l.toArray⟩ : ByteArray)[0]'s0 = c ∧ l.getD 0 0 = c := ⟨_, rfl, getD_at (by omega)⟩
    obtain ⟨b, hb, Hb⟩ : ∃ c, (⟨l.toArray⟩ : ByteArray)[1]'s1 = c ∧ l.getD 1 0 = c := ⟨_, rfl, getD_at (by omega)⟩
    obtain ⟨c, hc, Hc⟩ : ∃ c, (⟨l.toArray⟩ : ByteArray)[2]'s2 = c ∧ l.getD 2 0 = c := ⟨_, rfl, getD_at (by omega)⟩
    rw [Ha, Hb, Hc]
    have lt0 : 0 < l.length := by omega
    have lt1 : 1 < l.length := by omega
    have lt2 : 2 < l.length := by omega
    have HA := hide (fun W : World => tIsDigit_any a W)
    have HB := hide (fun W : World => tIsDigit_any b W)
    have HC := hide (fun W : World => tIsCapital_any c W)
    unfold r16 s16
    clear Ha Hb Hc h2 h3
    cases qc : isCp c
    · rw [qc] at HC
      go_enter Try.func52, Try.ntmps52
      go_wp2_with fail
      refine (HC.out _).mono ?_
      rintro e w' ⟨rfl, rfl⟩
      go_wp2_with fail
      go_ret
      exact ⟨ret_b (by simp), rfl⟩
    rw [qc] at HC
    cases eR : (l == [49, 54, 82])
    case true =>
      go_enter Try.func52, Try.ntmps52
      go_wp2_with fail
      refine (HC.out _).mono ?_
      rintro e w' ⟨rfl, rfl⟩
      go_wp2_with fail
      go_ret
      exact ⟨ret_b (by simp), rfl⟩
    cases eS : (l == [49, 54, 83])
    case true =>
      go_enter Try.func52, Try.ntmps52
      go_wp2_with fail
      refine (HC.out _).mono ?_
      rintro e w' ⟨rfl, rfl⟩
      go_wp2_with fail
      go_ret
      exact ⟨ret_b (by simp), rfl⟩
    cases qa : isDg a
    · rw [qa] at HA
      go_enter Try.func52, Try.ntmps52
      go_wp2_with fail
      refine (HC.out _).mono ?_
      rintro e w' ⟨rfl, rfl⟩
      go_wp2_with fail
      refine (HA.out _).mono ?_
      rintro e w' ⟨rfl, rfl⟩
      go_wp2_with fail
      go_ret
      exact ⟨ret_b (by simp), rfl⟩
    · rw [qa] at HA
      go_enter Try.func52, Try.ntmps52
      go_wp2_with fail
      refine (HC.out _).mono ?_
      rintro e w' ⟨rfl, rfl⟩
      go_wp2_with fail
      refine (HA.out _).mono ?_
      rintro e w' ⟨rfl, rfl⟩
      go_wp2_with fail
      refine (HB.out _).mono ?_
      rintro e w' ⟨rfl, rfl⟩
      go_wp2_with fail
      go_ret
      exact ⟨ret_b (by simp), rfl⟩
  rw [tagB_len h2 h3]
  have e3 : ((l.length : Int) == 3) = false := beq_eq_false_iff_ne.2 (by omega)
  have e2 : ((l.length : Int) == 2) = false := beq_eq_false_iff_ne.2 (by omega)
  have eR : (l == [49, 54, 82]) = false := beq_len (by simpa using h3)
  have eS : (l == [49, 54, 83]) = false := beq_len (by simpa using h3)
  clear h2 h3
  go_enter Try.func52, Try.ntmps52
  go_wp2_with fail
  go_ret
  exact ⟨ret_b (by simp), rfl⟩
theorem isDg_alt (c : UInt8) : isDg c = (!decide ((c.toNat : Int) < 48) && !decide (57 < (c.toNat : Int))) := by
  unfold isDg
  rw [show decide (48 ≤ (c.toNat : Int)) = !decide ((c.toNat : Int) < 48) from by rw [← decide_not]; exact decide_eq_decide.2 (by omega), show decide ((c.toNat : Int) ≤ 57) = !decide (57 < (c.toNat : Int)) from by rw [← decide_not]; exact decide_eq_decide.2 (by omega)]
end Go.Proofs.Ytklhbhhkooddoaa
