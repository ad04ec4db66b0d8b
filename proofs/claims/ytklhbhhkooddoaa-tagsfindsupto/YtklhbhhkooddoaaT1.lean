/-
  My own text: signs of messages: the program's looks at a byte, and the document's.
-/
import Derived.Test.YtklhbhhkooddoaaErr
import Derived.Test.YtklhbhhkooddoaaErrV
import Derived.Test.YtklhbhhkooddoaaShelf
import Derived.RegionTactic
import Derived.WalkSmall
import Derived.Deep.QuietTactic
import Derived.BigQuiet
namespace Go.Proofs.Ytklhbhhkooddoaa
open Go.RowKit

theorem ret_b {a b : Bool} (h : a = b) : Ending.returned (.bool a) = .returned (.bool b) := by rw [h]
theorem ret_i {a b : Int} (h : a = b) : Ending.returned (.int .i64 b) = .returned (.int .i64 a) := by rw [h]
theorem bytes_size (l : List UInt8) : (⟨l.toArray⟩ : ByteArray).size = l.length := by simp [ByteArray.size]
def isDg (c : UInt8) : Bool := decide (48 ≤ (c.toNat : Int)) && decide ((c.toNat : Int) ≤ 57)
def isCp (c : UInt8) : Bool := decide (65 ≤ (c.toNat : Int)) && decide ((c.toNat : Int) ≤ 90)
def isLw (c : UInt8) : Bool := decide (97 ≤ (c.toNat : Int)) && decide ((c.toNat : Int) ≤ 122)
def sgn : List UInt8 := [32, 47, 45, 63, 58, 40, 41, 46, 44, 39, 43]
/-- May a message hold a byte? -/
def inS (c : UInt8) : Bool := isDg c || isCp c || isLw c || sgn.contains c
def sg (c : UInt8) : Bool := isDg c || isCp c

theorem tIsDigit_any (c : UInt8) (w : World) :
    Calls Try.prog 63 #[.int .u8 (c.toNat : Int)] w fun e w' => e = .returned (.bool (isDg c)) ∧ w' = w := by
  unfold isDg
  generalize c.toNat = x
  cases h1 : decide (48 ≤ (x : Int)) <;> cases h2 : decide ((x : Int) ≤ 57)
  all_goals
    go_enter Try.func63, Try.ntmps63
    go_wp2_with fail
    go_ret
    exact ⟨ret_b (by first | rfl | simp [h1, h2] | simp_all), rfl⟩
theorem tIsCapital_any (c : UInt8) (w : World) :
    Calls Try.prog 62 #[.int .u8 (c.toNat : Int)] w fun e w' => e = .returned (.bool (isCp c)) ∧ w' = w := by
  unfold isCp
  generalize c.toNat = x
  cases h1 : decide (65 ≤ (x : Int)) <;> cases h2 : decide ((x : Int) ≤ 90)
  all_goals
    go_enter Try.func62, Try.ntmps62
    go_wp2_with fail
    go_ret
    exact ⟨ret_b (by first | rfl | simp [h1, h2] | simp_all), rfl⟩
theorem tSign_any (c : UInt8) (w : World) :
    Calls Try.prog 64 #[.int .u8 (c.toNat : Int)] w fun e w' => e = .returned (.bool (sg c)) ∧ w' = w := by
  have HD := hide (tIsDigit_any c w)
  have HC := hide (tIsCapital_any c w)
  unfold sg
  cases h1 : isDg c
  · rw [h1] at HD
    go_enter Try.func64, Try.ntmps64
    go_wp2_with fail
    refine HD.out.mono ?_
    rintro e w1 ⟨rfl, rfl⟩
    go_wp2_with fail
    refine HC.out.mono ?_
    rintro e w1 ⟨rfl, rfl⟩
    go_wp2_with fail
    go_ret
    exact ⟨ret_b (by simp), rfl⟩
  · rw [h1] at HD
    go_enter Try.func64, Try.ntmps64
    go_wp2_with fail
    refine HD.out.mono ?_
    rintro e w1 ⟨rfl, rfl⟩
    go_wp2_with fail
    go_ret
    exact ⟨ret_b (by simp), rfl⟩
theorem indexByte_ge (l : List UInt8) (c : UInt8) : -1 ≤ Lib.indexByte l c := by
  induction l with
  | nil => show (-1 : Int) ≤ -1; decide
  | cons b l ih =>
    unfold Lib.indexByte
    split
    · decide
    split
    · decide
    · omega
theorem indexByte_in (l : List UInt8) (c : UInt8) : decide (0 ≤ Lib.indexByte l c) = l.contains c := by
  induction l with
  | nil => rfl
  | cons b l ih =>
    unfold Lib.indexByte
    by_cases h : b = c
    · subst h; simp
    · have hb : (b == c) = false := beq_eq_false_iff_ne.2 h
      have hb2 : (c == b) = false := beq_eq_false_iff_ne.2 (Ne.symm h)
      rw [hb, List.contains_cons, hb2, Bool.false_or, ← ih]
      have := indexByte_ge l c
      by_cases h2 : Lib.indexByte l c = -1
      · simp [h2]
      · have h3 : (Lib.indexByte l c == -1) = false := beq_eq_false_iff_ne.2 h2
        rw [h3]; simp; omega
theorem tIndexByte_any (s : List UInt8) (c : UInt8) (w : World) :
    Calls Try.prog 66 #[.string ⟨s.toArray⟩, .int .u8 (c.toNat : Int)] w fun e w' => e = .returned (.int .i64 (Lib.indexByte s c)) ∧ w' = w := by
  have H := hide (Try.stringslite_IndexByte ⟨s.toArray⟩ (c.toNat : Int) w)
  have hc : ((c.toNat : Int).toNat.toUInt8) = c := by simp
  rw [hc] at H
  dsimp only at H
  clear hc
  go_enter Try.func66, Try.ntmps66
  go_wp2_with fail
  refine H.out.mono ?_
  rintro e w1 ⟨rfl, rfl⟩
  go_wp2_with fail
  go_ret
  exact ⟨rfl, rfl⟩
set_option maxHeartbeats 1000000 in
theorem tIsOfSet_any (c : UInt8) (w : World) :
    Calls Try.prog 61 #[.int .u8 (c.toNat : Int)] w fun e w' => e = .returned (.bool (inS c)) ∧ w' = w := by
  have HS := hide (tSign_any c w)
  have HI := hide (tIndexByte_any sgn c w)
  have HN := hide (indexByte_in sgn c)
  obtain ⟨n, hn⟩ : ∃ n, Hid (Lib.indexByte sgn c = n) := ⟨_, hide rfl⟩
  rw [hn.out] at HI HN
  have HE : Hid (inS c = (sg c || (decide (97 ≤ (c.toNat : Int)) && decide ((c.toNat : Int) ≤ 122)) || sgn.contains c)) := hide rfl
  rw [HE.out]
  unfold sgn at HI
  have hgoal : sgn.contains c = decide (0 ≤ n) := HN.out.symm
  rw [hgoal]
  clear hgoal
  generalize c.toNat = x at *
  cases h0 : sg c
  · rw [h0] at HS
    cases h1 : decide (97 ≤ (x : Int)) <;> cases h2 : decide ((x : Int) ≤ 122) <;> cases h3 : decide (0 ≤ n)
    all_goals
      go_enter Try.func61, Try.ntmps61
      go_wp2_with fail
      refine HS.out.mono ?_
      rintro e w1 ⟨rfl, rfl⟩
      go_wp2_with fail
      try (refine HI.out.mono ?_; rintro e w1 ⟨rfl, rfl⟩; go_wp2_with fail)
      go_ret
      exact ⟨ret_b (by first | rfl | simp [h1, h2, h3] | simp_all), rfl⟩
  · rw [h0] at HS
    go_enter Try.func61, Try.ntmps61
    go_wp2_with fail
    refine HS.out.mono ?_
    rintro e w1 ⟨rfl, rfl⟩
    go_wp2_with fail
    go_ret
    exact ⟨ret_b (by simp), rfl⟩
theorem tIsOfText_any (c : UInt8) (w : World) :
    Calls Try.prog 55 #[.int .u8 (c.toNat : Int)] w fun e w' => e = .returned (.bool (inS c || c == 10)) ∧ w' = w := by
  have HS := hide (tIsOfSet_any c w)
  have hq : ((c.toNat : Int) == 10) = (c == 10) := by
    rw [Bool.eq_iff_iff]; simp only [beq_iff_eq]
    constructor
    · intro h; exact UInt8.toNat_inj.1 (by show c.toNat = 10; omega)
    · intro h; subst h; rfl
  generalize (c == 10) = q at *
  generalize inS c = b at *
  generalize c.toNat = x at *
  cases b
  · go_enter Try.func55, Try.ntmps55
    go_wp2_with fail
    refine HS.out.mono ?_
    rintro e w1 ⟨rfl, rfl⟩
    go_wp2_with fail
    go_ret
    exact ⟨ret_b (by first | rfl | simp), rfl⟩
  · go_enter Try.func55, Try.ntmps55
    go_wp2_with fail
    refine HS.out.mono ?_
    rintro e w1 ⟨rfl, rfl⟩
    go_wp2_with fail
    go_ret
    exact ⟨ret_b (by first | rfl | simp), rfl⟩
theorem u8_beq (a c : UInt8) : ((a.toNat : Int) == (c.toNat : Int)) = (a == c) := by
  rw [Bool.eq_iff_iff]; simp only [beq_iff_eq]
  constructor
  · intro h; exact UInt8.toNat_inj.1 (by omega)
  · intro h; subst h; rfl
def sgC : Array Value := #[.int .u8 32, .int .u8 47, .int .u8 45, .int .u8 63, .int .u8 58, .int .u8 40, .int .u8 41, .int .u8 46, .int .u8 44, .int .u8 39, .int .u8 43]
theorem sgC_at {k : Nat} (h : k < 11) : sgC[k]? = some (.int .u8 ((sgn.getD k 0).toNat : Int)) := by
  match k, h with
  | 0, _ => rfl
  | 1, _ => rfl
  | 2, _ => rfl
  | 3, _ => rfl
  | 4, _ => rfl
  | 5, _ => rfl
  | 6, _ => rfl
  | 7, _ => rfl
  | 8, _ => rfl
  | 9, _ => rfl
  | 10, _ => rfl
theorem sgn_in {c : UInt8} {k : Nat} (h : k < 11) (hc : (sgn.getD k 0 == c) = true) : sgn.contains c = true := by
  have e : sgn.getD k 0 = c := by simpa using hc
  rw [← e, List.contains_iff_mem, List.getD_eq_getElem?_getD, List.getElem?_eq_getElem (by simpa [sgn] using h)]
  exact List.getElem_mem _
theorem sgn_out {c : UInt8} (h : ∀ j, j < 11 → (sgn.getD j 0 == c) = false) : sgn.contains c = false := by
  rw [Bool.eq_false_iff, Ne, List.contains_iff_mem]
  intro hm
  obtain ⟨j, hj, e⟩ := List.getElem_of_mem hm
  have hj' : j < 11 := by simpa [sgn] using hj
  have := h j hj'
  rw [List.getD_eq_getElem?_getD, List.getElem?_eq_getElem hj] at this
  simp [e] at this
end Go.Proofs.Ytklhbhhkooddoaa
