/-
  My own text: T1, T2, T3 in one.
-/
import Derived.Test.YtbaideeiljeamaaGreatDoorErr
import Derived.Test.YtbaideeiljeamaaGreatDoorRow
import Derived.Test.YtbaideeiljeamaaGreatDoorShelf
import Derived.Lib.Bytealg
import Derived.RegionTactic
import Derived.WalkSmall
import Derived.Deep.QuietTactic
import Derived.BigQuiet
namespace Go.Proofs.YtbaideeiljeamaaGreatDoor.TG
open Go.RowKit

theorem ret_b {a b : Bool} (h : a = b) : Ending.returned (.bool a) = .returned (.bool b) := by rw [h]
theorem ret_i {a b : Int} (h : a = b) : Ending.returned (.int .i64 b) = .returned (.int .i64 a) := by rw [h]
theorem bytes_size (l : List UInt8) : (⟨l.toArray⟩ : ByteArray).size = l.length := by simp [ByteArray.size]
def isDg (c : UInt8) : Bool := decide (48 ≤ (c.toNat : Int)) && decide ((c.toNat : Int) ≤ 57)
def isCp (c : UInt8) : Bool := decide (65 ≤ (c.toNat : Int)) && decide ((c.toNat : Int) ≤ 90)
def isLw (c : UInt8) : Bool := decide (97 ≤ (c.toNat : Int)) && decide ((c.toNat : Int) ≤ 122)
def sgn : List UInt8 := [32, 47, 45, 63, 58, 40, 41, 46, 44, 39, 43]
/-- May a message hold a byte? -/
def inS (c : UInt8) : Bool := isDg c || isCp c || isLw c || sgn.contains c
def sg (c : UInt8) : Bool := isDg c || isCp c

theorem indexByte_ge (l : List UInt8) (c : UInt8) : -1 ≤ Lib.indexByte l c := by
  induction l with
  | nil => show (-1 : Int) ≤ -1; decide
  | cons b l ih =>
    unfold Lib.indexByte
    split
    · decide
    split
    · decide
    · omega
theorem indexByte_in (l : List UInt8) (c : UInt8) : decide (0 ≤ Lib.indexByte l c) = l.contains c := by
  induction l with
  | nil => rfl
  | cons b l ih =>
    unfold Lib.indexByte
    by_cases h : b = c
    · subst h; simp
    · have hb : (b == c) = false := beq_eq_false_iff_ne.2 h
      have hb2 : (c == b) = false := beq_eq_false_iff_ne.2 (Ne.symm h)
      rw [hb, List.contains_cons, hb2, Bool.false_or, ← ih]
      have := indexByte_ge l c
      by_cases h2 : Lib.indexByte l c = -1
      · simp [h2]
      · have h3 : (Lib.indexByte l c == -1) = false := beq_eq_false_iff_ne.2 h2
        rw [h3]; simp; omega
theorem u8_beq (a c : UInt8) : ((a.toNat : Int) == (c.toNat : Int)) = (a == c) := by
  rw [Bool.eq_iff_iff]; simp only [beq_iff_eq]
  constructor
  · intro h; exact UInt8.toNat_inj.1 (by omega)
  · intro h; subst h; rfl
def sgC : Array Value := #[.int .u8 32, .int .u8 47, .int .u8 45, .int .u8 63, .int .u8 58, .int .u8 40, .int .u8 41, .int .u8 46, .int .u8 44, .int .u8 39, .int .u8 43]
theorem sgC_at {k : Nat} (h : k < 11) : sgC[k]? = some (.int .u8 ((sgn.getD k 0).toNat : Int)) := by
  match k, h with
  | 0, _ => rfl
  | 1, _ => rfl
  | 2, _ => rfl
  | 3, _ => rfl
  | 4, _ => rfl
  | 5, _ => rfl
  | 6, _ => rfl
  | 7, _ => rfl
  | 8, _ => rfl
  | 9, _ => rfl
  | 10, _ => rfl
theorem sgn_in {c : UInt8} {k : Nat} (h : k < 11) (hc : (sgn.getD k 0 == c) = true) : sgn.contains c = true := by
  have e : sgn.getD k 0 = c := by simpa using hc
  rw [← e, List.contains_iff_mem, List.getD_eq_getElem?_getD, List.getElem?_eq_getElem (by simpa [sgn] using h)]
  exact List.getElem_mem _
theorem sgn_out {c : UInt8} (h : ∀ j, j < 11 → (sgn.getD j 0 == c) = false) : sgn.contains c = false := by
  rw [Bool.eq_false_iff, Ne, List.contains_iff_mem]
  intro hm
  obtain ⟨j, hj, e⟩ := List.getElem_of_mem hm
  have hj' : j < 11 := by simpa [sgn] using hj
  have := h j hj'
  rw [List.getD_eq_getElem?_getD, List.getElem?_eq_getElem hj] at this
  simp [e] at this
end Go.Proofs.YtbaideeiljeamaaGreatDoor.TG
namespace Go.Proofs.YtbaideeiljeamaaGreatDoor.TG
open Go.RowKit

theorem getD_at {l : List UInt8} {k : Nat} (h : k < l.length) : l.getD k 0 = l[k] := by rw [List.getD_eq_getElem?_getD, List.getElem?_eq_getElem h]; rfl
def fstNot (p : UInt8 → Bool) (l : List UInt8) : Nat := l.findIdx fun c => !p c
theorem fstNot_at {p : UInt8 → Bool} {l : List UInt8} {k : Nat} (hk : k < l.length) (h : ∀ j, j < k → p (l.getD j 0) = true) (hb : p (l.getD k 0) = false) : fstNot p l = k := by
  unfold fstNot
  rw [List.findIdx_eq hk]
  refine ⟨by rw [← getD_at hk, hb]; rfl, fun j hj => ?_⟩
  have := h j hj
  rw [getD_at (by omega)] at this
  simp [this]
theorem fstNot_all {p : UInt8 → Bool} {l : List UInt8} (h : ∀ j, j < l.length → p (l.getD j 0) = true) : fstNot p l = l.length := by
  unfold fstNot
  rw [List.findIdx_eq_length]
  intro c hc
  obtain ⟨j, hj, rfl⟩ := List.getElem_of_mem hc
  have := h j hj
  rw [getD_at hj] at this
  simp [this]
theorem fstNot_le (p : UInt8 → Bool) (l : List UInt8) : fstNot p l ≤ l.length := List.findIdx_le_length
theorem fstNot_eq (p : UInt8 → Bool) (l : List UInt8) : decide (fstNot p l = l.length) = l.all p := by
  rw [Bool.eq_iff_iff, decide_eq_true_iff, List.all_eq_true]
  unfold fstNot
  rw [List.findIdx_eq_length]
  simp
theorem all_of {p : UInt8 → Bool} {l : List UInt8} (h : ∀ j, j < l.length → p (l.getD j 0) = true) : l.all p = true := by
  rw [List.all_eq_true]; intro c hc
  obtain ⟨j, hj, rfl⟩ := List.getElem_of_mem hc
  rw [← getD_at hj]; exact h j hj
theorem all_no {p : UInt8 → Bool} {l : List UInt8} {k : Nat} (hk : k < l.length) (hb : p (l.getD k 0) = false) : l.all p = false := by
  rw [List.all_eq_false]
  exact ⟨l[k], List.getElem_mem _, by rw [← getD_at hk, hb]; simp⟩
def nameB (l : List UInt8) : Bool := decide (1 ≤ l.length) && decide (l.length ≤ 16) && l.all sg
def qualB (l : List UInt8) : Bool := decide (l.length = 4) && l.all sg
end Go.Proofs.YtbaideeiljeamaaGreatDoor.TG
namespace Go.Proofs.YtbaideeiljeamaaGreatDoor.TG
open Go.RowKit

def r16 : List UInt8 := [49, 54, 82]
def s16 : List UInt8 := [49, 54, 83]
def tagB (l : List UInt8) : Bool := (decide (l.length = 2) || decide (l.length = 3)) && isDg (l.getD 0 0) && isDg (l.getD 1 0) && (decide (l.length = 2) || isCp (l.getD 2 0)) && !(l == r16) && !(l == s16)
theorem beq_len {l m : List UInt8} (h : l.length ≠ m.length) : (l == m) = false := beq_eq_false_iff_ne.2 (fun e => h (by rw [e]))
theorem tagB_len {l : List UInt8} (h2 : l.length ≠ 2) (h3 : l.length ≠ 3) : tagB l = false := by unfold tagB; rw [decide_eq_false h2, decide_eq_false h3]; rfl
theorem tagB_two {l : List UInt8} (h : l.length = 2) : tagB l = (isDg (l.getD 0 0) && isDg (l.getD 1 0)) := by
  unfold tagB; rw [decide_eq_true h, beq_len (m := r16) (by rw [h]; decide), beq_len (m := s16) (by rw [h]; decide)]; simp
theorem tagB_three {l : List UInt8} (h : l.length = 3) : tagB l = (isDg (l.getD 0 0) && isDg (l.getD 1 0) && isCp (l.getD 2 0) && !(l == r16) && !(l == s16)) := by
  unfold tagB; rw [decide_eq_true h, decide_eq_false (show ¬ l.length = 2 by omega)]; simp
theorem isDg_alt (c : UInt8) : isDg c = (!decide ((c.toNat : Int) < 48) && !decide (57 < (c.toNat : Int))) := by
  unfold isDg
  rw [show decide (48 ≤ (c.toNat : Int)) = !decide ((c.toNat : Int) < 48) from by rw [← decide_not]; exact decide_eq_decide.2 (by omega), show decide ((c.toNat : Int) ≤ 57) = !decide (57 < (c.toNat : Int)) from by rw [← decide_not]; exact decide_eq_decide.2 (by omega)]
end Go.Proofs.YtbaideeiljeamaaGreatDoor.TG
