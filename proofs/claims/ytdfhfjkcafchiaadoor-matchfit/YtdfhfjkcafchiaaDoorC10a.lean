/-
  My own text: currencies and accounts: the program's and the document's.
-/
import Derived.Test.YtdfhfjkcafchiaaDoorTxt
namespace Go.Proofs.YtdfhfjkcafchiaaDoor.LC
open Go.RowKit

theorem bytes_take2 (l : List UInt8) (n : Nat) : (⟨l.toArray⟩ : ByteArray).extract 0 n = ⟨(l.take n).toArray⟩ := by
  apply ByteArray.ext; simp
theorem bytes_drop2 (l : List UInt8) (n m : Nat) (h : l.length = m) : (⟨l.toArray⟩ : ByteArray).extract n m = ⟨(l.drop n).toArray⟩ := by
  apply ByteArray.ext; simp [← h]
  rw [List.take_of_length_le (by rw [List.length_drop]; omega)]
theorem rng_drop2 {w : World} {b n : Nat} {l : List UInt8} (h : w.rangeAt b 0 (cel l).toList) : w.rangeAt b n (cel (l.drop n)).toList := fun j v hv => by
  have h2 := h (n + j) v (by
    rw [← hv]; simp [cel, List.getElem?_drop])
  rw [Nat.zero_add] at h2; exact h2
def curF : List UInt8 := [67, 67, 67]
/-- The form of an account. -/
def accF (l : List UInt8) : List UInt8 := List.replicate (min (max l.length 1) 34) 83
theorem acc_cut {n : Nat} (h : n ≤ 34) : (⟨#[83, 83, 83, 83, 83, 83, 83, 83, 83, 83, 83, 83, 83, 83, 83, 83, 83, 83, 83, 83, 83, 83, 83, 83, 83, 83, 83, 83, 83, 83, 83, 83, 83, 83]⟩ : ByteArray).extract 0 n = ⟨(List.replicate n 83).toArray⟩ := by
  have h2 := bytes_take2 (List.replicate 34 83) n
  rw [List.take_replicate, Nat.min_eq_left h] at h2; exact h2
theorem acc_at {n j : Nat} (h : j < n) : (List.replicate n (83 : UInt8)).getD j 0 = 83 := by
  rw [List.getD_eq_getElem?_getD, List.getElem?_replicate, if_pos h]; rfl
end Go.Proofs.YtdfhfjkcafchiaaDoor.LC
