/-
  My own text: the text of a field: the program's looks, and the document's.
-/
import Derived.Test.YtbnjahldbnanbaaDoorT3
namespace Go.Proofs.YtbnjahldbnanbaaDoor
open Go.RowKit

def badAt (l : List UInt8) (j : Nat) : Bool := (l.getD j 0 == 10) && (decide (j + 1 = l.length) || l.getD (j + 1) 0 == 10 || l.getD (j + 1) 0 == 58 || l.getD (j + 1) 0 == 45)
def nlB (l : List UInt8) : Bool := (List.range l.length).any (badAt l)
def txB (l : List UInt8) : Bool := l.all fun c => inS c || c == 10
def hdB (l : List UInt8) : Bool := l.getD 0 0 == 58
def textE (l : List UInt8) (q : Bool) : Int := if !txB l then 6 else if nlB l then 4 else if !q && hdB l then 4 else 0
theorem nlB_yes {l : List UInt8} {k : Nat} (hk : k < l.length) (h : badAt l k = true) : nlB l = true := by
  unfold nlB; rw [List.any_eq_true]; exact ⟨k, List.mem_range.2 hk, h⟩
theorem nlB_no {l : List UInt8} (h : ∀ j, j < l.length → badAt l j = false) : nlB l = false := by
  unfold nlB; rw [List.any_eq_false]; intro j hj; rw [h j (List.mem_range.1 hj)]; simp
theorem u8_lit {c : UInt8} {x : Nat} (hx : c.toNat = x) (n : UInt8) {k : Int} (hn : (n.toNat : Int) = k) : ((x : Int) == k) = (c == n) := by
  rw [← hx, ← hn]; exact u8_beq c n
theorem hasPrefix_hd (l : List UInt8) : Lib.hasPrefix l [58] = hdB l := by
  unfold hdB
  cases l with
  | nil => rfl
  | cons c t =>
    show ((58 : UInt8) == c && List.isPrefixOf [] t) = (c == 58)
    rw [show List.isPrefixOf ([] : List UInt8) t = true by cases t <;> rfl, Bool.and_true, Bool.eq_iff_iff]
    simp only [beq_iff_eq]
    exact eq_comm
theorem txB_no {l : List UInt8} {k : Nat} (hk : k < l.length) (hb : (inS (l.getD k 0) || l.getD k 0 == 10) = false) : txB l = false := all_no (p := fun c => inS c || c == 10) hk hb
theorem txB_yes {l : List UInt8} (h : ∀ j, j < l.length → (inS (l.getD j 0) || l.getD j 0 == 10) = true) : txB l = true := all_of (p := fun c => inS c || c == 10) h
theorem bytes_beq (a b : List UInt8) : ((⟨a.toArray⟩ : ByteArray) == ⟨b.toArray⟩) = decide (a = b) := by
  show (a.toArray == b.toArray) = _
  by_cases h : a = b
  · subst h; simp
  · rw [decide_eq_false h]; simpa using h
theorem bytes_nil_t {l : List UInt8} (h : l.isEmpty = true) : ((⟨l.toArray⟩ : ByteArray) != ⟨#[]⟩) = false := by
  have h2 : l = [] := by simpa using h
  show (!((⟨l.toArray⟩ : ByteArray) == ⟨([] : List UInt8).toArray⟩)) = _
  rw [bytes_beq, decide_eq_true h2]; rfl
theorem bytes_nil_f {l : List UInt8} (h : l.isEmpty = false) : ((⟨l.toArray⟩ : ByteArray) != ⟨#[]⟩) = true := by
  have h2 : ¬ l = [] := by simpa using h
  show (!((⟨l.toArray⟩ : ByteArray) == ⟨([] : List UInt8).toArray⟩)) = _
  rw [bytes_beq, decide_eq_false h2]; rfl
end Go.Proofs.YtbnjahldbnanbaaDoor
