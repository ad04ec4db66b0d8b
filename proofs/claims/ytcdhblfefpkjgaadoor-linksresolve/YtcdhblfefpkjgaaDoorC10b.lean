/-
  My own text: Pad, Txt, C10a, C10b in one.
-/
import Derived.Test.YtcdhblfefpkjgaaDoorC5

namespace Go.Proofs.YtcdhblfefpkjgaaDoor.LC
open Go.RowKit

theorem Tryd.infoByte : (Tryd.prog.info? 5).map (fun i => (i.zero, i.size, i.bytes)) = some (some (.int .u8 0), 1, 1) := by kernel_rfl
end Go.Proofs.YtcdhblfefpkjgaaDoor.LC
namespace Go.Proofs.YtcdhblfefpkjgaaDoor.LC
open Go.RowKit

theorem bytes_take2 (l : List UInt8) (n : Nat) : (⟨l.toArray⟩ : ByteArray).extract 0 n = ⟨(l.take n).toArray⟩ := by
  apply ByteArray.ext; simp
theorem bytes_drop2 (l : List UInt8) (n m : Nat) (h : l.length = m) : (⟨l.toArray⟩ : ByteArray).extract n m = ⟨(l.drop n).toArray⟩ := by
  apply ByteArray.ext; simp [← h]
  rw [List.take_of_length_le (by rw [List.length_drop]; omega)]
theorem rng_drop2 {w : World} {b n : Nat} {l : List UInt8} (h : w.rangeAt b 0 (cel l).toList) : w.rangeAt b n (cel (l.drop n)).toList := fun j v hv => by
  have h2 := h (n + j) v (by
    rw [← hv]; simp [cel, List.getElem?_drop])
  rw [Nat.zero_add] at h2; exact h2
def curF : List UInt8 := [67, 67, 67]
/-- The form of an account. -/
def accF (l : List UInt8) : List UInt8 := List.replicate (min (max l.length 1) 34) 83
theorem acc_cut {n : Nat} (h : n ≤ 34) : (⟨#[83, 83, 83, 83, 83, 83, 83, 83, 83, 83, 83, 83, 83, 83, 83, 83, 83, 83, 83, 83, 83, 83, 83, 83, 83, 83, 83, 83, 83, 83, 83, 83, 83, 83]⟩ : ByteArray).extract 0 n = ⟨(List.replicate n 83).toArray⟩ := by
  have h2 := bytes_take2 (List.replicate 34 83) n
  rw [List.take_replicate, Nat.min_eq_left h] at h2; exact h2
theorem acc_at {n j : Nat} (h : j < n) : (List.replicate n (83 : UInt8)).getD j 0 = 83 := by
  rw [List.getD_eq_getElem?_getD, List.getElem?_replicate, if_pos h]; rfl
end Go.Proofs.YtcdhblfefpkjgaaDoor.LC
namespace Go.Proofs.YtcdhblfefpkjgaaDoor.LC
open Go.RowKit

def bic8 : List UInt8 := [67, 67, 67, 67, 67, 67, 83, 83]
def bic11 : List UInt8 := [67, 67, 67, 67, 67, 67, 83, 83, 83, 83, 83]
def bicF (l : List UInt8) : List UInt8 := if l.length = 8 then bic8 else bic11
/-- The branch. -/
def bicB (l : List UInt8) : List UInt8 := if l.drop 8 = [88, 88, 88] then [] else l.drop 8
def str (l : List UInt8) : Value := .string ⟨l.toArray⟩
/-- The parts of a BIC. -/
def bicP (l : List UInt8) : Array Value := #[str (l.take 4), str ((l.drop 4).take 2), str ((l.drop 6).take 2), str (bicB l)]
def bicZ : Array Value := #[str [], str [], str [], str []]
def bicV (l : List UInt8) : Array Value := if (formR l (bicF l)).1 = 0 then bicP l else bicZ
theorem bicV_ok {l : List UInt8} (h : Form l (bicF l)) : bicV l = bicP l := by unfold bicV; rw [form_eq h]; rfl
theorem bicV_bad {l : List UInt8} (h : ¬ Form l (bicF l)) : bicV l = bicZ := by unfold bicV; rw [if_neg (form_ne h)]
theorem bic_len {l : List UInt8} (h : Form l (bicF l)) : l.length = 8 ∨ l.length = 11 := by
  have h1 := h.1
  unfold bicF at h1
  by_cases h8 : l.length = 8
  · exact .inl h8
  · rw [if_neg h8] at h1; exact .inr h1
theorem bytes_mid (l : List UInt8) (a b : Nat) : (⟨l.toArray⟩ : ByteArray).extract a b = ⟨((l.drop a).take (b - a)).toArray⟩ := by
  apply ByteArray.ext; simp
theorem results_cell_tmp2 {fn : Func} {p u u' : Tmp} {ty : TypeId} (h : fn.results = #[.cell p ty, .tmp u, .tmp u']) (tmps : Array Value) (P : Program) (w : World) :
    (results fn tmps).run P w =
      ((asAddr (tmps.getD p undef)).run P w).andThen fun a w₁ => ((loadVar ty a).run P w₁).andThen fun v w₂ => .ok (.tuple #[v, tmps.getD u undef, tmps.getD u' undef]) w₂ := by
  simp only [results, h]
  simp [Sem.run_bind, Result.andThen]
end Go.Proofs.YtcdhblfefpkjgaaDoor.LC
