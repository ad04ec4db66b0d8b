/-
  My own text: pieces taken, texts and numbers with a sign read and written.
-/
import Derived.Test.YtejbhminkhoniaaW7
import Derived.Lib.AppendStr
import Derived.Laws.DeepNot64
namespace Go.Proofs.Ytejbhminkhoniaa
open Go.RowKit Go.Extern

/-- So many bytes taken: they, those that are left, the error. -/
def rdT (size : Int) (l : List UInt8) (e : Int) : List UInt8 × List UInt8 × Int :=
  if e ≠ 0 then ([], l, e) else if (l.length : Int) < size then ([], l, 2) else (l.take size.toNat, l.drop size.toNat, 0)


/-! ### numbers with a sign -/
def foldI (x : Int) : Int := if x < 0 then -2 * x - 1 else 2 * x
def unfI (u : Int) : Int := if u % 2 = 1 then -(u / 2) - 1 else u / 2
theorem unf_fold {x : Int} : unfI (foldI x) = x := by
  unfold unfI foldI
  by_cases h : x < 0
  · rw [if_pos h, if_pos (by omega)]; omega
  · rw [if_neg h, if_neg (by omega)]; omega
theorem fold_unf {u : Int} (h : 0 ≤ u) : foldI (unfI u) = u := by
  unfold unfI foldI
  by_cases h1 : u % 2 = 1
  · rw [if_pos h1, if_pos (by omega)]; omega
  · rw [if_neg h1, if_neg (by omega)]; omega
theorem fold_rng {x : Int} (h1 : -9223372036854775808 ≤ x) (h2 : x ≤ 9223372036854775807) : 0 ≤ foldI x ∧ foldI x < 18446744073709551616 := by
  unfold foldI; split <;> omega
theorem unf_rng {u : Int} (h1 : 0 ≤ u) (h2 : u < 18446744073709551616) : -9223372036854775808 ≤ unfI u ∧ unfI u ≤ 9223372036854775807 := by
  unfold unfI; split <;> omega
theorem not64 {x : Int} (h1 : -9223372036854775808 ≤ x) (h2 : x ≤ 9223372036854775807) : bits .xor .i64 (-1) x = -x - 1 := by
  show IntKind.i64.wrap ((BitVec.ofInt 64 (-1) ^^^ BitVec.ofInt 64 x).toNat : Int) = _
  have e1 : BitVec.ofInt 64 (-1) = BitVec.allOnes 64 := by decide
  rw [e1, BitVec.allOnes_xor, BitVec.toNat_not, BitVec.toNat_ofInt]
  simp [IntKind.wrap, IntKind.bits, IntKind.signed]
  omega
theorem folded_any (x : Int) (w : World) (h1 : -9223372036854775808 ≤ x) (h2 : x ≤ 9223372036854775807) :
    Calls Try.prog 27 #[.int .i64 x] w fun en w' => en = .returned (.int .u64 (foldI x)) ∧ w' = w := by
  by_cases h : x < 0
  · have e : foldI x = 2 * (-x - 1) + 1 := by unfold foldI; rw [if_pos h]; omega
    rw [e]
    have HX := hide (not64 h1 h2)
    go_enter Try.func27, Try.ntmps27
    go_wp2
    go_ret
    exact ⟨ret_i (by rw [HX.out]; simp only [IntKind.wrap_u64]; omega), rfl⟩
  · have e : foldI x = 2 * x := by unfold foldI; rw [if_neg h]
    rw [e]
    go_enter Try.func27, Try.ntmps27
    go_wp2
    go_ret
    exact ⟨rfl, rfl⟩

/-! ### numbers with a sign, read and written -/
def rdI (l : List UInt8) (e : Int) : Int × List UInt8 × Int := (unfI (rdU 18446744073709551615 l e).1, (rdU 18446744073709551615 l e).2)
theorem rdU_rng (most : Int) (l : List UInt8) (e : Int) (he : 0 ≤ e) (h24 : e ≤ 24) : 0 ≤ (rdU most l e).1 ∧ (rdU most l e).1 < 18446744073709551616 ∧ 0 ≤ (rdU most l e).2.2 ∧ (rdU most l e).2.2 ≤ 24 ∧ (rdU most l e).2.1.length ≤ l.length := by
  obtain ⟨x0, x1, hcase, hsz⟩ := beg_rng l
  unfold rdU
  split
  · exact ⟨Int.le_refl _, by show (0 : Int) < _; omega, he, h24, Nat.le_refl _⟩
  · split
    · refine ⟨Int.le_refl _, by show (0 : Int) < _; omega, ?_, ?_, Nat.le_refl _⟩
      · show 0 ≤ (beg l).2.2; omega
      · show (beg l).2.2 ≤ 24; omega
    · split
      · exact ⟨Int.le_refl _, by show (0 : Int) < _; omega, by show (0 : Int) ≤ 5; omega, by show (5 : Int) ≤ 24; omega, Nat.le_refl _⟩
      · exact ⟨x0, x1, by show (0 : Int) ≤ 0; omega, by show (0 : Int) ≤ 24; omega, by show (l.drop _).length ≤ _; rw [List.length_drop]; omega⟩
set_option maxRecDepth 100000 in
theorem writeInt_any (x : Int) (B q : Nat) (v : Value) (l : List UInt8) (w : World) (h1 : -9223372036854775808 ≤ x) (h2 : x ≤ 9223372036854775807) (hw : Wr w B q v l) (hl : l.length ≤ 140737488355200) :
    Calls Try.prog 18 #[.pointer (some ⟨q, 0, none⟩), .int .i64 x] w fun e w' => e = .returned (.tuple #[]) ∧ ∃ v', Wr w' B q v' (l ++ form (foldI x)) ∧ Moved w w' q v v' := by
  have HF := hide (folded_any x w h1 h2)
  obtain ⟨f0, f1⟩ := fold_rng h1 h2
  have HU := hide (writeUint_any (foldI x) B q v l w f0 f1 hw hl)
  clear hw
  go_enter Try.func18, Try.ntmps18
  go_wp2_with fail
  refine HF.out.mono ?_
  rintro en w1 ⟨rfl, hw⟩
  obtain rfl := hw.symm
  go_wp2_with fail
  refine HU.out.mono ?_
  rintro en w1 ⟨rfl, hh⟩
  have HH := hide hh
  clear hh
  go_wp2_with fail
  go_end0
  exact ⟨rfl, HH.out⟩
end Go.Proofs.Ytejbhminkhoniaa
