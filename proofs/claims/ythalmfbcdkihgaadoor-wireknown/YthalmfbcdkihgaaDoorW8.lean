/-
  My own text: pieces taken, texts and numbers with a sign read and written.
-/
import Derived.Test.YthalmfbcdkihgaaDoorW7
import Derived.Lib.AppendStr
import Derived.Laws.DeepNot64
namespace Go.Proofs.YthalmfbcdkihgaaDoor
open Go.RowKit Go.Extern

/-- So many bytes taken: they, those that are left, the error. -/
def rdT (size : Int) (l : List UInt8) (e : Int) : List UInt8 × List UInt8 × Int :=
  if e ≠ 0 then ([], l, e) else if (l.length : Int) < size then ([], l, 2) else (l.take size.toNat, l.drop size.toNat, 0)

set_option maxRecDepth 100000 in
set_option maxHeartbeats 1000000 in
theorem take_any (size : Int) (t r g : Nat) (l : List UInt8) (e : Int) (w : World) (h0 : 0 ≤ size) (hd : Rd w t r g l e) (he : 0 ≤ e) (hl : l.length ≤ 140737488355328) :
    Calls Tryd.prog 31 #[.pointer (some ⟨r, 0, none⟩), .int .u64 size] w fun en w' => (∃ v, en = .returned v ∧ RG w' g v (rdT size l e).1) ∧ Rd w' t r g (rdT size l e).2.1 (rdT size l e).2.2 ∧ Only r w w' := by
  obtain ⟨⟨v, hb, hg⟩, hne⟩ := hd
  have c0 : w.cell? ⟨r, 0, none⟩ = some v := hb.cell 0
  have c1 : w.cell? ⟨r, 1, none⟩ = some (errV e) := hb.cell 1
  have f0 := hb.free 0
  have f1 := hb.free 1
  have HBl := hide hb
  have HRG := hide hg
  obtain ⟨a, cap, rfl, hcap, hr⟩ := hg
  have nG := Tryd.nilNeqG
  have nN := Tryd.nilNeq
  clear hb
  have HNIL : Hid (∀ W, RG W g (.slice none 0 0) []) := hide fun W => ⟨_, _, rfl, Nat.le_refl _, .inl rfl⟩
  by_cases h : e = 0
  · subst h
    rw [errV_zero] at c1
    by_cases hs : (l.length : Int) < size
    · have : rdT size l 0 = ([], l, 2) := by unfold rdT; rw [if_neg (by simp), if_pos hs]
      rw [this]
      clear this hr
      have HD := hide (Rd.setErr (e' := 2) HBl.out HRG.out hne)
      rw [errV_pos (by decide)] at HD
      go_enter Tryd.func31, Tryd.ntmps31
      go_wp2_with fail
      go_ret
      exact ⟨⟨_, rfl, HNIL.out _⟩, HD.out, Only.set _ _ _ _⟩
    · have : rdT size l 0 = (l.take size.toNat, l.drop size.toNat, 0) := by unfold rdT; rw [if_neg (by simp), if_neg hs]
      rw [this]
      clear this
      obtain ⟨n, rfl⟩ := Int.eq_ofNat_of_zero_le h0
      rw [Int.toNat_natCast]
      have hn : n ≤ l.length := by omega
      rcases hr with hnil | ⟨off, rfl, hgl, hc⟩
      · subst hnil
        have hn0 : n = 0 := by simpa using hn
        subst hn0
        have HD := hide (Rd.setRest HBl.out HRG.out hne)
        have HG1 : Hid (∀ W, RG W g (.slice a 0 cap) []) := hide fun W => HRG.out.any
        go_enter Tryd.func31, Tryd.ntmps31
        go_wp2_with fail
        go_ret
        exact ⟨⟨_, rfl, HG1.out _⟩, HD.out, Only.set _ _ _ _⟩
      · clear hc
        by_cases hcn : cap = n
        · subst hcn
          have HD := hide (Rd.setRest HBl.out (rg_drop_all (off := off) HRG.out hcap) hne)
          have HT := hide ((rg_take HRG.out hn).keep (w1 := w.setCell ⟨r, 0, none⟩ (.slice (some ⟨g, off, none⟩) 0 0)) (by simp) (fun _ _ => Below.heap_setCell _ _ _ _ hne))
          go_enter Tryd.func31, Tryd.ntmps31
          go_wp2_with fail
          go_ret
          exact ⟨⟨_, rfl, HT.out⟩, HD.out, Only.set _ _ _ _⟩
        · have HD := hide (Rd.setRest HBl.out (rg_drop (n := n) HRG.out hn) hne)
          have HT := hide ((rg_take HRG.out hn).keep (w1 := w.setCell ⟨r, 0, none⟩ (.slice (some ⟨g, off + n, none⟩) (l.length - n) (cap - n))) (by simp) (fun _ _ => Below.heap_setCell _ _ _ _ hne))
          go_enter Tryd.func31, Tryd.ntmps31
          go_wp2_with fail
          go_ret
          exact ⟨⟨_, rfl, HT.out⟩, HD.out, Only.set _ _ _ _⟩
  · have : rdT size l e = ([], l, e) := by unfold rdT; rw [if_pos h]
    rw [this]
    rw [errV_pos (by omega)] at c1
    clear this hr
    have HD : Hid (Rd w t r g l e) := hide ⟨⟨_, HBl.out, HRG.out⟩, hne⟩
    go_enter Tryd.func31, Tryd.ntmps31
    go_wp2_with fail
    go_ret
    exact ⟨⟨_, rfl, HNIL.out _⟩, HD.out, Only.refl _ _⟩

/-! ### numbers with a sign -/
def foldI (x : Int) : Int := if x < 0 then -2 * x - 1 else 2 * x
def unfI (u : Int) : Int := if u % 2 = 1 then -(u / 2) - 1 else u / 2
theorem unf_fold {x : Int} : unfI (foldI x) = x := by
  unfold unfI foldI
  by_cases h : x < 0
  · rw [if_pos h, if_pos (by omega)]; omega
  · rw [if_neg h, if_neg (by omega)]; omega
theorem fold_unf {u : Int} (h : 0 ≤ u) : foldI (unfI u) = u := by
  unfold unfI foldI
  by_cases h1 : u % 2 = 1
  · rw [if_pos h1, if_pos (by omega)]; omega
  · rw [if_neg h1, if_neg (by omega)]; omega
theorem fold_rng {x : Int} (h1 : -9223372036854775808 ≤ x) (h2 : x ≤ 9223372036854775807) : 0 ≤ foldI x ∧ foldI x < 18446744073709551616 := by
  unfold foldI; split <;> omega
theorem unf_rng {u : Int} (h1 : 0 ≤ u) (h2 : u < 18446744073709551616) : -9223372036854775808 ≤ unfI u ∧ unfI u ≤ 9223372036854775807 := by
  unfold unfI; split <;> omega
theorem not64 {x : Int} (h1 : -9223372036854775808 ≤ x) (h2 : x ≤ 9223372036854775807) : bits .xor .i64 (-1) x = -x - 1 := by
  show IntKind.i64.wrap ((BitVec.ofInt 64 (-1) ^^^ BitVec.ofInt 64 x).toNat : Int) = _
  have e1 : BitVec.ofInt 64 (-1) = BitVec.allOnes 64 := by decide
  rw [e1, BitVec.allOnes_xor, BitVec.toNat_not, BitVec.toNat_ofInt]
  simp [IntKind.wrap, IntKind.bits, IntKind.signed]
  omega
theorem folded_any (x : Int) (w : World) (h1 : -9223372036854775808 ≤ x) (h2 : x ≤ 9223372036854775807) :
    Calls Tryd.prog 29 #[.int .i64 x] w fun en w' => en = .returned (.int .u64 (foldI x)) ∧ w' = w := by
  by_cases h : x < 0
  · have e : foldI x = 2 * (-x - 1) + 1 := by unfold foldI; rw [if_pos h]; omega
    rw [e]
    have HX := hide (not64 h1 h2)
    go_enter Tryd.func29, Tryd.ntmps29
    go_wp2
    go_ret
    exact ⟨ret_i (by rw [HX.out]; simp only [IntKind.wrap_u64]; omega), rfl⟩
  · have e : foldI x = 2 * x := by unfold foldI; rw [if_neg h]
    rw [e]
    go_enter Tryd.func29, Tryd.ntmps29
    go_wp2
    go_ret
    exact ⟨rfl, rfl⟩
theorem unfolded_any (u : Int) (w : World) (h1 : 0 ≤ u) (h2 : u < 18446744073709551616) :
    Calls Tryd.prog 81 #[.int .u64 u] w fun en w' => en = .returned (.int .i64 (unfI u)) ∧ w' = w := by
  by_cases h : u % 2 = 1
  · have e : unfI u = -(u / 2) - 1 := by unfold unfI; rw [if_pos h]
    rw [e]
    have hb : ((u % 2) == 1) = true := by simpa using h
    clear h
    have HX := hide (not64 (x := u / 2) (by omega) (by omega))
    go_enter Tryd.func81, Tryd.ntmps81
    go_wp2
    go_ret
    exact ⟨ret_i HX.out, rfl⟩
  · have e : unfI u = u / 2 := by unfold unfI; rw [if_neg h]
    rw [e]
    have hb : ((u % 2) == 1) = false := by simpa using h
    clear h
    go_enter Tryd.func81, Tryd.ntmps81
    go_wp2
    go_ret
    exact ⟨rfl, rfl⟩

/-! ### numbers with a sign, read and written -/
def rdI (l : List UInt8) (e : Int) : Int × List UInt8 × Int := (unfI (rdU 18446744073709551615 l e).1, (rdU 18446744073709551615 l e).2)
theorem rdU_rng (most : Int) (l : List UInt8) (e : Int) (he : 0 ≤ e) (h24 : e ≤ 24) : 0 ≤ (rdU most l e).1 ∧ (rdU most l e).1 < 18446744073709551616 ∧ 0 ≤ (rdU most l e).2.2 ∧ (rdU most l e).2.2 ≤ 24 ∧ (rdU most l e).2.1.length ≤ l.length := by
  obtain ⟨x0, x1, hcase, hsz⟩ := beg_rng l
  unfold rdU
  split
  · exact ⟨Int.le_refl _, by show (0 : Int) < _; omega, he, h24, Nat.le_refl _⟩
  · split
    · refine ⟨Int.le_refl _, by show (0 : Int) < _; omega, ?_, ?_, Nat.le_refl _⟩
      · show 0 ≤ (beg l).2.2; omega
      · show (beg l).2.2 ≤ 24; omega
    · split
      · exact ⟨Int.le_refl _, by show (0 : Int) < _; omega, by show (0 : Int) ≤ 5; omega, by show (5 : Int) ≤ 24; omega, Nat.le_refl _⟩
      · exact ⟨x0, x1, by show (0 : Int) ≤ 0; omega, by show (0 : Int) ≤ 24; omega, by show (l.drop _).length ≤ _; rw [List.length_drop]; omega⟩
set_option maxRecDepth 100000 in
theorem readInt_any (t r g : Nat) (l : List UInt8) (e : Int) (w : World) (hd : Rd w t r g l e) (he : 0 ≤ e) (h24 : e ≤ 24) (hl : l.length ≤ 140737488355328) :
    Calls Tryd.prog 68 #[.pointer (some ⟨r, 0, none⟩)] w fun en w' => en = .returned (.int .i64 (rdI l e).1) ∧ Rd w' t r g (rdI l e).2.1 (rdI l e).2.2 ∧ Only r w w' := by
  have HU := hide (srcUint_any 18446744073709551615 t r g l e w hd he hl)
  obtain ⟨x0, x1, _⟩ := rdU_rng 18446744073709551615 l e he h24
  have HF := hide (fun W : World => unfolded_any _ W x0 x1)
  unfold rdI
  clear hd
  go_enter Tryd.func68, Tryd.ntmps68
  go_wp2_with fail
  refine HU.out.mono ?_
  rintro en w1 ⟨rfl, hd, ho⟩
  go_wp2_with fail
  refine (HF.out _).mono ?_
  rintro en w2 ⟨rfl, hw⟩
  obtain rfl := hw.symm
  go_wp2_with fail
  go_ret
  exact ⟨rfl, hd, ho⟩
set_option maxRecDepth 100000 in
theorem writeInt_any (x : Int) (B q : Nat) (v : Value) (l : List UInt8) (w : World) (h1 : -9223372036854775808 ≤ x) (h2 : x ≤ 9223372036854775807) (hw : Wr w B q v l) (hl : l.length ≤ 140737488355200) :
    Calls Tryd.prog 8 #[.pointer (some ⟨q, 0, none⟩), .int .i64 x] w fun e w' => e = .returned (.tuple #[]) ∧ ∃ v', Wr w' B q v' (l ++ form (foldI x)) ∧ Moved w w' q v v' := by
  have HF := hide (folded_any x w h1 h2)
  obtain ⟨f0, f1⟩ := fold_rng h1 h2
  have HU := hide (writeUint_any (foldI x) B q v l w f0 f1 hw hl)
  clear hw
  go_enter Tryd.func8, Tryd.ntmps8
  go_wp2_with fail
  refine HF.out.mono ?_
  rintro en w1 ⟨rfl, hw⟩
  obtain rfl := hw.symm
  go_wp2_with fail
  refine HU.out.mono ?_
  rintro en w1 ⟨rfl, hh⟩
  have HH := hide hh
  clear hh
  go_wp2_with fail
  go_end0
  exact ⟨rfl, HH.out⟩
end Go.Proofs.YthalmfbcdkihgaaDoor
