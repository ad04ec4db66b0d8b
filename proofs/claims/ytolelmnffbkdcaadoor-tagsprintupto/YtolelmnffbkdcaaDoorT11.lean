/-
  My own text: the document's Print; a builder in a sheet.
-/
import Derived.Test.YtolelmnffbkdcaaDoorT10
import Derived.Lib.Builder
import Derived.Lib.OthersKept
namespace Go.Proofs.YtolelmnffbkdcaaDoor
open Go.RowKit

def prE (l : List Tr) : Int := if errL l 0 ≠ 0 then errL l 0 else if 1048576 < (txtL l).length then 5 else 0
def prT (l : List Tr) : List UInt8 := if prE l = 0 then txtL l else []
set_option maxRecDepth 100000 in
set_option maxHeartbeats 2000000 in
theorem refPrint_any (l : List Tr) (v : Value) (w : World) (hD : wts l ≤ 1099511627776) (hv : RT w v l) :
    Calls Tryd.prog 5 #[v] w fun e w' => e = .returned (.tuple #[.string ⟨(prT l).toArray⟩, .int .i64 (prE l)]) ∧ Below w.heap.size w w' := by
  have HL := hide (refLines_any (wts l) l v 0 w (Nat.le_refl _) hD (by omega) (by omega) hv)
  have HLEN := hide (txtL_len _ l (Nat.le_refl _))
  clear hv
  by_cases he : errL l 0 = 0
  · have H1 : Hid (lnT l 0 = txtL l) := by show _ = _; unfold lnT; rw [if_pos he]
    rw [H1.out, he] at HL
    by_cases hm : 1048576 < (txtL l).length
    · have HE : Hid (prE l = 5) := by show _ = _; unfold prE; rw [if_neg (by simp [he]), if_pos hm]
      have HT : Hid (prT l = []) := by show _ = _; unfold prT; rw [HE.out]; rfl
      have hlen2 : (txtL l).length ≤ 15393162788864 := by have := HLEN.out; omega
      generalize txtL l = X at *
      clear he
      go_enter Tryd.func5, Tryd.ntmps5
      go_wp2_with fail
      refine HL.out.mono ?_
      rintro e w1 ⟨rfl, hb1⟩
      go_wp2_with fail
      go_ret2
      exact ⟨ret_ti HT.out.symm HE.out.symm, hb1⟩
    · have HE : Hid (prE l = 0) := by show _ = _; unfold prE; rw [if_neg (by simp [he]), if_neg hm]
      have HT : Hid (prT l = txtL l) := by show _ = _; unfold prT; rw [HE.out]; rfl
      generalize txtL l = X at *
      clear he
      go_enter Tryd.func5, Tryd.ntmps5
      go_wp2_with fail
      refine HL.out.mono ?_
      rintro e w1 ⟨rfl, hb1⟩
      go_wp2_with fail
      go_ret2
      exact ⟨ret_ti HT.out.symm HE.out.symm, hb1⟩
  · have H1 : Hid (lnT l 0 = []) := by show _ = _; unfold lnT; rw [if_neg he]
    rw [H1.out] at HL
    have HE : Hid (prE l = errL l 0) := by show _ = _; unfold prE; rw [if_pos he]
    have HT : Hid (prT l = []) := by show _ = _; unfold prT; rw [HE.out, if_neg he]
    obtain ⟨q1, q2⟩ : ((errL l 0 == 0) = false) ∧ ((errL l 0 != 0) = true) := ⟨beq_eq_false_iff_ne.2 he, bne_iff_ne.2 he⟩
    generalize errL l 0 = E at *
    clear he
    go_enter Tryd.func5, Tryd.ntmps5
    go_wp2_with fail
    refine HL.out.mono ?_
    rintro e w1 ⟨rfl, hb1⟩
    go_wp2_with fail
    go_ret2
    exact ⟨ret_ti HT.out.symm HE.out.symm, hb1⟩
theorem Tryd.sizeBld : (Tryd.prog.info? 39).map (·.size) = some 2 := by kernel_rfl
theorem Tryd.liesBld : liesAt Tryd.prog Tryd.prog.depth 41 (3 / Tryd.prog.cellsOf 41) 0 39 1 = true := by kernel_rfl
set_option maxRecDepth 100000 in
set_option maxHeartbeats 2000000 in
theorem copyFresh (b : Nat) (w : World) (v : Value) (n : Int) (hb : w.heap[b]? = some (.cells #[.pointer none, v, .int .i64 n] 41 (0, 0))) :
    Calls Tryd.prog 52 #[.pointer (some ⟨b, 0, none⟩)] w fun e w' => e = .returned (.tuple #[]) ∧ w' = w.setCell ⟨b, 0, none⟩ (.pointer (some ⟨b, 0, none⟩)) := by
  obtain ⟨j, hj, hjs⟩ := Option.map_eq_some_iff.1 Tryd.sizeBld
  have c0 : w.cell? ⟨b, 0, none⟩ = some (.pointer none) := by rw [cell_of_row _ _ 0 _ _ _ hb]; rfl
  have f0 : w.frozen? ⟨b, 0, none⟩ = false := by unfold World.frozen?; simp [hb]
  have hsh : w.shape? b = some (41, 3) := by simp [World.shape?, hb]
  have u1 := Lib.run_to_unsafe (P := Tryd.prog) w ⟨b, 0, none⟩ Tryd.underlying36 Tryd.underlying60 hj (by rw [hjs]; decide) hsh (show 0 < 3 by decide)
  have u2 := Lib.run_from_unsafe (P := Tryd.prog) w ⟨b, 0, none⟩ Tryd.underlying60 Tryd.underlying36 hj hsh Tryd.liesBld
  clear hsh hjs hj hb
  go_enter Tryd.func52, Tryd.ntmps52
  go_wp2_with fail
  rw [run_callFunc_extern Tryd.func59 (by kernel_rfl) (by kernel_rfl) (by kernel_rfl) (e := Extern.AbiNoEscape.same) (by kernel_rfl)]
  rw [Lib.run_noEscape]
  simp only [Result.andThen]
  rw [Oper.upon_value]
  go_wp2_with fail
  go_end0
  exact ⟨rfl, rfl⟩
end Go.Proofs.YtolelmnffbkdcaaDoor
