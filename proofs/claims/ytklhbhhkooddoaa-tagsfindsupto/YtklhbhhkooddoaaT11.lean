/-
  My own text: the document's Print; a builder in a sheet.
-/
import Derived.Test.YtklhbhhkooddoaaT10
import Derived.Lib.Builder
import Derived.Lib.OthersKept
namespace Go.Proofs.Ytklhbhhkooddoaa
open Go.RowKit

def prE (l : List Tr) : Int := if errL l 0 ≠ 0 then errL l 0 else if 1048576 < (txtL l).length then 5 else 0
def prT (l : List Tr) : List UInt8 := if prE l = 0 then txtL l else []
theorem Try.sizeBld : (Try.prog.info? 54).map (·.size) = some 2 := by kernel_rfl
theorem Try.liesBld : liesAt Try.prog Try.prog.depth 56 (3 / Try.prog.cellsOf 56) 0 54 1 = true := by kernel_rfl
set_option maxRecDepth 100000 in
set_option maxHeartbeats 2000000 in
theorem copyFresh (b : Nat) (w : World) (v : Value) (n : Int) (hb : w.heap[b]? = some (.cells #[.pointer none, v, .int .i64 n] 56 (0, 0))) :
    Calls Try.prog 59 #[.pointer (some ⟨b, 0, none⟩)] w fun e w' => e = .returned (.tuple #[]) ∧ w' = w.setCell ⟨b, 0, none⟩ (.pointer (some ⟨b, 0, none⟩)) := by
  obtain ⟨j, hj, hjs⟩ := Option.map_eq_some_iff.1 Try.sizeBld
  have c0 : w.cell? ⟨b, 0, none⟩ = some (.pointer none) := by rw [cell_of_row _ _ 0 _ _ _ hb]; rfl
  have f0 : w.frozen? ⟨b, 0, none⟩ = false := by unfold World.frozen?; simp [hb]
  have hsh : w.shape? b = some (56, 3) := by simp [World.shape?, hb]
  have u1 := Lib.run_to_unsafe (P := Try.prog) w ⟨b, 0, none⟩ Try.underlying52 Try.underlying92 hj (by rw [hjs]; decide) hsh (show 0 < 3 by decide)
  have u2 := Lib.run_from_unsafe (P := Try.prog) w ⟨b, 0, none⟩ Try.underlying92 Try.underlying52 hj hsh Try.liesBld
  clear hsh hjs hj hb
  go_enter Try.func59, Try.ntmps59
  go_wp2_with fail
  rw [run_callFunc_extern Try.func67 (by kernel_rfl) (by kernel_rfl) (by kernel_rfl) (e := Extern.AbiNoEscape.same) (by kernel_rfl)]
  rw [Lib.run_noEscape]
  simp only [Result.andThen]
  rw [Oper.upon_value]
  go_wp2_with fail
  go_end0
  exact ⟨rfl, rfl⟩
end Go.Proofs.Ytklhbhhkooddoaa
