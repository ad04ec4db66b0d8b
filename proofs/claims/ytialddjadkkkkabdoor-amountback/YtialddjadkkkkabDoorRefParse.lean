/-
  My own text: decimal texts, read by the document's answer; and wrong scales.
-/
import Derived.Test.YtialddjadkkkkabDoorParse2
namespace Go.Proofs.YtialddjadkkkkabDoor
open Go.RowKit

set_option maxHeartbeats 1000000 in
theorem parse_arg (l : List UInt8) (s : Int) (w : World) (h : s < 0 ∨ 18 < s) :
    Calls Tryd.prog 6 #[.string ⟨l.toArray⟩, .int .i64 s] w fun e w' => e = .returned (.tuple #[.int .i64 (pV l s), errV (pE l s)]) ∧ w' = w := by
  have H := hide (p_arg (l := l) h)
  have hb : Hid (false = decide (0 ≤ s ∧ s ≤ 18)) := by simp [Hid]; omega
  clear h
  go_enter Tryd.func6, Tryd.ntmps6
  go_wp2_with fail
  refine (isScale_any s false _ hb).mono ?_
  rintro e w0 ⟨rfl, rfl⟩
  go_wp2_with fail
  go_ret2
  exact ⟨ret_pe H.out.1.symm (errV_p (m := 1) H.out.2), rfl⟩
theorem parse_any (l : List UInt8) (s : Int) (w : World) (hl : l.length ≤ 140737488355328) :
    Calls Tryd.prog 6 #[.string ⟨l.toArray⟩, .int .i64 s] w fun e w' => e = .returned (.tuple #[.int .i64 (pV l s), errV (pE l s)]) ∧ w' = w := by
  by_cases h : s < 0 ∨ 18 < s
  · exact parse_arg l s w h
  · obtain ⟨b, rfl⟩ := Int.eq_ofNat_of_zero_le (show 0 ≤ s by omega)
    exact parse_fit l b w hl (by omega)

theorem ret_pi {a c b d : Int} (h : a = c) (h' : b = d) : Ending.returned (.tuple #[.int .i64 a, .int .i64 b]) = .returned (.tuple #[.int .i64 c, .int .i64 d]) := by rw [h, h']
end Go.Proofs.YtialddjadkkkkabDoor
