/-
  My own text: are two rows of Keys the same? A row copied (printed by mkrow16.py out of PX4).
-/
import Derived.Test.YtejdchknpfodeabDoorGKR
namespace Go.Proofs.YtejdchknpfodeabDoor.KY
open Go.RowKit

theorem take_step {A B : List El} {k : Nat} {p : El} (h : A.take k = B.take k) (ha : A[k]? = some p) (hb : B[k]? = some p) : A.take (k + 1) = B.take (k + 1) := by
  rw [List.take_add_one, List.take_add_one, h, ha, hb]
theorem take_ne {A B : List El} {k : Nat} {p q : El} (ha : A[k]? = some p) (hb : B[k]? = some q) (h : ¬ p = q) : ¬ A = B := fun e => by
  rw [e, hb] at ha; exact h (Option.some.inj ha).symm
end Go.Proofs.YtejdchknpfodeabDoor.KY
