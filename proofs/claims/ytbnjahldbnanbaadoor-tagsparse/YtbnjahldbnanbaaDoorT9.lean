/-
  My own text: how many bytes a message has; is it small?
-/
import Derived.Test.YtbnjahldbnanbaaDoorT8
import Derived.Deep.Draws
namespace Go.Proofs.YtbnjahldbnanbaaDoor
open Go.RowKit

theorem RT_drew {w : World} {v : Value} {l : List Tr} (h : RT w v l) (q : Nat) : RT (w.drewN q) v l := RT_later h ⟨rfl, rfl, rfl, Nat.le_refl _, fun _ _ => rfl⟩
end Go.Proofs.YtbnjahldbnanbaaDoor
