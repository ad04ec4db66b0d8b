/-
  My own text: the document's Copy and Put over a row of versions.
-/
import Derived.Test.YtnjjehlfgoggfaaDoorHD1
namespace Go.Proofs.YtnjjehlfgoggfaaDoor
open Go.RowKit Go.Shelf

theorem vc_snoc (K : List Ver) (p : Ver) : vc K ++ [.int .i64 p.1, .string ⟨p.2.toArray⟩] = vc (K ++ [p]) := by rw [vc_app]; rfl
end Go.Proofs.YtnjjehlfgoggfaaDoor
