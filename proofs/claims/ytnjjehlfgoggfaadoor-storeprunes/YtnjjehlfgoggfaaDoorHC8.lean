/-
  My own text: a version is put in and counts (works).
-/
import Derived.Test.YtnjjehlfgoggfaaDoorHC6
namespace Go.Proofs.YtnjjehlfgoggfaaDoor
open Go.RowKit

theorem ris1 (p : Ver) : Ris [p] := ⟨fun q hq => (by cases hq), trivial⟩
end Go.Proofs.YtnjjehlfgoggfaaDoor
