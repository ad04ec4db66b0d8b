/-
  My own text: a version is put in and counts (works).
-/
import Derived.Test.YtechjcmolccdjaaHC6
namespace Go.Proofs.Ytechjcmolccdjaa
open Go.RowKit

theorem ris1 (p : Ver) : Ris [p] := ⟨fun q hq => (by cases hq), trivial⟩
end Go.Proofs.Ytechjcmolccdjaa
