/-
  My own text: the document's Counts, At, Last over a row of versions.
-/
import Derived.Test.YtnjjehlfgoggfaaDoorHC20
namespace Go.Proofs.YtnjjehlfgoggfaaDoor
open Go.RowKit Go.Shelf

/-- The place of what counts. -/
def bI (m : Nat) : Int := (m : Int) - 1
theorem bI0 : bI 0 = -1 := rfl
theorem bIS (j : Nat) : bI (j + 1) = (j : Int) := by unfold bI; omega
theorem ris_step {L : List Ver} (hr : Ris L) {j : Nat} {p q : Ver} (hp : L[j]? = some p) (hq : L[j + 1]? = some q) : p.1 < q.1 := by
  have a := ab_self L j p hr hp
  exact ab_hi (n := p.1) hr (by omega) hq
end Go.Proofs.YtnjjehlfgoggfaaDoor
