/-
  DERIVED. GIVEN WITH THE SEED: THE CARDS: each row of YtdfhfjkcafchiaaDoorRows.lean that lists a variable, with what it lists TIED to the program's text (the seventh form; the later family's looks); each row that meets fmt, with fmt's text TOLD by the authors' own Lean function (tested against real Go, not proved from fmt's source: count such statements apart). THE CARD IS WHAT COUNTS. Prove the row's statement (the work); the ties are given (YtdfhfjkcafchiaaDoorTie.lean); close each card by the builder's one call (the guide's Derived/Test/ToyasCard.lean, 'card_holds'). Laid BY PROGRAM, IN A SANDBOX (cutbox-door.mjs). By AI agents, Wed Nov 11 2026. No macro, syntax, notation, axiom, sorry.
-/
import Derived.Test.YtdfhfjkcafchiaaDoorRows
import GoSem.ClaimSeven
namespace Go.Proofs.YtdfhfjkcafchiaaDoor
namespace Rows

/-- THE TIED CARD OF 'custodylaw22.MatchFit'. -/
def matchFitCard : Claim7 := { stood := { row := matchFitRow, standIns := [], harness := (true, "0d5ece2b458868b3cdcb12de03e92632102b0f6de905aec3e12807b2f3e24e20"), looks := false }, kinds := [], alts := [], laidByText := true, laidKinds := [.data], laidTests := true, laidLooks := .later }
def MatchFitCardSaid : Prop := Claim7.holds Tryd.pinned (.plain (OpenSpec.ofChange matchFitSpec)) matchFitCard

/-- THE SECOND FORM's CARD OF 'custodylaw22.MatchFit'. -/
def matchFitUptoCard : Claim7 := { stood := { row := matchFitUptoRow, standIns := [], harness := (true, "0d5ece2b458868b3cdcb12de03e92632102b0f6de905aec3e12807b2f3e24e20"), looks := false }, kinds := [], alts := [], laidByText := true, laidKinds := [.data], laidTests := true, laidLooks := .later }
def MatchFitUptoCardSaid : Prop := Claim7.holds Tryd.pinned (.plain (OpenSpec.upto matchFitSpec)) matchFitUptoCard
end Rows
end Go.Proofs.YtdfhfjkcafchiaaDoor
