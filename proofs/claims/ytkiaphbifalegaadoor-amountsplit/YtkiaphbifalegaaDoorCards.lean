/-
  DERIVED. GIVEN WITH THE SEED: THE CARDS: each row of YtkiaphbifalegaaDoorRows.lean that lists a variable, with what it lists TIED to the program's text (the seventh form; the later family's looks); each row that meets fmt, with fmt's text TOLD by the authors' own Lean function (tested against real Go, not proved from fmt's source: count such statements apart). THE CARD IS WHAT COUNTS. Prove the row's statement (the work); the ties are given (YtkiaphbifalegaaDoorTie.lean); close each card by the builder's one call (the guide's Derived/Test/ToyasCard.lean, 'card_holds'). Laid BY PROGRAM, IN A SANDBOX (cutbox-door.mjs). By AI agents, Wed Nov 11 2026. No macro, syntax, notation, axiom, sorry.
-/
import Derived.Test.YtkiaphbifalegaaDoorRows
import GoSem.ClaimSeven
namespace Go.Proofs.YtkiaphbifalegaaDoor
namespace Rows

/-- THE TIED CARD OF 'custodylaw01.AmountSplit'. -/
def amountSplitCard : Claim7 := { stood := { row := amountSplitRow, standIns := [], harness := (true, "ef2e9ec22168364aacb19c2760a0ce8ab099ba0acdc99439f335a20cac4c1341"), looks := true }, kinds := [], alts := [], laidByText := true, laidKinds := [.handle], laidTests := true, laidLooks := .later }
def AmountSplitCardSaid : Prop := Claim7.holds Tryd.pinned (.plain (OpenSpec.ofChange amountSplitSpec)) amountSplitCard

/-- THE SECOND FORM's CARD OF 'custodylaw01.AmountSplit'. -/
def amountSplitUptoCard : Claim7 := { stood := { row := amountSplitUptoRow, standIns := [], harness := (true, "ef2e9ec22168364aacb19c2760a0ce8ab099ba0acdc99439f335a20cac4c1341"), looks := true }, kinds := [], alts := [], laidByText := true, laidKinds := [.handle], laidTests := true, laidLooks := .later }
def AmountSplitUptoCardSaid : Prop := Claim7.holds Tryd.pinned (.plain (OpenSpec.upto amountSplitSpec)) amountSplitUptoCard
end Rows
end Go.Proofs.YtkiaphbifalegaaDoor
