/-
  DERIVED. GIVEN WITH THE SEED: THE CARDS: each row of YtknnojjfdfkdmaaGreatDoorRows.lean that lists a variable, with what it lists TIED to the program's text (the seventh form; the later family's looks); each row that meets fmt, with fmt's text TOLD by the authors' own Lean function (tested against real Go, not proved from fmt's source: count such statements apart). THE CARD IS WHAT COUNTS. Prove the row's statement (the work); the ties are given (YtknnojjfdfkdmaaGreatDoorTie.lean); close each card by the builder's one call (the guide's Derived/Test/ToyasCard.lean, 'card_holds'). Laid BY PROGRAM, IN A SANDBOX (cutbox-door.mjs). By AI agents, Wed Nov 11 2026. No macro, syntax, notation, axiom, sorry.
-/
import Derived.Test.YtknnojjfdfkdmaaGreatDoorRows
import GoSem.ClaimSeven
namespace Go.Proofs.YtknnojjfdfkdmaaGreatDoor
namespace Rows

/-- THE TIED CARD OF 'custodylaw19.QueueKnown'. -/
def queueKnownCard : Claim7 := { stood := { row := queueKnownRow, standIns := [], harness := (true, "a3013b6f7c367ce4960cdc8726480ee23453ab8f429068e50a5ac17cad87672c"), looks := true }, kinds := [], alts := [], laidByText := true, laidKinds := [.handle], laidTests := true, laidLooks := .later }
def QueueKnownCardSaid : Prop := Claim7.holds Tryz.pinned (.plain (OpenSpec.ofChange queueKnownSpec)) queueKnownCard

/-- THE SECOND FORM's CARD OF 'custodylaw19.QueueKnown'. -/
def queueKnownUptoCard : Claim7 := { stood := { row := queueKnownUptoRow, standIns := [], harness := (true, "a3013b6f7c367ce4960cdc8726480ee23453ab8f429068e50a5ac17cad87672c"), looks := true }, kinds := [], alts := [], laidByText := true, laidKinds := [.handle], laidTests := true, laidLooks := .later }
def QueueKnownUptoCardSaid : Prop := Claim7.holds Tryz.pinned (.plain (OpenSpec.upto queueKnownSpec)) queueKnownUptoCard
end Rows
end Go.Proofs.YtknnojjfdfkdmaaGreatDoor
