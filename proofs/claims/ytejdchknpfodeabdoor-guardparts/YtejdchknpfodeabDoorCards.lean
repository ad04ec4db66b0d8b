/-
  DERIVED. GIVEN WITH THE SEED: THE CARDS: each row of YtejdchknpfodeabDoorRows.lean that lists a variable, with what it lists TIED to the program's text (the seventh form; the later family's looks); each row that meets fmt, with fmt's text TOLD by the authors' own Lean function (tested against real Go, not proved from fmt's source: count such statements apart). THE CARD IS WHAT COUNTS. Prove the row's statement (the work); the ties are given (YtejdchknpfodeabDoorTie.lean); close each card by the builder's one call (the guide's Derived/Test/ToyasCard.lean, 'card_holds'). Laid BY PROGRAM, IN A SANDBOX (cutbox-door.mjs). By AI agents, Wed Nov 11 2026. No macro, syntax, notation, axiom, sorry.
-/
import Derived.Test.YtejdchknpfodeabDoorRows
import GoSem.ClaimSeven
namespace Go.Proofs.YtejdchknpfodeabDoor
namespace Rows

/-- THE TIED CARD OF 'custodylaw16.GuardParts'. -/
def guardPartsCard : Claim7 := { stood := { row := guardPartsRow, standIns := [], harness := (true, "7f1ee36888f64e687b1bdbc9a49f89f85ac9b6a739e974d626f5bee228809e87"), looks := true }, kinds := [], alts := [], laidByText := true, laidKinds := [.handle], laidTests := true, laidLooks := .later }
def GuardPartsCardSaid : Prop := Claim7.holds Tryd.pinned (.plain (OpenSpec.ofChange guardPartsSpec)) guardPartsCard

/-- THE SECOND FORM's CARD OF 'custodylaw16.GuardParts'. -/
def guardPartsUptoCard : Claim7 := { stood := { row := guardPartsUptoRow, standIns := [], harness := (true, "7f1ee36888f64e687b1bdbc9a49f89f85ac9b6a739e974d626f5bee228809e87"), looks := true }, kinds := [], alts := [], laidByText := true, laidKinds := [.handle], laidTests := true, laidLooks := .later }
def GuardPartsUptoCardSaid : Prop := Claim7.holds Tryd.pinned (.plain (OpenSpec.upto guardPartsSpec)) guardPartsUptoCard
end Rows
end Go.Proofs.YtejdchknpfodeabDoor
