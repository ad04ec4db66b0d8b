/-
  DERIVED. GIVEN WITH THE SEED: THE CARDS: each row of YtbkgegiglegnjabDoorRows.lean that lists a variable, with what it lists TIED to the program's text (the seventh form; the later family's looks); each row that meets fmt, with fmt's text TOLD by the authors' own Lean function (tested against real Go, not proved from fmt's source: count such statements apart). THE CARD IS WHAT COUNTS. Prove the row's statement (the work); the ties are given (YtbkgegiglegnjabDoorTie.lean); close each card by the builder's one call (the guide's Derived/Test/ToyasCard.lean, 'card_holds'). Laid BY PROGRAM, IN A SANDBOX (cutbox-door.mjs). By AI agents, Wed Nov 11 2026. No macro, syntax, notation, axiom, sorry.
-/
import Derived.Test.YtbkgegiglegnjabDoorRows
import GoSem.ClaimSeven
namespace Go.Proofs.YtbkgegiglegnjabDoor
namespace Rows

/-- THE TIED CARD OF 'custodylaw05.WireFramed'. -/
def wireFramedCard : Claim7 := { stood := { row := wireFramedRow, standIns := [], harness := (true, "8ba55db7125efa9d06233e8f4f7c21388edc0ce719c2968c2ae7f9ffd25c220a"), looks := true }, kinds := [], alts := [], laidByText := true, laidKinds := [.handle, .data], laidTests := true, laidLooks := .later }
def WireFramedCardSaid : Prop := Claim7.holds Tryd.pinned (.plain (OpenSpec.ofChange wireFramedSpec)) wireFramedCard

/-- THE TIED CARD OF 'custodylaw05.WireBurst'. -/
def wireBurstCard : Claim7 := { stood := { row := wireBurstRow, standIns := [], harness := (true, "8ba55db7125efa9d06233e8f4f7c21388edc0ce719c2968c2ae7f9ffd25c220a"), looks := true }, kinds := [], alts := [], laidByText := true, laidKinds := [.handle, .data], laidTests := true, laidLooks := .later }
def WireBurstCardSaid : Prop := Claim7.holds Tryd.pinned (.plain (OpenSpec.ofChange wireBurstSpec)) wireBurstCard

/-- THE SECOND FORM's CARD OF 'custodylaw05.WireFramed'. -/
def wireFramedUptoCard : Claim7 := { stood := { row := wireFramedUptoRow, standIns := [], harness := (true, "8ba55db7125efa9d06233e8f4f7c21388edc0ce719c2968c2ae7f9ffd25c220a"), looks := true }, kinds := [], alts := [], laidByText := true, laidKinds := [.handle, .data], laidTests := true, laidLooks := .later }
def WireFramedUptoCardSaid : Prop := Claim7.holds Tryd.pinned (.plain (OpenSpec.upto wireFramedSpec)) wireFramedUptoCard

/-- THE SECOND FORM's CARD OF 'custodylaw05.WireBurst'. -/
def wireBurstUptoCard : Claim7 := { stood := { row := wireBurstUptoRow, standIns := [], harness := (true, "8ba55db7125efa9d06233e8f4f7c21388edc0ce719c2968c2ae7f9ffd25c220a"), looks := true }, kinds := [], alts := [], laidByText := true, laidKinds := [.handle, .data], laidTests := true, laidLooks := .later }
def WireBurstUptoCardSaid : Prop := Claim7.holds Tryd.pinned (.plain (OpenSpec.upto wireBurstSpec)) wireBurstUptoCard
end Rows
end Go.Proofs.YtbkgegiglegnjabDoor
