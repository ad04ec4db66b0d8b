/-
  DERIVED. GIVEN WITH THE SEED: THE CARDS: each row of YtpkgaidnpooahaaGreatDoorRows.lean that lists a variable, with what it lists TIED to the program's text (the seventh form; the later family's looks); each row that meets fmt, with fmt's text TOLD by the authors' own Lean function (tested against real Go, not proved from fmt's source: count such statements apart). THE CARD IS WHAT COUNTS. Prove the row's statement (the work); the ties are given (YtpkgaidnpooahaaGreatDoorTie.lean); close each card by the builder's one call (the guide's Derived/Test/ToyasCard.lean, 'card_holds'). Laid BY PROGRAM, IN A SANDBOX (cutbox-door.mjs). By AI agents, Wed Nov 11 2026. No macro, syntax, notation, axiom, sorry.
-/
import Derived.Test.YtpkgaidnpooahaaGreatDoorRows
import GoSem.ClaimSeven
namespace Go.Proofs.YtpkgaidnpooahaaGreatDoor
namespace Rows

/-- THE TIED CARD OF 'custodylaw06.TagsKnown'. -/
def tagsKnownCard : Claim7 := { stood := { row := tagsKnownRow, standIns := [], harness := (true, "172be564fffa017f8effaf086d78a16198ea7f24efaf52673d656a379a43db95"), looks := true }, kinds := [], alts := [], laidByText := true, laidKinds := [.handle], laidTests := true, laidLooks := .later }
def TagsKnownCardSaid : Prop := Claim7.holds Tryz.pinned (.plain (OpenSpec.ofChange tagsKnownSpec)) tagsKnownCard

/-- THE SECOND FORM's CARD OF 'custodylaw06.TagsKnown'. -/
def tagsKnownUptoCard : Claim7 := { stood := { row := tagsKnownUptoRow, standIns := [], harness := (true, "172be564fffa017f8effaf086d78a16198ea7f24efaf52673d656a379a43db95"), looks := true }, kinds := [], alts := [], laidByText := true, laidKinds := [.handle], laidTests := true, laidLooks := .later }
def TagsKnownUptoCardSaid : Prop := Claim7.holds Tryz.pinned (.plain (OpenSpec.upto tagsKnownSpec)) tagsKnownUptoCard
end Rows
end Go.Proofs.YtpkgaidnpooahaaGreatDoor
