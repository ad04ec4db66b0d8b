/-
  DERIVED. GIVEN WITH THE SEED: THE CARDS: each row of YtbnjahldbnanbaaDoorRows.lean that lists a variable, with what it lists TIED to the program's text (the seventh form; the later family's looks); each row that meets fmt, with fmt's text TOLD by the authors' own Lean function (tested against real Go, not proved from fmt's source: count such statements apart). THE CARD IS WHAT COUNTS. Prove the row's statement (the work); the ties are given (YtbnjahldbnanbaaDoorTie.lean); close each card by the builder's one call (the guide's Derived/Test/ToyasCard.lean, 'card_holds'). Laid BY PROGRAM, IN A SANDBOX (cutbox-door.mjs). By AI agents, Wed Nov 11 2026. No macro, syntax, notation, axiom, sorry.
-/
import Derived.Test.YtbnjahldbnanbaaDoorRows
import GoSem.ClaimSeven
namespace Go.Proofs.YtbnjahldbnanbaaDoor
namespace Rows

/-- THE TIED CARD OF 'custodylaw06.TagsParse'. -/
def tagsParseCard : Claim7 := { stood := { row := tagsParseRow, standIns := [], harness := (true, "ce4da4d09d2064ad1704cb457ba565b983558656cdf0abf5bdeb4c26be9ee97b"), looks := true }, kinds := [], alts := [], laidByText := true, laidKinds := [.handle], laidTests := true, laidLooks := .later }
def TagsParseCardSaid : Prop := Claim7.holds Tryd.pinned (.plain (OpenSpec.ofChange tagsParseSpec)) tagsParseCard

/-- THE SECOND FORM's CARD OF 'custodylaw06.TagsParse'. -/
def tagsParseUptoCard : Claim7 := { stood := { row := tagsParseUptoRow, standIns := [], harness := (true, "ce4da4d09d2064ad1704cb457ba565b983558656cdf0abf5bdeb4c26be9ee97b"), looks := true }, kinds := [], alts := [], laidByText := true, laidKinds := [.handle], laidTests := true, laidLooks := .later }
def TagsParseUptoCardSaid : Prop := Claim7.holds Tryd.pinned (.plain (OpenSpec.upto tagsParseSpec)) tagsParseUptoCard
end Rows
end Go.Proofs.YtbnjahldbnanbaaDoor
