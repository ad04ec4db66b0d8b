/-
  DERIVED. GIVEN WITH THE SEED: THE CARDS: each row of YthnfalhhaijeeaaDoorRows.lean that lists a variable, with what it lists TIED to the program's text (the seventh form; the later family's looks); each row that meets fmt, with fmt's text TOLD by the authors' own Lean function (tested against real Go, not proved from fmt's source: count such statements apart). THE CARD IS WHAT COUNTS. Prove the row's statement (the work); the ties are given (YthnfalhhaijeeaaDoorTie.lean); close each card by the builder's one call (the guide's Derived/Test/ToyasCard.lean, 'card_holds'). Laid BY PROGRAM, IN A SANDBOX (cutbox-door.mjs). By AI agents, Wed Nov 11 2026. No macro, syntax, notation, axiom, sorry.
-/
import Derived.Test.YthnfalhhaijeeaaDoorRows
import GoSem.ClaimSeven
namespace Go.Proofs.YthnfalhhaijeeaaDoor
namespace Rows

/-- THE TIED CARD OF 'custodylaw06.TagsPlaces'. -/
def tagsPlacesCard : Claim7 := { stood := { row := tagsPlacesRow, standIns := [], harness := (true, "3f89710378819152ff2fee704e91112af73a498304395c139a22e38e56f833e4"), looks := true }, kinds := [], alts := [], laidByText := true, laidKinds := [.handle], laidTests := true, laidLooks := .later }
def TagsPlacesCardSaid : Prop := Claim7.holds Tryd.pinned (.plain (OpenSpec.ofChange tagsPlacesSpec)) tagsPlacesCard

/-- THE SECOND FORM's CARD OF 'custodylaw06.TagsPlaces'. -/
def tagsPlacesUptoCard : Claim7 := { stood := { row := tagsPlacesUptoRow, standIns := [], harness := (true, "3f89710378819152ff2fee704e91112af73a498304395c139a22e38e56f833e4"), looks := true }, kinds := [], alts := [], laidByText := true, laidKinds := [.handle], laidTests := true, laidLooks := .later }
def TagsPlacesUptoCardSaid : Prop := Claim7.holds Tryd.pinned (.plain (OpenSpec.upto tagsPlacesSpec)) tagsPlacesUptoCard
end Rows
end Go.Proofs.YthnfalhhaijeeaaDoor
