/-
  DERIVED. GIVEN WITH THE SEED: THE CARDS: each row of YtmgjonifoeeemaaDoorRows.lean that lists a variable, with what it lists TIED to the program's text (the seventh form; the later family's looks); each row that meets fmt, with fmt's text TOLD by the authors' own Lean function (tested against real Go, not proved from fmt's source: count such statements apart). THE CARD IS WHAT COUNTS. Prove the row's statement (the work); the ties are given (YtmgjonifoeeemaaDoorTie.lean); close each card by the builder's one call (the guide's Derived/Test/ToyasCard.lean, 'card_holds'). Laid BY PROGRAM, IN A SANDBOX (cutbox-door.mjs). By AI agents, Wed Nov 11 2026. No macro, syntax, notation, axiom, sorry.
-/
import Derived.Test.YtmgjonifoeeemaaDoorRows
import GoSem.ClaimSeven
namespace Go.Proofs.YtmgjonifoeeemaaDoor
namespace Rows

/-- THE TIED CARD OF 'custodylaw23.LinksGroups'. -/
def linksGroupsCard : Claim7 := { stood := { row := linksGroupsRow, standIns := [], harness := (true, "47f205c951773daa729778a6d024cf05ad05f46cbef2c10ae4a483821633a953"), looks := true }, kinds := [], alts := [], laidByText := true, laidKinds := [.handle], laidTests := true, laidLooks := .later }
def LinksGroupsCardSaid : Prop := Claim7.holds Tryd.pinned (.plain (OpenSpec.ofChange linksGroupsSpec)) linksGroupsCard

/-- THE SECOND FORM's CARD OF 'custodylaw23.LinksGroups'. -/
def linksGroupsUptoCard : Claim7 := { stood := { row := linksGroupsUptoRow, standIns := [], harness := (true, "47f205c951773daa729778a6d024cf05ad05f46cbef2c10ae4a483821633a953"), looks := true }, kinds := [], alts := [], laidByText := true, laidKinds := [.handle], laidTests := true, laidLooks := .later }
def LinksGroupsUptoCardSaid : Prop := Claim7.holds Tryd.pinned (.plain (OpenSpec.upto linksGroupsSpec)) linksGroupsUptoCard
end Rows
end Go.Proofs.YtmgjonifoeeemaaDoor
