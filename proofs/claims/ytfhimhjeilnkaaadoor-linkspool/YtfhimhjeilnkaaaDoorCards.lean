/-
  DERIVED. GIVEN WITH THE SEED: THE CARDS: each row of YtfhimhjeilnkaaaDoorRows.lean that lists a variable, with what it lists TIED to the program's text (the seventh form; the later family's looks); each row that meets fmt, with fmt's text TOLD by the authors' own Lean function (tested against real Go, not proved from fmt's source: count such statements apart). THE CARD IS WHAT COUNTS. Prove the row's statement (the work); the ties are given (YtfhimhjeilnkaaaDoorTie.lean); close each card by the builder's one call (the guide's Derived/Test/ToyasCard.lean, 'card_holds'). Laid BY PROGRAM, IN A SANDBOX (cutbox-door.mjs). By AI agents, Wed Nov 11 2026. No macro, syntax, notation, axiom, sorry.
-/
import Derived.Test.YtfhimhjeilnkaaaDoorRows
import GoSem.ClaimSeven
namespace Go.Proofs.YtfhimhjeilnkaaaDoor
namespace Rows

/-- THE TIED CARD OF 'custodylaw23.LinksPool'. -/
def linksPoolCard : Claim7 := { stood := { row := linksPoolRow, standIns := [], harness := (true, "bec5f363a0a62031339a704a89e66b4a2b54e77e624aedb7d9de759fe4c9220a"), looks := true }, kinds := [], alts := [], laidByText := true, laidKinds := [.handle], laidTests := true, laidLooks := .later }
def LinksPoolCardSaid : Prop := Claim7.holds Tryd.pinned (.plain (OpenSpec.ofChange linksPoolSpec)) linksPoolCard

/-- THE SECOND FORM's CARD OF 'custodylaw23.LinksPool'. -/
def linksPoolUptoCard : Claim7 := { stood := { row := linksPoolUptoRow, standIns := [], harness := (true, "bec5f363a0a62031339a704a89e66b4a2b54e77e624aedb7d9de759fe4c9220a"), looks := true }, kinds := [], alts := [], laidByText := true, laidKinds := [.handle], laidTests := true, laidLooks := .later }
def LinksPoolUptoCardSaid : Prop := Claim7.holds Tryd.pinned (.plain (OpenSpec.upto linksPoolSpec)) linksPoolUptoCard
end Rows
end Go.Proofs.YtfhimhjeilnkaaaDoor
