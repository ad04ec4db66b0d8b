/-
  DERIVED. GIVEN WITH THE SEED: THE CARDS: each row of YtieinnhiaomliaaDoorRows.lean that lists a variable, with what it lists TIED to the program's text (the seventh form; the later family's looks); each row that meets fmt, with fmt's text TOLD by the authors' own Lean function (tested against real Go, not proved from fmt's source: count such statements apart). THE CARD IS WHAT COUNTS. Prove the row's statement (the work); the ties are given (YtieinnhiaomliaaDoorTie.lean); close each card by the builder's one call (the guide's Derived/Test/ToyasCard.lean, 'card_holds'). Laid BY PROGRAM, IN A SANDBOX (cutbox-door.mjs). By AI agents, Wed Nov 11 2026. No macro, syntax, notation, axiom, sorry.
-/
import Derived.Test.YtieinnhiaomliaaDoorRows
import GoSem.ClaimSeven
namespace Go.Proofs.YtieinnhiaomliaaDoor
namespace Rows

/-- THE TIED CARD OF 'custodylaw23.LinksOrder'. -/
def linksOrderCard : Claim7 := { stood := { row := linksOrderRow, standIns := [], harness := (true, "ff54ec9674fe1eb0582ec137415251db2b2ef83815e99f984bd6a4c28ad34294"), looks := true }, kinds := [], alts := [], laidByText := true, laidKinds := [.handle], laidTests := true, laidLooks := .later }
def LinksOrderCardSaid : Prop := Claim7.holds Tryd.pinned (.plain (OpenSpec.ofChange linksOrderSpec)) linksOrderCard

/-- THE SECOND FORM's CARD OF 'custodylaw23.LinksOrder'. -/
def linksOrderUptoCard : Claim7 := { stood := { row := linksOrderUptoRow, standIns := [], harness := (true, "ff54ec9674fe1eb0582ec137415251db2b2ef83815e99f984bd6a4c28ad34294"), looks := true }, kinds := [], alts := [], laidByText := true, laidKinds := [.handle], laidTests := true, laidLooks := .later }
def LinksOrderUptoCardSaid : Prop := Claim7.holds Tryd.pinned (.plain (OpenSpec.upto linksOrderSpec)) linksOrderUptoCard
end Rows
end Go.Proofs.YtieinnhiaomliaaDoor
