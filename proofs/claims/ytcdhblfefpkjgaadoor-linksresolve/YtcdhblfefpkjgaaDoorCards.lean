/-
  DERIVED. GIVEN WITH THE SEED: THE CARDS: each row of YtcdhblfefpkjgaaDoorRows.lean that lists a variable, with what it lists TIED to the program's text (the seventh form; the later family's looks); each row that meets fmt, with fmt's text TOLD by the authors' own Lean function (tested against real Go, not proved from fmt's source: count such statements apart). THE CARD IS WHAT COUNTS. Prove the row's statement (the work); the ties are given (YtcdhblfefpkjgaaDoorTie.lean); close each card by the builder's one call (the guide's Derived/Test/ToyasCard.lean, 'card_holds'). Laid BY PROGRAM, IN A SANDBOX (cutbox-door.mjs). By AI agents, Wed Nov 11 2026. No macro, syntax, notation, axiom, sorry.
-/
import Derived.Test.YtcdhblfefpkjgaaDoorRows
import GoSem.ClaimSeven
namespace Go.Proofs.YtcdhblfefpkjgaaDoor
namespace Rows

/-- THE TIED CARD OF 'custodylaw23.LinksResolve'. -/
def linksResolveCard : Claim7 := { stood := { row := linksResolveRow, standIns := [], harness := (true, "de3d17a3bc03cabc5a117b78c0683e007a7853bd8a5f8698fd788767d958873d"), looks := true }, kinds := [], alts := [], laidByText := true, laidKinds := [.handle], laidTests := true, laidLooks := .later }
def LinksResolveCardSaid : Prop := Claim7.holds Tryd.pinned (.plain (OpenSpec.ofChange linksResolveSpec)) linksResolveCard

/-- THE SECOND FORM's CARD OF 'custodylaw23.LinksResolve'. -/
def linksResolveUptoCard : Claim7 := { stood := { row := linksResolveUptoRow, standIns := [], harness := (true, "de3d17a3bc03cabc5a117b78c0683e007a7853bd8a5f8698fd788767d958873d"), looks := true }, kinds := [], alts := [], laidByText := true, laidKinds := [.handle], laidTests := true, laidLooks := .later }
def LinksResolveUptoCardSaid : Prop := Claim7.holds Tryd.pinned (.plain (OpenSpec.upto linksResolveSpec)) linksResolveUptoCard
end Rows
end Go.Proofs.YtcdhblfefpkjgaaDoor
