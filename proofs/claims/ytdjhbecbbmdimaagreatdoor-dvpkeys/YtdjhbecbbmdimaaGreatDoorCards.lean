/-
  DERIVED. GIVEN WITH THE SEED: THE CARDS: each row of YtdjhbecbbmdimaaGreatDoorRows.lean that lists a variable, with what it lists TIED to the program's text (the seventh form; the later family's looks); each row that meets fmt, with fmt's text TOLD by the authors' own Lean function (tested against real Go, not proved from fmt's source: count such statements apart). THE CARD IS WHAT COUNTS. Prove the row's statement (the work); the ties are given (YtdjhbecbbmdimaaGreatDoorTie.lean); close each card by the builder's one call (the guide's Derived/Test/ToyasCard.lean, 'card_holds'). Laid BY PROGRAM, IN A SANDBOX (cutbox-door.mjs). By AI agents, Wed Nov 11 2026. No macro, syntax, notation, axiom, sorry.
-/
import Derived.Test.YtdjhbecbbmdimaaGreatDoorRows
import GoSem.ClaimSeven
namespace Go.Proofs.YtdjhbecbbmdimaaGreatDoor
namespace Rows

/-- THE TIED CARD OF 'custodylaw17.DvpKeys'. -/
def dvpKeysCard : Claim7 := { stood := { row := dvpKeysRow, standIns := [], harness := (true, "debebfe0c6d6838e1443f57267800a6bf5044e0a65d0ef193757ec5ccd617a16"), looks := true }, kinds := [], alts := [], laidByText := true, laidKinds := [.handle], laidTests := true, laidLooks := .later }
def DvpKeysCardSaid : Prop := Claim7.holds Tryz.pinned (.plain (OpenSpec.ofChange dvpKeysSpec)) dvpKeysCard

/-- THE SECOND FORM's CARD OF 'custodylaw17.DvpKeys'. -/
def dvpKeysUptoCard : Claim7 := { stood := { row := dvpKeysUptoRow, standIns := [], harness := (true, "debebfe0c6d6838e1443f57267800a6bf5044e0a65d0ef193757ec5ccd617a16"), looks := true }, kinds := [], alts := [], laidByText := true, laidKinds := [.handle], laidTests := true, laidLooks := .later }
def DvpKeysUptoCardSaid : Prop := Claim7.holds Tryz.pinned (.plain (OpenSpec.upto dvpKeysSpec)) dvpKeysUptoCard
end Rows
end Go.Proofs.YtdjhbecbbmdimaaGreatDoor
