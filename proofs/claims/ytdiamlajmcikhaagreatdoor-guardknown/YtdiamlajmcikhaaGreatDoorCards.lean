/-
  DERIVED. GIVEN WITH THE SEED: THE CARDS: each row of YtdiamlajmcikhaaGreatDoorRows.lean that lists a variable, with what it lists TIED to the program's text (the seventh form; the later family's looks); each row that meets fmt, with fmt's text TOLD by the authors' own Lean function (tested against real Go, not proved from fmt's source: count such statements apart). THE CARD IS WHAT COUNTS. Prove the row's statement (the work); the ties are given (YtdiamlajmcikhaaGreatDoorTie.lean); close each card by the builder's one call (the guide's Derived/Test/ToyasCard.lean, 'card_holds'). Laid BY PROGRAM, IN A SANDBOX (cutbox-door.mjs). By AI agents, Wed Nov 11 2026. No macro, syntax, notation, axiom, sorry.
-/
import Derived.Test.YtdiamlajmcikhaaGreatDoorRows
import GoSem.ClaimSeven
namespace Go.Proofs.YtdiamlajmcikhaaGreatDoor
namespace Rows

/-- THE TIED CARD OF 'custodylaw16.GuardKnown'. -/
def guardKnownCard : Claim7 := { stood := { row := guardKnownRow, standIns := [], harness := (true, "43b9d24e74d5257354696ee3aefe581fa3a3bea2c2f93dc03631a161bab32f99"), looks := true }, kinds := [], alts := [], laidByText := true, laidKinds := [.handle], laidTests := true, laidLooks := .later }
def GuardKnownCardSaid : Prop := Claim7.holds Tryz.pinned (.plain (OpenSpec.ofChange guardKnownSpec)) guardKnownCard

/-- THE SECOND FORM's CARD OF 'custodylaw16.GuardKnown'. -/
def guardKnownUptoCard : Claim7 := { stood := { row := guardKnownUptoRow, standIns := [], harness := (true, "43b9d24e74d5257354696ee3aefe581fa3a3bea2c2f93dc03631a161bab32f99"), looks := true }, kinds := [], alts := [], laidByText := true, laidKinds := [.handle], laidTests := true, laidLooks := .later }
def GuardKnownUptoCardSaid : Prop := Claim7.holds Tryz.pinned (.plain (OpenSpec.upto guardKnownSpec)) guardKnownUptoCard
end Rows
end Go.Proofs.YtdiamlajmcikhaaGreatDoor
