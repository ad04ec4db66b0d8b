/-
  DERIVED. GIVEN WITH THE SEED: THE CARDS: each row of YtnjjehlfgoggfaaDoorRows.lean that lists a variable, with what it lists TIED to the program's text (the seventh form; the later family's looks); each row that meets fmt, with fmt's text TOLD by the authors' own Lean function (tested against real Go, not proved from fmt's source: count such statements apart). THE CARD IS WHAT COUNTS. Prove the row's statement (the work); the ties are given (YtnjjehlfgoggfaaDoorTie.lean); close each card by the builder's one call (the guide's Derived/Test/ToyasCard.lean, 'card_holds'). Laid BY PROGRAM, IN A SANDBOX (cutbox-door.mjs). By AI agents, Wed Nov 11 2026. No macro, syntax, notation, axiom, sorry.
-/
import Derived.Test.YtnjjehlfgoggfaaDoorRows
import GoSem.ClaimSeven
namespace Go.Proofs.YtnjjehlfgoggfaaDoor
namespace Rows

/-- THE TIED CARD OF 'custodylaw11.StoreReaders'. -/
def storeReadersCard : Claim7 := { stood := { row := storeReadersRow, standIns := [], harness := (true, "0cd68404f13d79f7b04148564800b9085b41b6ca839d31d62ecfa1a7f3b9fac5"), looks := true }, kinds := [], alts := [], laidByText := true, laidKinds := [.handle], laidTests := true, laidLooks := .later }
def StoreReadersCardSaid : Prop := Claim7.holds Tryd.pinned (.plain (OpenSpec.ofChange storeReadersSpec)) storeReadersCard

/-- THE TIED CARD OF 'custodylaw11.StorePrunes'. -/
def storePrunesCard : Claim7 := { stood := { row := storePrunesRow, standIns := [], harness := (true, "0cd68404f13d79f7b04148564800b9085b41b6ca839d31d62ecfa1a7f3b9fac5"), looks := true }, kinds := [], alts := [], laidByText := true, laidKinds := [.handle], laidTests := true, laidLooks := .later }
def StorePrunesCardSaid : Prop := Claim7.holds Tryd.pinned (.plain (OpenSpec.ofChange storePrunesSpec)) storePrunesCard

/-- THE SECOND FORM's CARD OF 'custodylaw11.StoreReaders'. -/
def storeReadersUptoCard : Claim7 := { stood := { row := storeReadersUptoRow, standIns := [], harness := (true, "0cd68404f13d79f7b04148564800b9085b41b6ca839d31d62ecfa1a7f3b9fac5"), looks := true }, kinds := [], alts := [], laidByText := true, laidKinds := [.handle], laidTests := true, laidLooks := .later }
def StoreReadersUptoCardSaid : Prop := Claim7.holds Tryd.pinned (.plain (OpenSpec.upto storeReadersSpec)) storeReadersUptoCard

/-- THE SECOND FORM's CARD OF 'custodylaw11.StorePrunes'. -/
def storePrunesUptoCard : Claim7 := { stood := { row := storePrunesUptoRow, standIns := [], harness := (true, "0cd68404f13d79f7b04148564800b9085b41b6ca839d31d62ecfa1a7f3b9fac5"), looks := true }, kinds := [], alts := [], laidByText := true, laidKinds := [.handle], laidTests := true, laidLooks := .later }
def StorePrunesUptoCardSaid : Prop := Claim7.holds Tryd.pinned (.plain (OpenSpec.upto storePrunesSpec)) storePrunesUptoCard
end Rows
end Go.Proofs.YtnjjehlfgoggfaaDoor
