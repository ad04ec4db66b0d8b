/-
  DERIVED. GIVEN WITH THE SEED: THE CARDS: each row of YtehacdijleommaaGreatDoorRows.lean that lists a variable, with what it lists TIED to the program's text (the seventh form; the later family's looks); each row that meets fmt, with fmt's text TOLD by the authors' own Lean function (tested against real Go, not proved from fmt's source: count such statements apart). THE CARD IS WHAT COUNTS. Prove the row's statement (the work); the ties are given (YtehacdijleommaaGreatDoorTie.lean); close each card by the builder's one call (the guide's Derived/Test/ToyasCard.lean, 'card_holds'). Laid BY PROGRAM, IN A SANDBOX (cutbox-door.mjs). By AI agents, Wed Nov 11 2026. No macro, syntax, notation, axiom, sorry.
-/
import Derived.Test.YtehacdijleommaaGreatDoorRows
import GoSem.ClaimSeven
namespace Go.Proofs.YtehacdijleommaaGreatDoor
namespace Rows

/-- THE TIED CARD OF 'custodylaw11.StoreShards'. -/
def storeShardsCard : Claim7 := { stood := { row := storeShardsRow, standIns := [], harness := (true, "ee4b0bdca56ce236adf832555354ed48fa63661fb91804029721f155ede99147"), looks := true }, kinds := [], alts := [], laidByText := true, laidKinds := [.handle], laidTests := true, laidLooks := .later }
def StoreShardsCardSaid : Prop := Claim7.holds Tryz.pinned (.plain (OpenSpec.ofChange storeShardsSpec)) storeShardsCard

/-- THE SECOND FORM's CARD OF 'custodylaw11.StoreShards'. -/
def storeShardsUptoCard : Claim7 := { stood := { row := storeShardsUptoRow, standIns := [], harness := (true, "ee4b0bdca56ce236adf832555354ed48fa63661fb91804029721f155ede99147"), looks := true }, kinds := [], alts := [], laidByText := true, laidKinds := [.handle], laidTests := true, laidLooks := .later }
def StoreShardsUptoCardSaid : Prop := Claim7.holds Tryz.pinned (.plain (OpenSpec.upto storeShardsSpec)) storeShardsUptoCard
end Rows
end Go.Proofs.YtehacdijleommaaGreatDoor
