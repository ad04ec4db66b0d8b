/-
  DERIVED. GIVEN WITH THE SEED: THE CARDS: each row of YtechjcmolccdjaaDoorRows.lean that lists a variable, with what it lists TIED to the program's text (the seventh form; the later family's looks); each row that meets fmt, with fmt's text TOLD by the authors' own Lean function (tested against real Go, not proved from fmt's source: count such statements apart). THE CARD IS WHAT COUNTS. Prove the row's statement (the work); the ties are given (YtechjcmolccdjaaDoorTie.lean); close each card by the builder's one call (the guide's Derived/Test/ToyasCard.lean, 'card_holds'). Laid BY PROGRAM, IN A SANDBOX (cutbox-door.mjs). By AI agents, Wed Nov 11 2026. No macro, syntax, notation, axiom, sorry.
-/
import Derived.Test.YtechjcmolccdjaaDoorRows
import GoSem.ClaimSeven
namespace Go.Proofs.YtechjcmolccdjaaDoor
namespace Rows

/-- THE TIED CARD OF 'custodylaw10.ChainScript'. -/
def chainScriptCard : Claim7 := { stood := { row := chainScriptRow, standIns := [], harness := (true, "0318720811754a3c177729773bab92a463c71454a88e23e0e25135d4b9a35e39"), looks := true }, kinds := [], alts := [], laidByText := true, laidKinds := [.handle], laidTests := true, laidLooks := .later }
def ChainScriptCardSaid : Prop := Claim7.holds Tryd.pinned (.plain (OpenSpec.ofChange chainScriptSpec)) chainScriptCard

/-- THE TIED CARD OF 'custodylaw10.ChainTypes'. -/
def chainTypesCard : Claim7 := { stood := { row := chainTypesRow, standIns := [], harness := (true, "0318720811754a3c177729773bab92a463c71454a88e23e0e25135d4b9a35e39"), looks := true }, kinds := [], alts := [], laidByText := true, laidKinds := [.handle], laidTests := true, laidLooks := .later }
def ChainTypesCardSaid : Prop := Claim7.holds Tryd.pinned (.plain (OpenSpec.ofChange chainTypesSpec)) chainTypesCard

/-- THE TIED CARD OF 'custodylaw10.ChainKnown'. -/
def chainKnownCard : Claim7 := { stood := { row := chainKnownRow, standIns := [], harness := (true, "0318720811754a3c177729773bab92a463c71454a88e23e0e25135d4b9a35e39"), looks := true }, kinds := [], alts := [], laidByText := true, laidKinds := [.handle], laidTests := true, laidLooks := .later }
def ChainKnownCardSaid : Prop := Claim7.holds Tryd.pinned (.plain (OpenSpec.ofChange chainKnownSpec)) chainKnownCard

/-- THE SECOND FORM's CARD OF 'custodylaw10.ChainScript'. -/
def chainScriptUptoCard : Claim7 := { stood := { row := chainScriptUptoRow, standIns := [], harness := (true, "0318720811754a3c177729773bab92a463c71454a88e23e0e25135d4b9a35e39"), looks := true }, kinds := [], alts := [], laidByText := true, laidKinds := [.handle], laidTests := true, laidLooks := .later }
def ChainScriptUptoCardSaid : Prop := Claim7.holds Tryd.pinned (.plain (OpenSpec.upto chainScriptSpec)) chainScriptUptoCard

/-- THE SECOND FORM's CARD OF 'custodylaw10.ChainTypes'. -/
def chainTypesUptoCard : Claim7 := { stood := { row := chainTypesUptoRow, standIns := [], harness := (true, "0318720811754a3c177729773bab92a463c71454a88e23e0e25135d4b9a35e39"), looks := true }, kinds := [], alts := [], laidByText := true, laidKinds := [.handle], laidTests := true, laidLooks := .later }
def ChainTypesUptoCardSaid : Prop := Claim7.holds Tryd.pinned (.plain (OpenSpec.upto chainTypesSpec)) chainTypesUptoCard

/-- THE SECOND FORM's CARD OF 'custodylaw10.ChainKnown'. -/
def chainKnownUptoCard : Claim7 := { stood := { row := chainKnownUptoRow, standIns := [], harness := (true, "0318720811754a3c177729773bab92a463c71454a88e23e0e25135d4b9a35e39"), looks := true }, kinds := [], alts := [], laidByText := true, laidKinds := [.handle], laidTests := true, laidLooks := .later }
def ChainKnownUptoCardSaid : Prop := Claim7.holds Tryd.pinned (.plain (OpenSpec.upto chainKnownSpec)) chainKnownUptoCard
end Rows
end Go.Proofs.YtechjcmolccdjaaDoor
