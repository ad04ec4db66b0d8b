/-
  DERIVED. GIVEN WITH THE SEED: THE CARDS: each row of YtkpmmcekcpbilabDoorRows.lean that lists a variable, with what it lists TIED to the program's text (the seventh form; the later family's looks); each row that meets fmt, with fmt's text TOLD by the authors' own Lean function (tested against real Go, not proved from fmt's source: count such statements apart). THE CARD IS WHAT COUNTS. Prove the row's statement (the work); the ties are given (YtkpmmcekcpbilabDoorTie.lean); close each card by the builder's one call (the guide's Derived/Test/ToyasCard.lean, 'card_holds'). Laid BY PROGRAM, IN A SANDBOX (cutbox-door.mjs). By AI agents, Wed Nov 11 2026. No macro, syntax, notation, axiom, sorry.
-/
import Derived.Test.YtkpmmcekcpbilabDoorRows
import GoSem.ClaimSeven
namespace Go.Proofs.YtkpmmcekcpbilabDoor
namespace Rows

/-- THE TIED CARD OF 'custodylaw02.CodesLuhn'. -/
def codesLuhnCard : Claim7 := { stood := { row := codesLuhnRow, standIns := [], harness := (true, "501890f3337a7c5190266d1d96c37137ab944f06f7b48454a18f0897d0b9822b"), looks := true }, kinds := [], alts := [], laidByText := true, laidKinds := [.handle], laidTests := true, laidLooks := .later }
def CodesLuhnCardSaid : Prop := Claim7.holds Tryd.pinned (.plain (OpenSpec.ofChange codesLuhnSpec)) codesLuhnCard

/-- THE TIED CARD OF 'custodylaw02.CodesMod97'. -/
def codesMod97Card : Claim7 := { stood := { row := codesMod97Row, standIns := [], harness := (true, "501890f3337a7c5190266d1d96c37137ab944f06f7b48454a18f0897d0b9822b"), looks := true }, kinds := [], alts := [], laidByText := true, laidKinds := [.handle], laidTests := true, laidLooks := .later }
def CodesMod97CardSaid : Prop := Claim7.holds Tryd.pinned (.plain (OpenSpec.ofChange codesMod97Spec)) codesMod97Card

/-- THE SECOND FORM's CARD OF 'custodylaw02.CodesLuhn'. -/
def codesLuhnUptoCard : Claim7 := { stood := { row := codesLuhnUptoRow, standIns := [], harness := (true, "501890f3337a7c5190266d1d96c37137ab944f06f7b48454a18f0897d0b9822b"), looks := true }, kinds := [], alts := [], laidByText := true, laidKinds := [.handle], laidTests := true, laidLooks := .later }
def CodesLuhnUptoCardSaid : Prop := Claim7.holds Tryd.pinned (.plain (OpenSpec.upto codesLuhnSpec)) codesLuhnUptoCard

/-- THE SECOND FORM's CARD OF 'custodylaw02.CodesMod97'. -/
def codesMod97UptoCard : Claim7 := { stood := { row := codesMod97UptoRow, standIns := [], harness := (true, "501890f3337a7c5190266d1d96c37137ab944f06f7b48454a18f0897d0b9822b"), looks := true }, kinds := [], alts := [], laidByText := true, laidKinds := [.handle], laidTests := true, laidLooks := .later }
def CodesMod97UptoCardSaid : Prop := Claim7.holds Tryd.pinned (.plain (OpenSpec.upto codesMod97Spec)) codesMod97UptoCard
end Rows
end Go.Proofs.YtkpmmcekcpbilabDoor
