/-
  DERIVED. GIVEN WITH THE SEED: THE CARDS: each row of YtdjjkhoiihadoaaDoorRows.lean that lists a variable, with what it lists TIED to the program's text (the seventh form; the later family's looks); each row that meets fmt, with fmt's text TOLD by the authors' own Lean function (tested against real Go, not proved from fmt's source: count such statements apart). THE CARD IS WHAT COUNTS. Prove the row's statement (the work); the ties are given (YtdjjkhoiihadoaaDoorTie.lean); close each card by the builder's one call (the guide's Derived/Test/ToyasCard.lean, 'card_holds'). Laid BY PROGRAM, IN A SANDBOX (cutbox-door.mjs). By AI agents, Wed Nov 11 2026. No macro, syntax, notation, axiom, sorry.
-/
import Derived.Test.YtdjjkhoiihadoaaDoorRows
import GoSem.ClaimSeven
namespace Go.Proofs.YtdjjkhoiihadoaaDoor
namespace Rows

/-- THE TIED CARD OF 'custodylaw05.WireFrames'. -/
def wireFramesCard : Claim7 := { stood := { row := wireFramesRow, standIns := [], harness := (true, "c6909ddef7e80862aa0e57fd8a9467b2cfe5df59085d6c9f5c654407432e3ee1"), looks := true }, kinds := [], alts := [], laidByText := true, laidKinds := [.handle, .data], laidTests := true, laidLooks := .later }
def WireFramesCardSaid : Prop := Claim7.holds Tryd.pinned (.plain (OpenSpec.ofChange wireFramesSpec)) wireFramesCard

/-- THE TIED CARD OF 'custodylaw05.WireUnframes'. -/
def wireUnframesCard : Claim7 := { stood := { row := wireUnframesRow, standIns := [], harness := (true, "c6909ddef7e80862aa0e57fd8a9467b2cfe5df59085d6c9f5c654407432e3ee1"), looks := true }, kinds := [], alts := [], laidByText := true, laidKinds := [.handle, .data], laidTests := true, laidLooks := .later }
def WireUnframesCardSaid : Prop := Claim7.holds Tryd.pinned (.plain (OpenSpec.ofChange wireUnframesSpec)) wireUnframesCard

/-- THE SECOND FORM's CARD OF 'custodylaw05.WireFrames'. -/
def wireFramesUptoCard : Claim7 := { stood := { row := wireFramesUptoRow, standIns := [], harness := (true, "c6909ddef7e80862aa0e57fd8a9467b2cfe5df59085d6c9f5c654407432e3ee1"), looks := true }, kinds := [], alts := [], laidByText := true, laidKinds := [.handle, .data], laidTests := true, laidLooks := .later }
def WireFramesUptoCardSaid : Prop := Claim7.holds Tryd.pinned (.plain (OpenSpec.upto wireFramesSpec)) wireFramesUptoCard

/-- THE SECOND FORM's CARD OF 'custodylaw05.WireUnframes'. -/
def wireUnframesUptoCard : Claim7 := { stood := { row := wireUnframesUptoRow, standIns := [], harness := (true, "c6909ddef7e80862aa0e57fd8a9467b2cfe5df59085d6c9f5c654407432e3ee1"), looks := true }, kinds := [], alts := [], laidByText := true, laidKinds := [.handle, .data], laidTests := true, laidLooks := .later }
def WireUnframesUptoCardSaid : Prop := Claim7.holds Tryd.pinned (.plain (OpenSpec.upto wireUnframesSpec)) wireUnframesUptoCard
end Rows
end Go.Proofs.YtdjjkhoiihadoaaDoor
