/-
  DERIVED. GIVEN WITH THE SEED: THE CARDS: each row of YtbkgegiglegnjaaDoorRows.lean that lists a variable, with what it lists TIED to the program's text (the seventh form; the later family's looks); each row that meets fmt, with fmt's text TOLD by the authors' own Lean function (tested against real Go, not proved from fmt's source: count such statements apart). THE CARD IS WHAT COUNTS. Prove the row's statement (the work); the ties are given (YtbkgegiglegnjaaDoorTie.lean); close each card by the builder's one call (the guide's Derived/Test/ToyasCard.lean, 'card_holds'). Laid BY PROGRAM, IN A SANDBOX (cutbox-door.mjs). By AI agents, Wed Nov 11 2026. No macro, syntax, notation, axiom, sorry.
-/
import Derived.Test.YtbkgegiglegnjaaDoorRows
import GoSem.ClaimSeven
namespace Go.Proofs.YtbkgegiglegnjaaDoor
namespace Rows

/-- THE TIED CARD OF 'custodylaw05.WireReads'. -/
def wireReadsCard : Claim7 := { stood := { row := wireReadsRow, standIns := [], harness := (true, "88ca287e11e04498c14936c03115c9e7d4bd6cc1b74d3a0e5ee0935b84da2368"), looks := true }, kinds := [], alts := [], laidByText := true, laidKinds := [.handle], laidTests := true, laidLooks := .later }
def WireReadsCardSaid : Prop := Claim7.holds Tryd.pinned (.plain (OpenSpec.ofChange wireReadsSpec)) wireReadsCard

/-- THE TIED CARD OF 'custodylaw05.WireSum'. -/
def wireSumCard : Claim7 := { stood := { row := wireSumRow, standIns := [], harness := (true, "88ca287e11e04498c14936c03115c9e7d4bd6cc1b74d3a0e5ee0935b84da2368"), looks := true }, kinds := [], alts := [], laidByText := true, laidKinds := [.data], laidTests := true, laidLooks := .later }
def WireSumCardSaid : Prop := Claim7.holds Tryd.pinned (.plain (OpenSpec.ofChange wireSumSpec)) wireSumCard

/-- THE TIED CARD OF 'custodylaw05.WireFrames'. -/
def wireFramesCard : Claim7 := { stood := { row := wireFramesRow, standIns := [], harness := (true, "88ca287e11e04498c14936c03115c9e7d4bd6cc1b74d3a0e5ee0935b84da2368"), looks := true }, kinds := [], alts := [], laidByText := true, laidKinds := [.handle, .data], laidTests := true, laidLooks := .later }
def WireFramesCardSaid : Prop := Claim7.holds Tryd.pinned (.plain (OpenSpec.ofChange wireFramesSpec)) wireFramesCard

/-- THE TIED CARD OF 'custodylaw05.WireUnframes'. -/
def wireUnframesCard : Claim7 := { stood := { row := wireUnframesRow, standIns := [], harness := (true, "88ca287e11e04498c14936c03115c9e7d4bd6cc1b74d3a0e5ee0935b84da2368"), looks := true }, kinds := [], alts := [], laidByText := true, laidKinds := [.handle, .data], laidTests := true, laidLooks := .later }
def WireUnframesCardSaid : Prop := Claim7.holds Tryd.pinned (.plain (OpenSpec.ofChange wireUnframesSpec)) wireUnframesCard

/-- THE TIED CARD OF 'custodylaw05.WireKnown'. -/
def wireKnownCard : Claim7 := { stood := { row := wireKnownRow, standIns := [], harness := (true, "88ca287e11e04498c14936c03115c9e7d4bd6cc1b74d3a0e5ee0935b84da2368"), looks := true }, kinds := [], alts := [], laidByText := true, laidKinds := [.handle, .data], laidTests := true, laidLooks := .later }
def WireKnownCardSaid : Prop := Claim7.holds Tryd.pinned (.plain (OpenSpec.ofChange wireKnownSpec)) wireKnownCard

/-- THE SECOND FORM's CARD OF 'custodylaw05.WireReads'. -/
def wireReadsUptoCard : Claim7 := { stood := { row := wireReadsUptoRow, standIns := [], harness := (true, "88ca287e11e04498c14936c03115c9e7d4bd6cc1b74d3a0e5ee0935b84da2368"), looks := true }, kinds := [], alts := [], laidByText := true, laidKinds := [.handle], laidTests := true, laidLooks := .later }
def WireReadsUptoCardSaid : Prop := Claim7.holds Tryd.pinned (.plain (OpenSpec.upto wireReadsSpec)) wireReadsUptoCard

/-- THE SECOND FORM's CARD OF 'custodylaw05.WireSum'. -/
def wireSumUptoCard : Claim7 := { stood := { row := wireSumUptoRow, standIns := [], harness := (true, "88ca287e11e04498c14936c03115c9e7d4bd6cc1b74d3a0e5ee0935b84da2368"), looks := true }, kinds := [], alts := [], laidByText := true, laidKinds := [.data], laidTests := true, laidLooks := .later }
def WireSumUptoCardSaid : Prop := Claim7.holds Tryd.pinned (.plain (OpenSpec.upto wireSumSpec)) wireSumUptoCard

/-- THE SECOND FORM's CARD OF 'custodylaw05.WireFrames'. -/
def wireFramesUptoCard : Claim7 := { stood := { row := wireFramesUptoRow, standIns := [], harness := (true, "88ca287e11e04498c14936c03115c9e7d4bd6cc1b74d3a0e5ee0935b84da2368"), looks := true }, kinds := [], alts := [], laidByText := true, laidKinds := [.handle, .data], laidTests := true, laidLooks := .later }
def WireFramesUptoCardSaid : Prop := Claim7.holds Tryd.pinned (.plain (OpenSpec.upto wireFramesSpec)) wireFramesUptoCard

/-- THE SECOND FORM's CARD OF 'custodylaw05.WireUnframes'. -/
def wireUnframesUptoCard : Claim7 := { stood := { row := wireUnframesUptoRow, standIns := [], harness := (true, "88ca287e11e04498c14936c03115c9e7d4bd6cc1b74d3a0e5ee0935b84da2368"), looks := true }, kinds := [], alts := [], laidByText := true, laidKinds := [.handle, .data], laidTests := true, laidLooks := .later }
def WireUnframesUptoCardSaid : Prop := Claim7.holds Tryd.pinned (.plain (OpenSpec.upto wireUnframesSpec)) wireUnframesUptoCard

/-- THE SECOND FORM's CARD OF 'custodylaw05.WireKnown'. -/
def wireKnownUptoCard : Claim7 := { stood := { row := wireKnownUptoRow, standIns := [], harness := (true, "88ca287e11e04498c14936c03115c9e7d4bd6cc1b74d3a0e5ee0935b84da2368"), looks := true }, kinds := [], alts := [], laidByText := true, laidKinds := [.handle, .data], laidTests := true, laidLooks := .later }
def WireKnownUptoCardSaid : Prop := Claim7.holds Tryd.pinned (.plain (OpenSpec.upto wireKnownSpec)) wireKnownUptoCard
end Rows
end Go.Proofs.YtbkgegiglegnjaaDoor
