/-
  DERIVED. GIVEN WITH THE SEED: THE CARDS: each row of YtkpmmcekcpbilaaDoorRows.lean that lists a variable, with what it lists TIED to the program's text (the seventh form; the later family's looks); each row that meets fmt, with fmt's text TOLD by the authors' own Lean function (tested against real Go, not proved from fmt's source: count such statements apart). THE CARD IS WHAT COUNTS. Prove the row's statement (the work); the ties are given (YtkpmmcekcpbilaaDoorTie.lean); close each card by the builder's one call (the guide's Derived/Test/ToyasCard.lean, 'card_holds'). Laid BY PROGRAM, IN A SANDBOX (cutbox-door.mjs). By AI agents, Wed Nov 11 2026. No macro, syntax, notation, axiom, sorry.
-/
import Derived.Test.YtkpmmcekcpbilaaDoorRows
import GoSem.ClaimSeven
namespace Go.Proofs.YtkpmmcekcpbilaaDoor
namespace Rows

/-- THE TIED CARD OF 'custodylaw02.CodesIsin'. -/
def codesIsinCard : Claim7 := { stood := { row := codesIsinRow, standIns := [], harness := (true, "4116c18e4b3262935618822954de6f1b517d725e0b0576b19fdf918ebc9e6777"), looks := true }, kinds := [], alts := [], laidByText := true, laidKinds := [.handle], laidTests := true, laidLooks := .later }
def CodesIsinCardSaid : Prop := Claim7.holds Tryd.pinned (.plain (OpenSpec.ofChange codesIsinSpec)) codesIsinCard

/-- THE TIED CARD OF 'custodylaw02.CodesLei'. -/
def codesLeiCard : Claim7 := { stood := { row := codesLeiRow, standIns := [], harness := (true, "4116c18e4b3262935618822954de6f1b517d725e0b0576b19fdf918ebc9e6777"), looks := true }, kinds := [], alts := [], laidByText := true, laidKinds := [.handle], laidTests := true, laidLooks := .later }
def CodesLeiCardSaid : Prop := Claim7.holds Tryd.pinned (.plain (OpenSpec.ofChange codesLeiSpec)) codesLeiCard

/-- THE TIED CARD OF 'custodylaw02.CodesForms'. -/
def codesFormsCard : Claim7 := { stood := { row := codesFormsRow, standIns := [], harness := (true, "4116c18e4b3262935618822954de6f1b517d725e0b0576b19fdf918ebc9e6777"), looks := true }, kinds := [], alts := [], laidByText := true, laidKinds := [.data, .handle], laidTests := true, laidLooks := .later }
def CodesFormsCardSaid : Prop := Claim7.holds Tryd.pinned (.plain (OpenSpec.ofChange codesFormsSpec)) codesFormsCard

/-- THE TIED CARD OF 'custodylaw02.CodesKnown'. -/
def codesKnownCard : Claim7 := { stood := { row := codesKnownRow, standIns := [], harness := (true, "4116c18e4b3262935618822954de6f1b517d725e0b0576b19fdf918ebc9e6777"), looks := true }, kinds := [], alts := [], laidByText := true, laidKinds := [.data, .handle], laidTests := true, laidLooks := .later }
def CodesKnownCardSaid : Prop := Claim7.holds Tryd.pinned (.plain (OpenSpec.ofChange codesKnownSpec)) codesKnownCard

/-- THE TIED CARD OF 'custodylaw02.CodesBack'. -/
def codesBackCard : Claim7 := { stood := { row := codesBackRow, standIns := [], harness := (true, "4116c18e4b3262935618822954de6f1b517d725e0b0576b19fdf918ebc9e6777"), looks := true }, kinds := [], alts := [], laidByText := true, laidKinds := [.handle], laidTests := true, laidLooks := .later }
def CodesBackCardSaid : Prop := Claim7.holds Tryd.pinned (.plain (OpenSpec.ofChange codesBackSpec)) codesBackCard

/-- THE SECOND FORM's CARD OF 'custodylaw02.CodesIsin'. -/
def codesIsinUptoCard : Claim7 := { stood := { row := codesIsinUptoRow, standIns := [], harness := (true, "4116c18e4b3262935618822954de6f1b517d725e0b0576b19fdf918ebc9e6777"), looks := true }, kinds := [], alts := [], laidByText := true, laidKinds := [.handle], laidTests := true, laidLooks := .later }
def CodesIsinUptoCardSaid : Prop := Claim7.holds Tryd.pinned (.plain (OpenSpec.upto codesIsinSpec)) codesIsinUptoCard

/-- THE SECOND FORM's CARD OF 'custodylaw02.CodesLei'. -/
def codesLeiUptoCard : Claim7 := { stood := { row := codesLeiUptoRow, standIns := [], harness := (true, "4116c18e4b3262935618822954de6f1b517d725e0b0576b19fdf918ebc9e6777"), looks := true }, kinds := [], alts := [], laidByText := true, laidKinds := [.handle], laidTests := true, laidLooks := .later }
def CodesLeiUptoCardSaid : Prop := Claim7.holds Tryd.pinned (.plain (OpenSpec.upto codesLeiSpec)) codesLeiUptoCard

/-- THE SECOND FORM's CARD OF 'custodylaw02.CodesForms'. -/
def codesFormsUptoCard : Claim7 := { stood := { row := codesFormsUptoRow, standIns := [], harness := (true, "4116c18e4b3262935618822954de6f1b517d725e0b0576b19fdf918ebc9e6777"), looks := true }, kinds := [], alts := [], laidByText := true, laidKinds := [.data, .handle], laidTests := true, laidLooks := .later }
def CodesFormsUptoCardSaid : Prop := Claim7.holds Tryd.pinned (.plain (OpenSpec.upto codesFormsSpec)) codesFormsUptoCard

/-- THE SECOND FORM's CARD OF 'custodylaw02.CodesKnown'. -/
def codesKnownUptoCard : Claim7 := { stood := { row := codesKnownUptoRow, standIns := [], harness := (true, "4116c18e4b3262935618822954de6f1b517d725e0b0576b19fdf918ebc9e6777"), looks := true }, kinds := [], alts := [], laidByText := true, laidKinds := [.data, .handle], laidTests := true, laidLooks := .later }
def CodesKnownUptoCardSaid : Prop := Claim7.holds Tryd.pinned (.plain (OpenSpec.upto codesKnownSpec)) codesKnownUptoCard

/-- THE SECOND FORM's CARD OF 'custodylaw02.CodesBack'. -/
def codesBackUptoCard : Claim7 := { stood := { row := codesBackUptoRow, standIns := [], harness := (true, "4116c18e4b3262935618822954de6f1b517d725e0b0576b19fdf918ebc9e6777"), looks := true }, kinds := [], alts := [], laidByText := true, laidKinds := [.handle], laidTests := true, laidLooks := .later }
def CodesBackUptoCardSaid : Prop := Claim7.holds Tryd.pinned (.plain (OpenSpec.upto codesBackSpec)) codesBackUptoCard
end Rows
end Go.Proofs.YtkpmmcekcpbilaaDoor
