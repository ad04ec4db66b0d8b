/-
  DERIVED. GIVEN WITH THE SEED: THE CARDS: each row of YtialddjadkkkkaaDoorRows.lean that lists a variable, with what it lists TIED to the program's text (the seventh form; the later family's looks); each row that meets fmt, with fmt's text TOLD by the authors' own Lean function (tested against real Go, not proved from fmt's source: count such statements apart). THE CARD IS WHAT COUNTS. Prove the row's statement (the work); the ties are given (YtialddjadkkkkaaDoorTie.lean); close each card by the builder's one call (the guide's Derived/Test/ToyasCard.lean, 'card_holds'). Laid BY PROGRAM, IN A SANDBOX (cutbox-door.mjs). By AI agents, Wed Nov 11 2026. No macro, syntax, notation, axiom, sorry.
-/
import Derived.Test.YtialddjadkkkkaaDoorRows
import GoSem.ClaimSeven
namespace Go.Proofs.YtialddjadkkkkaaDoor
namespace Rows

/-- THE TIED CARD OF 'custodylaw01.AmountSums'. -/
def amountSumsCard : Claim7 := { stood := { row := amountSumsRow, standIns := [], harness := (true, "fe36c8afd7045159193f621b805773ad1ae53612937e6260682421a2ec7ad24f"), looks := true }, kinds := [], alts := [], laidByText := true, laidKinds := [.handle], laidTests := true, laidLooks := .later }
def AmountSumsCardSaid : Prop := Claim7.holds Tryd.pinned (.plain (OpenSpec.ofChange amountSumsSpec)) amountSumsCard

/-- THE TIED CARD OF 'custodylaw01.AmountMulDiv'. -/
def amountMulDivCard : Claim7 := { stood := { row := amountMulDivRow, standIns := [], harness := (true, "fe36c8afd7045159193f621b805773ad1ae53612937e6260682421a2ec7ad24f"), looks := true }, kinds := [], alts := [], laidByText := true, laidKinds := [.handle], laidTests := true, laidLooks := .later }
def AmountMulDivCardSaid : Prop := Claim7.holds Tryd.pinned (.plain (OpenSpec.ofChange amountMulDivSpec)) amountMulDivCard

/-- THE TIED CARD OF 'custodylaw01.AmountSum'. -/
def amountSumCard : Claim7 := { stood := { row := amountSumRow, standIns := [], harness := (true, "fe36c8afd7045159193f621b805773ad1ae53612937e6260682421a2ec7ad24f"), looks := true }, kinds := [], alts := [], laidByText := true, laidKinds := [.handle], laidTests := true, laidLooks := .later }
def AmountSumCardSaid : Prop := Claim7.holds Tryd.pinned (.plain (OpenSpec.ofChange amountSumSpec)) amountSumCard

/-- THE TIED CARD OF 'custodylaw01.AmountSplit'. -/
def amountSplitCard : Claim7 := { stood := { row := amountSplitRow, standIns := [], harness := (true, "fe36c8afd7045159193f621b805773ad1ae53612937e6260682421a2ec7ad24f"), looks := true }, kinds := [], alts := [], laidByText := true, laidKinds := [.handle], laidTests := true, laidLooks := .later }
def AmountSplitCardSaid : Prop := Claim7.holds Tryd.pinned (.plain (OpenSpec.ofChange amountSplitSpec)) amountSplitCard

/-- THE TIED CARD OF 'custodylaw01.AmountTexts'. -/
def amountTextsCard : Claim7 := { stood := { row := amountTextsRow, standIns := [], harness := (true, "fe36c8afd7045159193f621b805773ad1ae53612937e6260682421a2ec7ad24f"), looks := true }, kinds := [], alts := [], laidByText := true, laidKinds := [.data, .data, .data, .handle], laidTests := true, laidLooks := .later }
def AmountTextsCardSaid : Prop := Claim7.holds Tryd.pinned (.plain (OpenSpec.ofChange amountTextsSpec)) amountTextsCard

/-- THE TIED CARD OF 'custodylaw01.AmountRounds'. -/
def amountRoundsCard : Claim7 := { stood := { row := amountRoundsRow, standIns := [], harness := (true, "fe36c8afd7045159193f621b805773ad1ae53612937e6260682421a2ec7ad24f"), looks := true }, kinds := [], alts := [], laidByText := true, laidKinds := [.handle], laidTests := true, laidLooks := .later }
def AmountRoundsCardSaid : Prop := Claim7.holds Tryd.pinned (.plain (OpenSpec.ofChange amountRoundsSpec)) amountRoundsCard

/-- THE SECOND FORM's CARD OF 'custodylaw01.AmountSums'. -/
def amountSumsUptoCard : Claim7 := { stood := { row := amountSumsUptoRow, standIns := [], harness := (true, "fe36c8afd7045159193f621b805773ad1ae53612937e6260682421a2ec7ad24f"), looks := true }, kinds := [], alts := [], laidByText := true, laidKinds := [.handle], laidTests := true, laidLooks := .later }
def AmountSumsUptoCardSaid : Prop := Claim7.holds Tryd.pinned (.plain (OpenSpec.upto amountSumsSpec)) amountSumsUptoCard

/-- THE SECOND FORM's CARD OF 'custodylaw01.AmountMulDiv'. -/
def amountMulDivUptoCard : Claim7 := { stood := { row := amountMulDivUptoRow, standIns := [], harness := (true, "fe36c8afd7045159193f621b805773ad1ae53612937e6260682421a2ec7ad24f"), looks := true }, kinds := [], alts := [], laidByText := true, laidKinds := [.handle], laidTests := true, laidLooks := .later }
def AmountMulDivUptoCardSaid : Prop := Claim7.holds Tryd.pinned (.plain (OpenSpec.upto amountMulDivSpec)) amountMulDivUptoCard

/-- THE SECOND FORM's CARD OF 'custodylaw01.AmountSum'. -/
def amountSumUptoCard : Claim7 := { stood := { row := amountSumUptoRow, standIns := [], harness := (true, "fe36c8afd7045159193f621b805773ad1ae53612937e6260682421a2ec7ad24f"), looks := true }, kinds := [], alts := [], laidByText := true, laidKinds := [.handle], laidTests := true, laidLooks := .later }
def AmountSumUptoCardSaid : Prop := Claim7.holds Tryd.pinned (.plain (OpenSpec.upto amountSumSpec)) amountSumUptoCard

/-- THE SECOND FORM's CARD OF 'custodylaw01.AmountSplit'. -/
def amountSplitUptoCard : Claim7 := { stood := { row := amountSplitUptoRow, standIns := [], harness := (true, "fe36c8afd7045159193f621b805773ad1ae53612937e6260682421a2ec7ad24f"), looks := true }, kinds := [], alts := [], laidByText := true, laidKinds := [.handle], laidTests := true, laidLooks := .later }
def AmountSplitUptoCardSaid : Prop := Claim7.holds Tryd.pinned (.plain (OpenSpec.upto amountSplitSpec)) amountSplitUptoCard

/-- THE SECOND FORM's CARD OF 'custodylaw01.AmountTexts'. -/
def amountTextsUptoCard : Claim7 := { stood := { row := amountTextsUptoRow, standIns := [], harness := (true, "fe36c8afd7045159193f621b805773ad1ae53612937e6260682421a2ec7ad24f"), looks := true }, kinds := [], alts := [], laidByText := true, laidKinds := [.data, .data, .data, .handle], laidTests := true, laidLooks := .later }
def AmountTextsUptoCardSaid : Prop := Claim7.holds Tryd.pinned (.plain (OpenSpec.upto amountTextsSpec)) amountTextsUptoCard

/-- THE SECOND FORM's CARD OF 'custodylaw01.AmountRounds'. -/
def amountRoundsUptoCard : Claim7 := { stood := { row := amountRoundsUptoRow, standIns := [], harness := (true, "fe36c8afd7045159193f621b805773ad1ae53612937e6260682421a2ec7ad24f"), looks := true }, kinds := [], alts := [], laidByText := true, laidKinds := [.handle], laidTests := true, laidLooks := .later }
def AmountRoundsUptoCardSaid : Prop := Claim7.holds Tryd.pinned (.plain (OpenSpec.upto amountRoundsSpec)) amountRoundsUptoCard
end Rows
end Go.Proofs.YtialddjadkkkkaaDoor
