/-
  DERIVED. GIVEN WITH THE SEED: THE CARDS: each row of YtmebomifakmkbabDoorRows.lean that lists a variable, with what it lists TIED to the program's text (the seventh form; the later family's looks); each row that meets fmt, with fmt's text TOLD by the authors' own Lean function (tested against real Go, not proved from fmt's source: count such statements apart). THE CARD IS WHAT COUNTS. Prove the row's statement (the work); the ties are given (YtmebomifakmkbabDoorTie.lean); close each card by the builder's one call (the guide's Derived/Test/ToyasCard.lean, 'card_holds'). Laid BY PROGRAM, IN A SANDBOX (cutbox-door.mjs). By AI agents, Wed Nov 11 2026. No macro, syntax, notation, axiom, sorry.
-/
import Derived.Test.YtmebomifakmkbabDoorRows
import GoSem.ClaimSeven
namespace Go.Proofs.YtmebomifakmkbabDoor
namespace Rows

/-- THE TIED CARD OF 'custodylaw14.BalanceFirst'. -/
def balanceFirstCard : Claim7 := { stood := { row := balanceFirstRow, standIns := [], harness := (true, "abf2c64c459ec10e6233de264140d741a2ae7d02c2055a68a31095a36aa259be"), looks := true }, kinds := [], alts := [], laidByText := true, laidKinds := [.handle], laidTests := true, laidLooks := .later }
def BalanceFirstCardSaid : Prop := Claim7.holds Tryd.pinned (.plain (OpenSpec.ofChange balanceFirstSpec)) balanceFirstCard

/-- THE SECOND FORM's CARD OF 'custodylaw14.BalanceFirst'. -/
def balanceFirstUptoCard : Claim7 := { stood := { row := balanceFirstUptoRow, standIns := [], harness := (true, "abf2c64c459ec10e6233de264140d741a2ae7d02c2055a68a31095a36aa259be"), looks := true }, kinds := [], alts := [], laidByText := true, laidKinds := [.handle], laidTests := true, laidLooks := .later }
def BalanceFirstUptoCardSaid : Prop := Claim7.holds Tryd.pinned (.plain (OpenSpec.upto balanceFirstSpec)) balanceFirstUptoCard
end Rows
end Go.Proofs.YtmebomifakmkbabDoor
