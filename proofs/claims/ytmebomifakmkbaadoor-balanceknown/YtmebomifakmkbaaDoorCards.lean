/-
  DERIVED. GIVEN WITH THE SEED: THE CARDS: each row of YtmebomifakmkbaaDoorRows.lean that lists a variable, with what it lists TIED to the program's text (the seventh form; the later family's looks); each row that meets fmt, with fmt's text TOLD by the authors' own Lean function (tested against real Go, not proved from fmt's source: count such statements apart). THE CARD IS WHAT COUNTS. Prove the row's statement (the work); the ties are given (YtmebomifakmkbaaDoorTie.lean); close each card by the builder's one call (the guide's Derived/Test/ToyasCard.lean, 'card_holds'). Laid BY PROGRAM, IN A SANDBOX (cutbox-door.mjs). By AI agents, Wed Nov 11 2026. No macro, syntax, notation, axiom, sorry.
-/
import Derived.Test.YtmebomifakmkbaaDoorRows
import GoSem.ClaimSeven
namespace Go.Proofs.YtmebomifakmkbaaDoor
namespace Rows

/-- THE TIED CARD OF 'custodylaw14.BalanceChecks'. -/
def balanceChecksCard : Claim7 := { stood := { row := balanceChecksRow, standIns := [], harness := (true, "21a58099591c10ea337180e4d520bb002e8851cb907e88c18d847bc4ae42398d"), looks := true }, kinds := [], alts := [], laidByText := true, laidKinds := [.handle], laidTests := true, laidLooks := .later }
def BalanceChecksCardSaid : Prop := Claim7.holds Tryd.pinned (.plain (OpenSpec.ofChange balanceChecksSpec)) balanceChecksCard

/-- THE TIED CARD OF 'custodylaw14.BalanceMoves'. -/
def balanceMovesCard : Claim7 := { stood := { row := balanceMovesRow, standIns := [], harness := (true, "21a58099591c10ea337180e4d520bb002e8851cb907e88c18d847bc4ae42398d"), looks := true }, kinds := [], alts := [], laidByText := true, laidKinds := [.handle], laidTests := true, laidLooks := .later }
def BalanceMovesCardSaid : Prop := Claim7.holds Tryd.pinned (.plain (OpenSpec.ofChange balanceMovesSpec)) balanceMovesCard

/-- THE TIED CARD OF 'custodylaw14.BalanceSame'. -/
def balanceSameCard : Claim7 := { stood := { row := balanceSameRow, standIns := [], harness := (true, "21a58099591c10ea337180e4d520bb002e8851cb907e88c18d847bc4ae42398d"), looks := true }, kinds := [], alts := [], laidByText := true, laidKinds := [.handle], laidTests := true, laidLooks := .later }
def BalanceSameCardSaid : Prop := Claim7.holds Tryd.pinned (.plain (OpenSpec.ofChange balanceSameSpec)) balanceSameCard

/-- THE TIED CARD OF 'custodylaw14.BalanceKnown'. -/
def balanceKnownCard : Claim7 := { stood := { row := balanceKnownRow, standIns := [], harness := (true, "21a58099591c10ea337180e4d520bb002e8851cb907e88c18d847bc4ae42398d"), looks := true }, kinds := [], alts := [], laidByText := true, laidKinds := [.handle], laidTests := true, laidLooks := .later }
def BalanceKnownCardSaid : Prop := Claim7.holds Tryd.pinned (.plain (OpenSpec.ofChange balanceKnownSpec)) balanceKnownCard

/-- THE TIED CARD OF 'custodylaw14.BalanceConserves'. -/
def balanceConservesCard : Claim7 := { stood := { row := balanceConservesRow, standIns := [], harness := (true, "21a58099591c10ea337180e4d520bb002e8851cb907e88c18d847bc4ae42398d"), looks := true }, kinds := [], alts := [], laidByText := true, laidKinds := [.handle], laidTests := true, laidLooks := .later }
def BalanceConservesCardSaid : Prop := Claim7.holds Tryd.pinned (.plain (OpenSpec.ofChange balanceConservesSpec)) balanceConservesCard

/-- THE TIED CARD OF 'custodylaw14.BalanceBack'. -/
def balanceBackCard : Claim7 := { stood := { row := balanceBackRow, standIns := [], harness := (true, "21a58099591c10ea337180e4d520bb002e8851cb907e88c18d847bc4ae42398d"), looks := true }, kinds := [], alts := [], laidByText := true, laidKinds := [.handle], laidTests := true, laidLooks := .later }
def BalanceBackCardSaid : Prop := Claim7.holds Tryd.pinned (.plain (OpenSpec.ofChange balanceBackSpec)) balanceBackCard

/-- THE SECOND FORM's CARD OF 'custodylaw14.BalanceChecks'. -/
def balanceChecksUptoCard : Claim7 := { stood := { row := balanceChecksUptoRow, standIns := [], harness := (true, "21a58099591c10ea337180e4d520bb002e8851cb907e88c18d847bc4ae42398d"), looks := true }, kinds := [], alts := [], laidByText := true, laidKinds := [.handle], laidTests := true, laidLooks := .later }
def BalanceChecksUptoCardSaid : Prop := Claim7.holds Tryd.pinned (.plain (OpenSpec.upto balanceChecksSpec)) balanceChecksUptoCard

/-- THE SECOND FORM's CARD OF 'custodylaw14.BalanceMoves'. -/
def balanceMovesUptoCard : Claim7 := { stood := { row := balanceMovesUptoRow, standIns := [], harness := (true, "21a58099591c10ea337180e4d520bb002e8851cb907e88c18d847bc4ae42398d"), looks := true }, kinds := [], alts := [], laidByText := true, laidKinds := [.handle], laidTests := true, laidLooks := .later }
def BalanceMovesUptoCardSaid : Prop := Claim7.holds Tryd.pinned (.plain (OpenSpec.upto balanceMovesSpec)) balanceMovesUptoCard

/-- THE SECOND FORM's CARD OF 'custodylaw14.BalanceSame'. -/
def balanceSameUptoCard : Claim7 := { stood := { row := balanceSameUptoRow, standIns := [], harness := (true, "21a58099591c10ea337180e4d520bb002e8851cb907e88c18d847bc4ae42398d"), looks := true }, kinds := [], alts := [], laidByText := true, laidKinds := [.handle], laidTests := true, laidLooks := .later }
def BalanceSameUptoCardSaid : Prop := Claim7.holds Tryd.pinned (.plain (OpenSpec.upto balanceSameSpec)) balanceSameUptoCard

/-- THE SECOND FORM's CARD OF 'custodylaw14.BalanceKnown'. -/
def balanceKnownUptoCard : Claim7 := { stood := { row := balanceKnownUptoRow, standIns := [], harness := (true, "21a58099591c10ea337180e4d520bb002e8851cb907e88c18d847bc4ae42398d"), looks := true }, kinds := [], alts := [], laidByText := true, laidKinds := [.handle], laidTests := true, laidLooks := .later }
def BalanceKnownUptoCardSaid : Prop := Claim7.holds Tryd.pinned (.plain (OpenSpec.upto balanceKnownSpec)) balanceKnownUptoCard

/-- THE SECOND FORM's CARD OF 'custodylaw14.BalanceConserves'. -/
def balanceConservesUptoCard : Claim7 := { stood := { row := balanceConservesUptoRow, standIns := [], harness := (true, "21a58099591c10ea337180e4d520bb002e8851cb907e88c18d847bc4ae42398d"), looks := true }, kinds := [], alts := [], laidByText := true, laidKinds := [.handle], laidTests := true, laidLooks := .later }
def BalanceConservesUptoCardSaid : Prop := Claim7.holds Tryd.pinned (.plain (OpenSpec.upto balanceConservesSpec)) balanceConservesUptoCard

/-- THE SECOND FORM's CARD OF 'custodylaw14.BalanceBack'. -/
def balanceBackUptoCard : Claim7 := { stood := { row := balanceBackUptoRow, standIns := [], harness := (true, "21a58099591c10ea337180e4d520bb002e8851cb907e88c18d847bc4ae42398d"), looks := true }, kinds := [], alts := [], laidByText := true, laidKinds := [.handle], laidTests := true, laidLooks := .later }
def BalanceBackUptoCardSaid : Prop := Claim7.holds Tryd.pinned (.plain (OpenSpec.upto balanceBackSpec)) balanceBackUptoCard
end Rows
end Go.Proofs.YtmebomifakmkbaaDoor
