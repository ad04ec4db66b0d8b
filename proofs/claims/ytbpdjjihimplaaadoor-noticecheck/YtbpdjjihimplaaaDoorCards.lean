/-
  DERIVED. GIVEN WITH THE SEED: THE CARDS: each row of YtbpdjjihimplaaaDoorRows.lean that lists a variable, with what it lists TIED to the program's text (the seventh form; the later family's looks); each row that meets fmt, with fmt's text TOLD by the authors' own Lean function (tested against real Go, not proved from fmt's source: count such statements apart). THE CARD IS WHAT COUNTS. Prove the row's statement (the work); the ties are given (YtbpdjjihimplaaaDoorTie.lean); close each card by the builder's one call (the guide's Derived/Test/ToyasCard.lean, 'card_holds'). Laid BY PROGRAM, IN A SANDBOX (cutbox-door.mjs). By AI agents, Wed Nov 11 2026. No macro, syntax, notation, axiom, sorry.
-/
import Derived.Test.YtbpdjjihimplaaaDoorRows
import GoSem.ClaimSeven
namespace Go.Proofs.YtbpdjjihimplaaaDoor
namespace Rows

/-- THE TIED CARD OF 'custodylaw07.NoticeCheck'. -/
def noticeCheckCard : Claim7 := { stood := { row := noticeCheckRow, standIns := [], harness := (true, "aec72d4d1799c79b6ef33dd0504b79c5875f15b1d58d3697f7bbb082a58201d4"), looks := true }, kinds := [], alts := [], laidByText := true, laidKinds := [.data, .data, .handle], laidTests := true, laidLooks := .later }
def NoticeCheckCardSaid : Prop := Claim7.holds Tryd.pinned (.plain (OpenSpec.ofChange noticeCheckSpec)) noticeCheckCard

/-- THE SECOND FORM's CARD OF 'custodylaw07.NoticeCheck'. -/
def noticeCheckUptoCard : Claim7 := { stood := { row := noticeCheckUptoRow, standIns := [], harness := (true, "aec72d4d1799c79b6ef33dd0504b79c5875f15b1d58d3697f7bbb082a58201d4"), looks := true }, kinds := [], alts := [], laidByText := true, laidKinds := [.data, .data, .handle], laidTests := true, laidLooks := .later }
def NoticeCheckUptoCardSaid : Prop := Claim7.holds Tryd.pinned (.plain (OpenSpec.upto noticeCheckSpec)) noticeCheckUptoCard
end Rows
end Go.Proofs.YtbpdjjihimplaaaDoor
