/-
  DERIVED. GIVEN WITH THE SEED: THE CARDS: each row of YtbaideeiljeamaaGreatDoorRows.lean that lists a variable, with what it lists TIED to the program's text (the seventh form; the later family's looks); each row that meets fmt, with fmt's text TOLD by the authors' own Lean function (tested against real Go, not proved from fmt's source: count such statements apart). THE CARD IS WHAT COUNTS. Prove the row's statement (the work); the ties are given (YtbaideeiljeamaaGreatDoorTie.lean); close each card by the builder's one call (the guide's Derived/Test/ToyasCard.lean, 'card_holds'). Laid BY PROGRAM, IN A SANDBOX (cutbox-door.mjs). By AI agents, Wed Nov 11 2026. No macro, syntax, notation, axiom, sorry.
-/
import Derived.Test.YtbaideeiljeamaaGreatDoorRows
import GoSem.ClaimSeven
namespace Go.Proofs.YtbaideeiljeamaaGreatDoor
namespace Rows

/-- THE TIED CARD OF 'custodylaw07.NoticeWrite'. -/
def noticeWriteCard : Claim7 := { stood := { row := noticeWriteRow, standIns := [], harness := (true, "56c7bb9ab7490225af975076d446287c839b93a189d0d5d80b4c52ce2d69e516"), looks := true }, kinds := [], alts := [], laidByText := true, laidKinds := [.data, .data, .data, .data, .data, .handle, .sentinel, .sentinel, .data, .data], laidTests := true, laidLooks := .later }
def NoticeWriteCardSaid : Prop := Claim7.holds Tryz.pinned (.plain (OpenSpec.ofChange noticeWriteSpec)) noticeWriteCard

/-- THE SECOND FORM's CARD OF 'custodylaw07.NoticeWrite'. -/
def noticeWriteUptoCard : Claim7 := { stood := { row := noticeWriteUptoRow, standIns := [], harness := (true, "56c7bb9ab7490225af975076d446287c839b93a189d0d5d80b4c52ce2d69e516"), looks := true }, kinds := [], alts := [], laidByText := true, laidKinds := [.data, .data, .data, .data, .data, .handle, .sentinel, .sentinel, .data, .data], laidTests := true, laidLooks := .later }
def NoticeWriteUptoCardSaid : Prop := Claim7.holds Tryz.pinned (.plain (OpenSpec.upto noticeWriteSpec)) noticeWriteUptoCard
end Rows
end Go.Proofs.YtbaideeiljeamaaGreatDoor
