/-
  My own text: what the proofs of this seat's rows and cards share: the listed variable's cell, a world that meets the condition, errors as values.
-/
import Derived.Test.YtmojckejjjlkjabRows
import Derived.Test.YtmojckejjjlkjabErrV
import Derived.ProofKit
import Derived.OpenShut
import Derived.ChangeSame
import Derived.ChangeVars
import Derived.JoinedOf
import Derived.RowKit
import Derived.RowKitTokens
import Derived.LaidLaws
import Derived.LaidHandle
import Derived.LaidMore
import Derived.SevenTiedAt
namespace Go.Proofs.Ytmojckejjjlkjab
open Go.ChangeShapes Go.WideShapes Go.RowKit

theorem Try.own : ownKnob Try.prog.godebug = none := by kernel_rfl
end Go.Proofs.Ytmojckejjjlkjab
