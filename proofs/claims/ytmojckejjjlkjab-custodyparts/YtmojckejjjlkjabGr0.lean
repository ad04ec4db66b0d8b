/-
  My own text: worlds that have grown out of another.
-/
import Derived.Test.YtmojckejjjlkjabErr
namespace Go.Proofs.Ytmojckejjjlkjab
open Go.RowKit

/-- Worlds that have grown out of W. -/
def Gr (W : World) : Type := { w' : World // Below W.heap.size W w' }
theorem Gr.call {W : World} (x : Gr W) {P : Program} {f : FuncId} {args : Array Value} {v : Value} (h : Calls P f args x.1 fun e w' => e = .returned v ∧ Below x.1.heap.size x.1 w') :
    Calls P f args x.1 fun e w' => e = .returned v ∧ ∃ y : Gr W, w' = y.1 :=
  h.mono fun _ w' ⟨he, hb⟩ => ⟨he, ⟨w', x.2.trans (hb.mono x.2.size)⟩, rfl⟩
end Go.Proofs.Ytmojckejjjlkjab
