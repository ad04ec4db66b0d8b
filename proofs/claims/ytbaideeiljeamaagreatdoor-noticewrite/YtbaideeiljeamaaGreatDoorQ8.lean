/-
  My own text: Q7, Q8 in one.
-/
import Derived.Test.YtbaideeiljeamaaGreatDoorQ6
namespace Go.Proofs.YtbaideeiljeamaaGreatDoor.TG
open Go.RowKit

/-- Worlds that have grown out of W. -/
def Gq (W : World) : Type := { w' : World // Below W.heap.size W w' }
theorem Gq.call {W : World} (x : Gq W) {P : Program} {f : FuncId} {args : Array Value} {v : Value} (h : Calls P f args x.1 fun e w' => e = .returned v ∧ Below x.1.heap.size x.1 w') :
    Calls P f args x.1 fun e w' => e = .returned v ∧ ∃ y : Gq W, w' = y.1 :=
  h.mono fun _ w' ⟨he, hb⟩ => ⟨he, ⟨w', x.2.trans (hb.mono x.2.size)⟩, rfl⟩
theorem rng_belowq {W w' : World} {b o : Nat} {cs : List Value} (hb : Below W.heap.size W w') (hlt : b < W.heap.size) (h : W.rangeAt b o cs) : w'.rangeAt b o cs := fun j v hv => by
  rw [hb.cell (p := ⟨b, o + j, none⟩) hlt]; exact h j v hv
def rdC (T : List UInt8) (fv : Value) : Array Value := #[.string ⟨T.toArray⟩, fv]
end Go.Proofs.YtbaideeiljeamaaGreatDoor.TG
namespace Go.Proofs.YtbaideeiljeamaaGreatDoor.TG
open Go.RowKit

end Go.Proofs.YtbaideeiljeamaaGreatDoor.TG
