/-
  My own text: what is wrong with an item: check, the program's, and wrong, the document's (printed by mkt6.py).
-/
import Derived.Test.YtbnjahldbnanbaaDoorT5
namespace Go.Proofs.YtbnjahldbnanbaaDoor
open Go.RowKit

theorem Tryd.sizeItm : (Tryd.prog.info? 50).map (·.size) = some 5 := by kernel_rfl
theorem itemE_field {i : Itm} {n : Nat} {d : Int} (h : i.tag.isEmpty = false) : itemE i n d = fieldE i n := by unfold itemE; rw [h]; rfl
theorem itemE_none {i : Itm} {n : Nat} {d : Int} (h : i.tag.isEmpty = true) (h2 : i.name.isEmpty = true) : itemE i n d = 24 := by unfold itemE; rw [h, h2]; rfl
theorem itemE_block {i : Itm} {n : Nat} {d : Int} (h : i.tag.isEmpty = true) (h2 : i.name.isEmpty = false) : itemE i n d = blockE i d := by unfold itemE; rw [h, h2]; rfl
end Go.Proofs.YtbnjahldbnanbaaDoor
