/-
  My own text: the document's Print; a builder in a sheet.
-/
import Derived.Test.YtbnjahldbnanbaaDoorT10
import Derived.Lib.Builder
import Derived.Lib.OthersKept
namespace Go.Proofs.YtbnjahldbnanbaaDoor
open Go.RowKit

def prE (l : List Tr) : Int := if errL l 0 ≠ 0 then errL l 0 else if 1048576 < (txtL l).length then 5 else 0
def prT (l : List Tr) : List UInt8 := if prE l = 0 then txtL l else []
end Go.Proofs.YtbnjahldbnanbaaDoor
