/-
  My own text: Q1, Q2 in one.
-/
import Derived.Test.YtbaideeiljeamaaGreatDoorT7
import Derived.Defers
import Derived.Recover
import Derived.Deep.RegionWith
namespace Go.Proofs.YtbaideeiljeamaaGreatDoor.TG
open Go.RowKit

/-- A line: its number, its place, its text, whether it is ended. -/
structure Lin where
  no : Int
  bg : Int
  tx : List UInt8
  en : Bool
def lnC (n : Lin) : Array Value := #[.int .i64 n.no, .int .i64 n.bg, .string ⟨n.tx.toArray⟩, .bool n.en]
def fltV (no n at_ : Int) : Value := .iface 52 (.agg #[.int .i64 no, .int .i64 n, .int .i64 at_])
/-- What a call ends with that gives up. -/
def gone (no n at_ : Int) : Ending := .panicked [{ v := fltV no n at_, recovered := false }]
end Go.Proofs.YtbaideeiljeamaaGreatDoor.TG
namespace Go.Proofs.YtbaideeiljeamaaGreatDoor.TG
open Go.RowKit

def chkE (n : Lin) : Option (Int × Int) := if !n.en then some (2, n.tx.length + 1) else if fstNot inS n.tx < n.tx.length then some (6, fstNot inS n.tx + 1) else if n.tx.isEmpty then some (4, 1) else none
/-- The end of a call that gives up, or not. -/
def ends (o : Option (Int × Int)) (n : Int) (v : Value) : Ending := match o with
  | some (no, at_) => gone no n at_
  | none => .returned v
end Go.Proofs.YtbaideeiljeamaaGreatDoor.TG
