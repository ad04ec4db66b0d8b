/-
  My own text: lines of a message as the program reads them; giving up by a panic.
-/
import Derived.Test.YtklhbhhkooddoaaT7
import Derived.Defers
import Derived.Recover
namespace Go.Proofs.Ytklhbhhkooddoaa
open Go.RowKit

/-- A line: its number, its place, its text, whether it is ended. -/
structure Lin where
  no : Int
  bg : Int
  tx : List UInt8
  en : Bool
def lnC (n : Lin) : Array Value := #[.int .i64 n.no, .int .i64 n.bg, .string ⟨n.tx.toArray⟩, .bool n.en]
def Lx (w : World) (g : Nat) (n : Lin) : Prop := w.heap[g]? = some (.cells (lnC n) 78 (0, 0))
theorem Lx.lt {w : World} {g : Nat} {n : Lin} (h : Lx w g n) : g < w.heap.size := (Array.getElem?_eq_some_iff.1 h).1
theorem Lx.later {w w' : World} {g : Nat} {n : Lin} (h : Lx w g n) (hb : Below w.heap.size w w') : Lx w' g n := (hb.block g h.lt).trans h
theorem Lx.new (w : World) (n : Lin) : Lx (w.alloc (.cells (lnC n) 78)) w.heap.size n := alloc_new w _
theorem Lx.alloc {w : World} {g : Nat} {n : Lin} (h : Lx w g n) (o : Obj) : Lx (w.alloc o) g n := alloc_block h
theorem Lx.num {w : World} {g : Nat} {n : Lin} (h : Lx w g n) : w.cell? ⟨g, 0, none⟩ = some (.int .i64 n.no) := by rw [cell_of_row _ _ 0 _ _ _ h]; rfl
theorem Lx.beg {w : World} {g : Nat} {n : Lin} (h : Lx w g n) : w.cell? ⟨g, 1, none⟩ = some (.int .i64 n.bg) := by rw [cell_of_row _ _ 1 _ _ _ h]; rfl
theorem Lx.text {w : World} {g : Nat} {n : Lin} (h : Lx w g n) : w.cell? ⟨g, 2, none⟩ = some (.string ⟨n.tx.toArray⟩) := by rw [cell_of_row _ _ 2 _ _ _ h]; rfl
theorem Lx.ends {w : World} {g : Nat} {n : Lin} (h : Lx w g n) : w.cell? ⟨g, 3, none⟩ = some (.bool n.en) := by rw [cell_of_row _ _ 3 _ _ _ h]; rfl
theorem Lx.range {w : World} {g : Nat} {n : Lin} (h : Lx w g n) : w.rangeAt g 0 (lnC n).toList := fun j u hj => by
  rw [Nat.zero_add, cell_of_row _ _ j _ _ _ h]; simpa using hj
def fltV (no n at_ : Int) : Value := .iface 66 (.agg #[.int .i64 no, .int .i64 n, .int .i64 at_])
/-- What a call ends with that gives up. -/
def gone (no n at_ : Int) : Ending := .panicked [{ v := fltV no n at_, recovered := false }]
set_option maxRecDepth 100000 in
theorem refuse_no (n : Lin) (no at_ : Int) (w : World) :
    Calls Try.prog 47 #[.agg (lnC n), .bool false, .int .i64 no, .int .i64 at_] w fun e w' => e = .returned (.tuple #[]) ∧ Below w.heap.size w w' := by
  go_enter Try.func47, Try.ntmps47
  go_wp2_with fail
  go_end0
  exact ⟨rfl, (Below.refl _ _).alloc (Nat.le_refl _) _⟩
set_option maxRecDepth 100000 in
theorem refuse_yes (n : Lin) (no at_ : Int) (w : World) :
    Calls Try.prog 47 #[.agg (lnC n), .bool true, .int .i64 no, .int .i64 at_] w fun e w' => e = gone no n.no at_ ∧ Below w.heap.size w w' := by
  have c0 := (Lx.new w n).num
  go_enter Try.func47, Try.ntmps47
  go_wp2_with fail
  exact ⟨rfl, rfl, (Below.refl _ _).alloc (Nat.le_refl _) _⟩
end Go.Proofs.Ytklhbhhkooddoaa
