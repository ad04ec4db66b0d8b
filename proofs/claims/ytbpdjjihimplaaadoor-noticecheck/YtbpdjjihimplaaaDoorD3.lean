/-
  My own text: a date's number, a number's date: the program's and the document's.
-/
import Derived.Test.YtbpdjjihimplaaaDoorD2
import Derived.Test.YtbpdjjihimplaaaDoorErrV
namespace Go.Proofs.YtbpdjjihimplaaaDoor
open Go.RowKit

theorem ret_ii {a b c d : Int} (h : a = c) (h' : b = d) : Ending.returned (.tuple #[.int .i64 a, .int .i64 b]) = .returned (.tuple #[.int .i64 c, .int .i64 d]) := by rw [h, h']
def dateO (y m d : Int) : Obj := .cells #[.int .i64 y, .int .i64 m, .int .i64 d] 86
theorem below_date (w : World) (y m d : Int) : Below w.heap.size w (w.alloc (dateO y m d)) := (Below.refl w.heap.size w).alloc (Nat.le_refl _) _
def numV (y m d : Int) : Int := if rightB y m d then numI y m d else 0
def numE (y m d : Int) : Int := if rightB y m d then 0 else 8
theorem num_bad {y m d : Int} (h : rightB y m d = false) : numV y m d = 0 ∧ numE y m d = 8 := by unfold numV numE; rw [h]; exact ⟨rfl, rfl⟩
theorem num_ok {y m d : Int} (h : rightB y m d = true) : numV y m d = numI y m d ∧ numE y m d = 0 := by unfold numV numE; rw [h]; exact ⟨rfl, rfl⟩
end Go.Proofs.YtbpdjjihimplaaaDoor
