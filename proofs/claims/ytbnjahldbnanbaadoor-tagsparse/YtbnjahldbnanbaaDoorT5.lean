/-
  My own text: items in cells; what is wrong with one: the program's check, and the document's (printed by mkt5.py).
-/
import Derived.Test.YtbnjahldbnanbaaDoorT4
import Derived.Laws.Rows
import Derived.Laws.Tables
import Derived.Deep.MidRow
namespace Go.Proofs.YtbnjahldbnanbaaDoor
open Go.RowKit

/-- The texts of an item. -/
structure Itm where
  tag : List UInt8
  qual : List UInt8
  text : List UInt8
  name : List UInt8
def iC (i : Itm) (v : Value) : Array Value := #[.string ⟨i.tag.toArray⟩, .string ⟨i.qual.toArray⟩, .string ⟨i.text.toArray⟩, .string ⟨i.name.toArray⟩, v]
structure IOk (i : Itm) : Prop where
  tag : i.tag.length ≤ 140737488355328
  qual : i.qual.length ≤ 140737488355328
  text : i.text.length ≤ 140737488355328
  name : i.name.length ≤ 140737488355328
def Ix (w : World) (g : Nat) (i : Itm) (v : Value) : Prop := w.heap[g]? = some (.cells (iC i v) 50 (0, 0))
theorem alloc_new (w : World) (o : Obj) : (w.alloc o).heap[w.heap.size]? = some o := (MapKept.heap_alloc w o).1
theorem alloc_block {w : World} {b : Nat} {o x : Obj} (hh : w.heap[b]? = some x) : (w.alloc o).heap[b]? = some x := by
  have hlt : b < w.heap.size := (Array.getElem?_eq_some_iff.1 hh).1
  have := (Below.refl w.heap.size w).alloc (Nat.le_refl _) o
  rw [this.block b hlt]; exact hh
theorem Ix.lt {w : World} {g : Nat} {i : Itm} {v : Value} (h : Ix w g i v) : g < w.heap.size := (Array.getElem?_eq_some_iff.1 h).1
theorem Ix.later {w w' : World} {g : Nat} {i : Itm} {v : Value} (h : Ix w g i v) (hb : Below w.heap.size w w') : Ix w' g i v := (hb.block g h.lt).trans h
theorem Ix.new (w : World) (i : Itm) (v : Value) : Ix (w.alloc (.cells (iC i v) 50)) w.heap.size i v := alloc_new w _
theorem Ix.alloc {w : World} {g : Nat} {i : Itm} {v : Value} (h : Ix w g i v) (o : Obj) : Ix (w.alloc o) g i v := alloc_block h
theorem Ix.tag {w : World} {g : Nat} {i : Itm} {v : Value} (h : Ix w g i v) (_ : True) : w.cell? ⟨g, 0, none⟩ = some (.string ⟨i.tag.toArray⟩) := by rw [cell_of_row _ _ 0 _ _ _ h]; rfl
theorem Ix.qual {w : World} {g : Nat} {i : Itm} {v : Value} (h : Ix w g i v) (_ : True) : w.cell? ⟨g, 1, none⟩ = some (.string ⟨i.qual.toArray⟩) := by rw [cell_of_row _ _ 1 _ _ _ h]; rfl
theorem Ix.text {w : World} {g : Nat} {i : Itm} {v : Value} (h : Ix w g i v) (_ : True) : w.cell? ⟨g, 2, none⟩ = some (.string ⟨i.text.toArray⟩) := by rw [cell_of_row _ _ 2 _ _ _ h]; rfl
theorem Ix.name {w : World} {g : Nat} {i : Itm} {v : Value} (h : Ix w g i v) (_ : True) : w.cell? ⟨g, 3, none⟩ = some (.string ⟨i.name.toArray⟩) := by rw [cell_of_row _ _ 3 _ _ _ h]; rfl
theorem Ix.items {w : World} {g : Nat} {i : Itm} {v : Value} (h : Ix w g i v) (_ : True) : w.cell? ⟨g, 4, none⟩ = some v := by rw [cell_of_row _ _ 4 _ _ _ h]; rfl
theorem same_below {P : Program} {f : FuncId} {args : Array Value} {w : World} {v : Value} (h : Calls P f args w fun e w' => e = .returned v ∧ w' = w) : Calls P f args w fun e w' => e = .returned v ∧ Below w.heap.size w w' :=
  h.mono (fun _ _ h => ⟨h.1, h.2 ▸ Below.refl _ _⟩)
def fE (tg qe ql ne ke tx nl hd : Bool) : Int := if !tg then 4 else if !qe && !ql then 4 else if !ne then 4 else if !ke then 4 else if !tx then 6 else if nl then 4 else if qe && hd then 4 else 0
/-- What is wrong with a field. -/
def fieldE (i : Itm) (n : Nat) : Int := fE (tagB i.tag) i.qual.isEmpty (qualB i.qual) i.name.isEmpty (decide (n = 0)) (txB i.text) (nlB i.text) (hdB i.text)
def bE (dp nm qe te : Bool) : Int := if dp then 5 else if !nm then 4 else if !qe then 4 else if !te then 4 else 0
/-- What is wrong with a block. -/
def blockE (i : Itm) (d : Int) : Int := bE (decide (8 ≤ d)) (nameB i.name) i.qual.isEmpty i.text.isEmpty
/-- What is wrong with an item. -/
def itemE (i : Itm) (n : Nat) (d : Int) : Int := if !i.tag.isEmpty then fieldE i n else if i.name.isEmpty then 24 else blockE i d
theorem str_eq_t {l : List UInt8} (h : l.isEmpty = true) : ((⟨l.toArray⟩ : ByteArray) == ⟨#[]⟩) = true := by
  have := bytes_nil_t h; rw [bne] at this; simpa using this
theorem str_eq_f {l : List UInt8} (h : l.isEmpty = false) : ((⟨l.toArray⟩ : ByteArray) == ⟨#[]⟩) = false := by
  have := bytes_nil_f h; rw [bne] at this; simpa using this
theorem ret_fE {i : Itm} {n : Nat} {k : Int} {v : Value} (h : fieldE i n = k) (hv : v = errV k) : Ending.returned v = .returned (errV (fieldE i n)) := by rw [h, hv]
theorem ret_bE {i : Itm} {d k : Int} {v : Value} (h : blockE i d = k) (hv : v = errV k) : Ending.returned v = .returned (errV (blockE i d)) := by rw [h, hv]
theorem below_dN {B : Nat} {a w : World} (h : Below B a w) (n : Nat) : Below B a (w.drewN n) := h.trans ⟨rfl, rfl, rfl, Nat.le_refl _, fun _ _ => rfl⟩
theorem isField_any (i : Itm) (v : Value) (w : World) :
    Calls Tryd.prog 51 #[.agg (iC i v)] w fun e w' => e = .returned (.bool (!i.tag.isEmpty)) ∧ Below w.heap.size w w' := by
  have HLC : Hid True := hide trivial
  have X0 := hide (Ix.new w i v)
  have B0 := hide ((Below.refl w.heap.size w).alloc (Nat.le_refl _) (.cells (iC i v) 50))
  have z0 := X0.out.tag trivial
  cases h : i.tag.isEmpty
  · have h1 := bytes_nil_f h
    have h2 := str_eq_f h
    go_enter Tryd.func51, Tryd.ntmps51
    go_wp2_with fail
    go_ret
    exact ⟨ret_b (by first | rfl | simp), B0.out⟩
  · have h1 := bytes_nil_t h
    have h2 := str_eq_t h
    go_enter Tryd.func51, Tryd.ntmps51
    go_wp2_with fail
    go_ret
    exact ⟨ret_b (by first | rfl | simp), B0.out⟩
end Go.Proofs.YtbnjahldbnanbaaDoor
