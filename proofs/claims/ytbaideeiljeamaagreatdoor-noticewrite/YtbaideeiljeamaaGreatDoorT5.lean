/-
  My own text: T4, T5 in one.
-/
import Derived.Test.YtbaideeiljeamaaGreatDoorT3
import Derived.Laws.Rows
import Derived.Laws.Tables
import Derived.Deep.MidRow
namespace Go.Proofs.YtbaideeiljeamaaGreatDoor.TG
open Go.RowKit

def badAt (l : List UInt8) (j : Nat) : Bool := (l.getD j 0 == 10) && (decide (j + 1 = l.length) || l.getD (j + 1) 0 == 10 || l.getD (j + 1) 0 == 58 || l.getD (j + 1) 0 == 45)
def nlB (l : List UInt8) : Bool := (List.range l.length).any (badAt l)
def txB (l : List UInt8) : Bool := l.all fun c => inS c || c == 10
def hdB (l : List UInt8) : Bool := l.getD 0 0 == 58
def textE (l : List UInt8) (q : Bool) : Int := if !txB l then 6 else if nlB l then 4 else if !q && hdB l then 4 else 0
theorem nlB_yes {l : List UInt8} {k : Nat} (hk : k < l.length) (h : badAt l k = true) : nlB l = true := by
  unfold nlB; rw [List.any_eq_true]; exact ⟨k, List.mem_range.2 hk, h⟩
theorem nlB_no {l : List UInt8} (h : ∀ j, j < l.length → badAt l j = false) : nlB l = false := by
  unfold nlB; rw [List.any_eq_false]; intro j hj; rw [h j (List.mem_range.1 hj)]; simp
theorem u8_lit {c : UInt8} {x : Nat} (hx : c.toNat = x) (n : UInt8) {k : Int} (hn : (n.toNat : Int) = k) : ((x : Int) == k) = (c == n) := by
  rw [← hx, ← hn]; exact u8_beq c n
theorem hasPrefix_hd (l : List UInt8) : Lib.hasPrefix l [58] = hdB l := by
  unfold hdB
  cases l with
  | nil => rfl
  | cons c t =>
    show ((58 : UInt8) == c && List.isPrefixOf [] t) = (c == 58)
    rw [show List.isPrefixOf ([] : List UInt8) t = true by cases t <;> rfl, Bool.and_true, Bool.eq_iff_iff]
    simp only [beq_iff_eq]
    exact eq_comm
theorem txB_no {l : List UInt8} {k : Nat} (hk : k < l.length) (hb : (inS (l.getD k 0) || l.getD k 0 == 10) = false) : txB l = false := all_no (p := fun c => inS c || c == 10) hk hb
theorem txB_yes {l : List UInt8} (h : ∀ j, j < l.length → (inS (l.getD j 0) || l.getD j 0 == 10) = true) : txB l = true := all_of (p := fun c => inS c || c == 10) h
theorem bytes_beq (a b : List UInt8) : ((⟨a.toArray⟩ : ByteArray) == ⟨b.toArray⟩) = decide (a = b) := by
  show (a.toArray == b.toArray) = _
  by_cases h : a = b
  · subst h; simp
  · rw [decide_eq_false h]; simpa using h
theorem bytes_nil_t {l : List UInt8} (h : l.isEmpty = true) : ((⟨l.toArray⟩ : ByteArray) != ⟨#[]⟩) = false := by
  have h2 : l = [] := by simpa using h
  show (!((⟨l.toArray⟩ : ByteArray) == ⟨([] : List UInt8).toArray⟩)) = _
  rw [bytes_beq, decide_eq_true h2]; rfl
theorem bytes_nil_f {l : List UInt8} (h : l.isEmpty = false) : ((⟨l.toArray⟩ : ByteArray) != ⟨#[]⟩) = true := by
  have h2 : ¬ l = [] := by simpa using h
  show (!((⟨l.toArray⟩ : ByteArray) == ⟨([] : List UInt8).toArray⟩)) = _
  rw [bytes_beq, decide_eq_false h2]; rfl
end Go.Proofs.YtbaideeiljeamaaGreatDoor.TG
namespace Go.Proofs.YtbaideeiljeamaaGreatDoor.TG
open Go.RowKit

/-- The texts of an item. -/
structure Itm where
  tag : List UInt8
  qual : List UInt8
  text : List UInt8
  name : List UInt8
def iC (i : Itm) (v : Value) : Array Value := #[.string ⟨i.tag.toArray⟩, .string ⟨i.qual.toArray⟩, .string ⟨i.text.toArray⟩, .string ⟨i.name.toArray⟩, v]
structure IOk (i : Itm) : Prop where
  tag : i.tag.length ≤ 140737488355328
  qual : i.qual.length ≤ 140737488355328
  text : i.text.length ≤ 140737488355328
  name : i.name.length ≤ 140737488355328
def Ix (w : World) (g : Nat) (i : Itm) (v : Value) : Prop := w.heap[g]? = some (.cells (iC i v) 58 (0, 0))
theorem alloc_new (w : World) (o : Obj) : (w.alloc o).heap[w.heap.size]? = some o := (MapKept.heap_alloc w o).1
theorem alloc_block {w : World} {b : Nat} {o x : Obj} (hh : w.heap[b]? = some x) : (w.alloc o).heap[b]? = some x := by
  have hlt : b < w.heap.size := (Array.getElem?_eq_some_iff.1 hh).1
  have := (Below.refl w.heap.size w).alloc (Nat.le_refl _) o
  rw [this.block b hlt]; exact hh
theorem Ix.lt {w : World} {g : Nat} {i : Itm} {v : Value} (h : Ix w g i v) : g < w.heap.size := (Array.getElem?_eq_some_iff.1 h).1
theorem Ix.later {w w' : World} {g : Nat} {i : Itm} {v : Value} (h : Ix w g i v) (hb : Below w.heap.size w w') : Ix w' g i v := (hb.block g h.lt).trans h
theorem Ix.new (w : World) (i : Itm) (v : Value) : Ix (w.alloc (.cells (iC i v) 58)) w.heap.size i v := alloc_new w _
theorem Ix.alloc {w : World} {g : Nat} {i : Itm} {v : Value} (h : Ix w g i v) (o : Obj) : Ix (w.alloc o) g i v := alloc_block h
theorem Ix.tag {w : World} {g : Nat} {i : Itm} {v : Value} (h : Ix w g i v) (_ : True) : w.cell? ⟨g, 0, none⟩ = some (.string ⟨i.tag.toArray⟩) := by rw [cell_of_row _ _ 0 _ _ _ h]; rfl
theorem Ix.qual {w : World} {g : Nat} {i : Itm} {v : Value} (h : Ix w g i v) (_ : True) : w.cell? ⟨g, 1, none⟩ = some (.string ⟨i.qual.toArray⟩) := by rw [cell_of_row _ _ 1 _ _ _ h]; rfl
theorem Ix.text {w : World} {g : Nat} {i : Itm} {v : Value} (h : Ix w g i v) (_ : True) : w.cell? ⟨g, 2, none⟩ = some (.string ⟨i.text.toArray⟩) := by rw [cell_of_row _ _ 2 _ _ _ h]; rfl
theorem Ix.name {w : World} {g : Nat} {i : Itm} {v : Value} (h : Ix w g i v) (_ : True) : w.cell? ⟨g, 3, none⟩ = some (.string ⟨i.name.toArray⟩) := by rw [cell_of_row _ _ 3 _ _ _ h]; rfl
theorem Ix.items {w : World} {g : Nat} {i : Itm} {v : Value} (h : Ix w g i v) (_ : True) : w.cell? ⟨g, 4, none⟩ = some v := by rw [cell_of_row _ _ 4 _ _ _ h]; rfl
theorem same_below {P : Program} {f : FuncId} {args : Array Value} {w : World} {v : Value} (h : Calls P f args w fun e w' => e = .returned v ∧ w' = w) : Calls P f args w fun e w' => e = .returned v ∧ Below w.heap.size w w' :=
  h.mono (fun _ _ h => ⟨h.1, h.2 ▸ Below.refl _ _⟩)
def fE (tg qe ql ne ke tx nl hd : Bool) : Int := if !tg then 4 else if !qe && !ql then 4 else if !ne then 4 else if !ke then 4 else if !tx then 6 else if nl then 4 else if qe && hd then 4 else 0
/-- What is wrong with a field. -/
def fieldE (i : Itm) (n : Nat) : Int := fE (tagB i.tag) i.qual.isEmpty (qualB i.qual) i.name.isEmpty (decide (n = 0)) (txB i.text) (nlB i.text) (hdB i.text)
def bE (dp nm qe te : Bool) : Int := if dp then 5 else if !nm then 4 else if !qe then 4 else if !te then 4 else 0
/-- What is wrong with a block. -/
def blockE (i : Itm) (d : Int) : Int := bE (decide (8 ≤ d)) (nameB i.name) i.qual.isEmpty i.text.isEmpty
/-- What is wrong with an item. -/
def itemE (i : Itm) (n : Nat) (d : Int) : Int := if !i.tag.isEmpty then fieldE i n else if i.name.isEmpty then 24 else blockE i d
theorem str_eq_t {l : List UInt8} (h : l.isEmpty = true) : ((⟨l.toArray⟩ : ByteArray) == ⟨#[]⟩) = true := by
  have := bytes_nil_t h; rw [bne] at this; simpa using this
theorem str_eq_f {l : List UInt8} (h : l.isEmpty = false) : ((⟨l.toArray⟩ : ByteArray) == ⟨#[]⟩) = false := by
  have := bytes_nil_f h; rw [bne] at this; simpa using this
theorem ret_fE {i : Itm} {n : Nat} {k : Int} {v : Value} (h : fieldE i n = k) (hv : v = errV k) : Ending.returned v = .returned (errV (fieldE i n)) := by rw [h, hv]
theorem ret_bE {i : Itm} {d k : Int} {v : Value} (h : blockE i d = k) (hv : v = errV k) : Ending.returned v = .returned (errV (blockE i d)) := by rw [h, hv]
theorem below_dN {B : Nat} {a w : World} (h : Below B a w) (n : Nat) : Below B a (w.drewN n) := h.trans ⟨rfl, rfl, rfl, Nat.le_refl _, fun _ _ => rfl⟩
end Go.Proofs.YtbaideeiljeamaaGreatDoor.TG
