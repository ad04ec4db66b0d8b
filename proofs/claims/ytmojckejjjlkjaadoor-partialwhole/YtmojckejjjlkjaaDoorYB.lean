/-
  My own text: two orders of each side apart in memory.
-/
import Derived.Test.YtmojckejjjlkjaaDoorYA
import Derived.Test.YtmojckejjjlkjaaDoorYArg
import Derived.Test.YtmojckejjjlkjaaDoorUPick
namespace Go.Proofs.YtmojckejjjlkjaaDoor
open Go.RowKit

/-- An order of the program's as a thing in memory; none, if b. -/
def OC (b : Bool) (g : Nat) (o : Od) (pv : Value) : Cp := ⟨fun x => b = false ∧ OF g pv x, fun w => b = false → OB w g o pv⟩
theorem OC.ok (b : Bool) (g : Nat) (o : Od) (pv : Value) : (OC b g o pv).Ok :=
  ⟨fun w w' h _ hk hb => ⟨(hk g ⟨hb, .inl rfl⟩).trans (h hb).box, owns_blk (h hb).row (fun x hx => hk x ⟨hb, .inr hx⟩), (h hb).nl⟩, fun w h x hx => by
    rcases hx.2 with q | q
    · rw [q]; exact (h hx.1).lt
    · exact (World.ownsRow.lt (h hx.1).row x q).2⟩
/-- An order of the document's. -/
def RC6 (b : Bool) (g : Nat) (o : Od) (pv : Value) : Cp := ⟨fun x => b = false ∧ OF g pv x, fun w => b = false → RB6 w g o pv⟩
theorem RC6.ok (b : Bool) (g : Nat) (o : Od) (pv : Value) : (RC6 b g o pv).Ok :=
  ⟨fun w w' h _ hk hb => ⟨(hk g ⟨hb, .inl rfl⟩).trans (h hb).box, owns_blk (h hb).row (fun x hx => hk x ⟨hb, .inr hx⟩)⟩, fun w h x hx => by
    rcases hx.2 with q | q
    · rw [q]; exact (h hx.1).lt
    · exact (World.ownsRow.lt (h hx.1).row x q).2⟩
/-- One of two has changed. -/
def upY {α : Type} (f : Bool) (s : Bool → α) (x : α) : Bool → α := fun y => if y = f then x else s y
theorem upY_same {α : Type} (f : Bool) (s : Bool → α) (x : α) : upY f s x f = x := by unfold upY; rw [if_pos rfl]
theorem upY_ne {α : Type} {f y : Bool} (s : Bool → α) (x : α) (h : y ≠ f) : upY f s x y = s y := by unfold upY; rw [if_neg h]
/-- The law's things. -/
def lw (b : Bool → Bool) (g r : Bool → Nat) (o q : Bool → Od) (pv rv : Bool → Value) (bx : List Cp) : List Cp :=
  [OC (b false) (g false) (o false) (pv false), OC (b true) (g true) (o true) (pv true), RC6 (b false) (r false) (q false) (rv false), RC6 (b true) (r true) (q true) (rv true)] ++ bx
def iO (f : Bool) : Nat := if f then 1 else 0
def iR (f : Bool) : Nat := if f then 3 else 2
section
variable {w0 w w1 : World} {b : Bool → Bool} {g r : Bool → Nat} {o q : Bool → Od} {pv rv : Bool → Value} {bx : List Cp}
theorem lw_O (f : Bool) : (lw b g r o q pv rv bx)[iO f]? = some (OC (b f) (g f) (o f) (pv f)) := by cases f <;> rfl
theorem lw_R (f : Bool) : (lw b g r o q pv rv bx)[iR f]? = some (RC6 (b f) (r f) (q f) (rv f)) := by cases f <;> rfl
theorem lw_bx (j : Nat) : (lw b g r o q pv rv bx)[4 + j]? = bx[j]? := by
  unfold lw; rw [List.getElem?_append_right (by simp)]; simp
theorem lw_takeO (h : Sep w0 w (lw b g r o q pv rv bx)) (f : Bool) (hb : b f = false) (o2 : Od) (p2 : Value)
    (h1 : OB w1 (g f) o2 p2) (f1 : FS (OF (g f) (pv f)) w w1) (l1 : ∀ x, p2.ownBlock = some x → (pv f).ownBlock = some x ∨ w.heap.size ≤ x) : Sep w0 w1 (lw b g r (upY f o o2) q (upY f pv p2) rv bx) := by
  have s1 := h.step (c' := OC (b f) (g f) o2 p2) (lw_O f) ⟨f1.os, f1.tape, f1.output, f1.size, fun y hy hn => f1.block y hy (fun q => hn ⟨hb, q⟩)⟩ (OC.ok _ _ _ _) (fun _ => h1) (fun x hx => by
    rcases hx.2 with q | q
    · exact .inl ⟨hb, .inl q⟩
    · exact (l1 x q).imp (fun q2 => ⟨hb, .inr q2⟩) id)
  cases f <;> exact s1
theorem lw_takeR (h : Sep w0 w (lw b g r o q pv rv bx)) (f : Bool) (hb : b f = false) (o2 : Od) (p2 : Value)
    (h1 : RB6 w1 (r f) o2 p2) (f1 : FS (OF (r f) (rv f)) w w1) (l1 : ∀ x, p2.ownBlock = some x → (rv f).ownBlock = some x ∨ w.heap.size ≤ x) : Sep w0 w1 (lw b g r o (upY f q o2) pv (upY f rv p2) bx) := by
  have s1 := h.step (c' := RC6 (b f) (r f) o2 p2) (lw_R f) ⟨f1.os, f1.tape, f1.output, f1.size, fun y hy hn => f1.block y hy (fun q => hn ⟨hb, q⟩)⟩ (RC6.ok _ _ _ _) (fun _ => h1) (fun x hx => by
    rcases hx.2 with q | q
    · exact .inl ⟨hb, .inl q⟩
    · exact (l1 x q).imp (fun q2 => ⟨hb, .inr q2⟩) id)
  cases f <;> exact s1
theorem lw_isO (h : Sep w0 w (lw b g r o q pv rv bx)) (f : Bool) (hb : b f = false) : OB w (g f) (o f) (pv f) := h.is _ _ (lw_O f) hb
theorem lw_isR (h : Sep w0 w (lw b g r o q pv rv bx)) (f : Bool) (hb : b f = false) : RB6 w (r f) (q f) (rv f) := h.is _ _ (lw_R f) hb
end
end Go.Proofs.YtmojckejjjlkjaaDoor
