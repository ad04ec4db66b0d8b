/-
  My own text: the steps of a play, by the program (printed by mkpc5.py).
-/
import Derived.Test.YtegemfkadclnkaaPC1
namespace Go.Proofs.Ytegemfkadclnkaa
open Go.RowKit

abbrev Stp := Int × Int × Int
def sa (m : Option En) : Pr := match m with | none => (-1, -1) | some e => e.1
/-- What a step answers, what is left behind it. -/
def st1 (k : Pr → Int) (R : List En) (N : Nat) (s : Stp) : Pr × List En × Nat :=
  if s.1 = 0 then (sa (mn k (fun _ => true) R), nx R (mn k (fun _ => true) R), N)
  else if s.1 = 1 then ((s.2.1, s.2.2), R ++ [((s.2.1, s.2.2), N)], N + 1)
  else if s.1 = 2 then (sa (mn k (fun _ => true) R), R, N)
  else if s.1 = 3 then (sa (mn k (fun x => x.2 == s.2.1) R), nx R (mn k (fun x => x.2 == s.2.1) R), N)
  else if s.1 = 4 then (((R.length : Int), 0), R, N)
  else ((-1, -1), R, N)
def pl (k : Pr → Int) : List En → Nat → List Stp → List Pr
  | _, _, [] => []
  | R, N, s :: t => (st1 k R N s).1 :: pl k (st1 k R N s).2.1 (st1 k R N s).2.2 t
theorem told_sa (m : Option En) : (if m.isSome then ans m else (-1, -1)) = sa m := by cases m <;> rfl
theorem HQ.box {w W : World} {B hb lb bx : Nat} {lf : FuncId} {k : Pr → Int} {v v' : Value} {R : List En} {N : Nat} {old cs : Array Value} {fz : Nat × Nat} (h : HQ W B hb lb lf k v' R N) (hf : Fq w W hb v v') (hr : w.heap.size ≤ bx) (hb' : W.heap[bx]? = some (.cells old 25 fz)) :
    HQ (W.setRow bx cs) B hb lb lf k v' R N ∧ Fq w (W.setRow bx cs) hb v v' := by
  have hs : (W.setRow bx cs).heap.size = W.heap.size := by simp [World.setRow]
  obtain ⟨E, h1, h2, h3⟩ := h.hp
  obtain ⟨g1, g2⟩ := out_end (cs := cs) h1 hf hr hb'
  exact ⟨⟨⟨E, g1, h2, h3⟩, h.rs, h.lt, h.len, by rw [hs]; exact h.bw, h.bh⟩, g2⟩
end Go.Proofs.Ytegemfkadclnkaa
