/-
  My own text: the document's Put, Last and Prune over a row of versions.
-/
import Derived.Test.YtnjjehlfgoggfaaDoorHD2
namespace Go.Proofs.YtnjjehlfgoggfaaDoor
open Go.RowKit Go.Shelf

theorem lastN_all {L : List Ver} {n : Int} (hr : Ris L) (h : lastN L < n) : ∀ (i : Nat) (p : Ver), L[i]? = some p → p.1 < n := fun i p hp => by
  have := ris_last L hr p (List.mem_of_getElem? hp); omega
/-- What a Put leaves. -/
def ptL (n : Int) (s : List UInt8) (L : List Ver) : List Ver := if lastN L < n then L ++ [(n, s)] else L
def ptE (n : Int) (L : List Ver) : Int := if lastN L < n then 0 else 1
theorem OR.slc {w : World} {B : Nat} {e : TypeId} {k : Nat} {v : Value} {n : Nat} {xs : List Value} (h : OR w B e k v n xs) : ∃ a cap, v = .slice a n cap := by
  rcases h.2 with ⟨rfl, rfl⟩ | ⟨g, off, cap, cur, rfl, _⟩ <;> exact ⟨_, _, rfl⟩
theorem ptL_no {n : Int} {s : List UInt8} {L : List Ver} (h : ¬ lastN L < n) : ptL n s L = L ∧ ptE n L = 1 := by unfold ptL ptE; rw [if_neg h, if_neg h]; exact ⟨rfl, rfl⟩
theorem ptL_yes {n : Int} {s : List UInt8} {L : List Ver} (h : lastN L < n) : ptL n s L = L ++ [(n, s)] ∧ ptE n L = 0 := by unfold ptL ptE; rw [if_pos h, if_pos h]; exact ⟨rfl, rfl⟩
end Go.Proofs.YtnjjehlfgoggfaaDoor
