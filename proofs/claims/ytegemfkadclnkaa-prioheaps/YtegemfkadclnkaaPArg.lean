/-
  My own text: steps and acts among the arguments.
-/
import Derived.Test.YtegemfkadclnkaaRows
import Derived.Test.YtegemfkadclnkaaPC8
import Derived.ProofKit
import Derived.OpenShut
import Derived.ChangeSame
import Derived.ChangeSlices
import Derived.JoinedOf
import Derived.JoinedCond
import Derived.Carry
import Derived.RowKit
import Derived.RowKitTokens
import Derived.Deep.Slices
import Derived.SizedLaws
import Derived.HandedShaped
namespace Go.Proofs.Ytegemfkadclnkaa
open Go.ChangeShapes Go.WideShapes Go.ChangeAt Go.RowKit

theorem Try.own : ownKnob Try.prog.godebug = none := by kernel_rfl
theorem Try.laidOut : laidOutB Try.prog = true := by kernel_rfl
section
variable {H : Type} {enc : TypeId × Value → H} {P : Program} {w : World} {base : Nat} {spare : Nat → Bool} {held : Bool} {t : TypeId} {cs : List Value} {v : Value} {n : Nat} {x : DataW H × List MemPlace}
theorem intFA {k : IntKind} (ht : P.underlying t = some (.int k)) (h : DataW.trod enc P w base spare held n t cs = some x) (hc : cs = [v]) :
    ∃ a, v = .int k a ∧ (Lit.int k a).wf = true := by
  obtain ⟨a, e, hx, hw⟩ := DataW.trod_int ht h
  rw [hc] at e
  exact ⟨a, by simpa using e, hw⟩
end
theorem listOfA {α : Type} {Q : Nat → α → Prop} : ∀ n : Nat, (∀ j, j < n → ∃ p, Q j p) → ∃ l : List α, l.length = n ∧ ∀ j p, l[j]? = some p → Q j p
  | 0, _ => ⟨[], rfl, fun j p h => by simp at h⟩
  | n + 1, h => by
    obtain ⟨l, hl, hq⟩ := listOfA n (fun j hj => h j (by omega))
    obtain ⟨p, hp⟩ := h n (by omega)
    refine ⟨l ++ [p], by simp [hl], fun j p' hj => ?_⟩
    by_cases hjn : j < n
    · rw [List.getElem?_append_left (by omega)] at hj; exact hq j p' hj
    · rw [List.getElem?_append_right (by omega)] at hj
      have : j - l.length = 0 := by
        have := (List.getElem?_eq_some_iff.1 hj).1
        simp at this; omega
      rw [this] at hj
      have hj' : j = n := by omega
      simp at hj; subst hj; rw [hj']; exact hp
end Go.Proofs.Ytegemfkadclnkaa
