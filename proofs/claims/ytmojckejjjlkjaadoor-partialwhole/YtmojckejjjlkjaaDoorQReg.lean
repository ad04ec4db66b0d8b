/-
  My own text: a drawn region, walked operation by operation in an order of my own.
-/
import Derived.Test.YtmojckejjjlkjaaDoorHeld
import Derived.Deep.RegionHeld3
namespace Go.Proofs.YtmojckejjjlkjaaDoor
open Go.RowKit

section
variable {P : Program} {ops : Array Oper} {Q : Exit → Act → World → Prop} {md : Region.Mode} {S : World → Prop}
/-- Taken first: what it yields lies in slot d. -/
theorem tk {fuel : Nat} {listed : Array Bool} {tmps : Array Value} {df : List Deferred} {w : World} {oi : Oper} {v : Value} (i d : Nat) (listed' : Array Bool) (hi : ops[i]? = some oi) (hd : oi.dst = some d)
    (hs : Region.noSelect ops = true) (hf : Region.free md ops listed i = true) (hr : (Region.ready md ops listed).contains i = true)
    (hQ : ∀ c a w, Q (.panic c) (a.put oi.dst v) w → Q (.panic c) a w) (hl : listed.setIfInBounds i true = listed')
    (hw : Region.wanted oi (yielded ops tmps) = true) (hy : ∀ w, S w → (execOp (Act.eval ⟨tmps, df⟩) oi).run P w = .ok (.value v) w) (hS : S w)
    (h : wpAnyH P md ops Q S fuel listed' ⟨tmps.setIfInBounds d v, df⟩ w) : wpAnyH P md ops Q S (fuel + 1) listed ⟨tmps, df⟩ w := by
  refine wpAnyH_take hi hs hf hr hQ (Or.inl ⟨hw, hy⟩) hS ?_
  rw [hl, hd]
  exact h
/-- Passed by: its guard says no. -/
theorem sk {fuel : Nat} {listed : Array Bool} {tmps : Array Value} {df : List Deferred} {w : World} {oi : Oper} (i d : Nat) (listed' : Array Bool) (hi : ops[i]? = some oi) (hd : oi.dst = some d)
    (hs : Region.noSelect ops = true) (hf : Region.free md ops listed i = true) (hr : (Region.ready md ops listed).contains i = true)
    (hQ : ∀ c a w, Q (.panic c) (a.put oi.dst undef) w → Q (.panic c) a w) (hl : listed.setIfInBounds i true = listed')
    (hw : Region.wanted oi (yielded ops tmps) = false) (hS : S w)
    (h : wpAnyH P md ops Q S fuel listed' ⟨tmps.setIfInBounds d undef, df⟩ w) : wpAnyH P md ops Q S (fuel + 1) listed ⟨tmps, df⟩ w := by
  refine wpAnyH_take hi hs hf hr hQ (Or.inr ⟨hw, rfl⟩) hS ?_
  rw [hl, hd]
  exact h
/-- The beginning, with the list of those that have come up written out. -/
theorem begins_held {id : Nat} {a : Act} {w : World} (fuel : Nat) (listed : Array Bool) (hm : P.follows .mixedOrders = true) (hf : ops.size = fuel) (hl : Array.replicate ops.size false = listed) (hS : S w.drew)
    (h : S w.drew → wpAnyH P .any ops Q S fuel listed a w.drew) : (Code.region id ops true).wp P Q a w := by
  subst hf hl
  exact wp_region_held_drew hm hS h
/-- The one that may come up, with the list written out. -/
theorem one_ready {fuel : Nat} {listed : Array Bool} {a : Act} {w : World} {oi : Oper} (i : Nat) (listed' : Array Bool) (hi : ops[i]? = some oi) (hr : Region.ready md ops listed = [i]) (hl : listed.setIfInBounds i true = listed')
    (hw : Region.wanted oi (yielded ops a.tmps) = true)
    (h : ∀ K' : Act → World → Prop, Shut (∀ a w, S w → (S w → wpAnyH P md ops Q S fuel listed' a w) → K' a w) → Oper.wp P oi a w K' Q) : wpAnyH P md ops Q S (fuel + 1) listed a w := by
  refine wpAnyH_ready hr (by simp) (AllReadyH.cons hi (fun K' hK => ?_) AllReadyH.nil)
  rw [if_pos hw]
  exact h K' (by rw [hl] at hK; exact hK)
end
end Go.Proofs.YtmojckejjjlkjaaDoor
