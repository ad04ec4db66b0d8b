/-
  My own text: calls of a drawn region; two operations that are ready (out of VQ, VQ2).
-/
import Derived.Test.YtegemfkadclnkaaPS3
namespace Go.Proofs.Ytegemfkadclnkaa
open Go.RowKit

theorem op_call_fn {P : Program} {Q : Exit → Act → World → Prop} {o : Oper} {a : Act} {K : Act → World → Prop} {w : World} (f : FuncId) (args : Array Value) (he : (execOp a.eval o).run P w = .ok (.enter f args) w) (h : Calls P f args w fun e w' => ∃ v, e = .returned v ∧ K (a.put o.dst v) w') : o.wp P a w K Q := by
  unfold Oper.wp
  rw [he, Oper.upon_enter]
  refine h.mono ?_
  rintro e w' ⟨v, rfl, hk⟩
  exact hk
section
variable {P : Program} {ops : Array Oper} {Q : Exit → Act → World → Prop} {md : Region.Mode} {S : World → Prop} {z : Nat}
theorem z_two {f : Nat} {ls : Array Bool} {a : Act} {w : World} {oi oj : Oper} (i j : Nat) (lsi lsj : Array Bool) (hi : ops[i]? = some oi) (hj : ops[j]? = some oj) (hr : Region.ready md ops ls = [i, j]) (hli : ls.setIfInBounds i true = lsi) (hlj : ls.setIfInBounds j true = lsj)
    (hwi : Region.wanted oi (yielded ops a.tmps) = true) (hwj : Region.wanted oj (yielded ops a.tmps) = true)
    (h1 : ∀ K' : Act → World → Prop, Shut (∀ a w, (i ≠ z → S w) → ((i ≠ z → S w) → anyZ P md ops Q S z f lsi a w) → K' a w) → Oper.wp P oi a w K' Q)
    (h2 : ∀ K' : Act → World → Prop, Shut (∀ a w, (j ≠ z → S w) → ((j ≠ z → S w) → anyZ P md ops Q S z f lsj a w) → K' a w) → Oper.wp P oj a w K' Q) : anyZ P md ops Q S z (f + 1) ls a w := by
  refine ⟨fun h0 => (by rw [hr] at h0; cases h0), fun n hn => ?_⟩
  rw [hr] at hn
  rcases List.mem_cons.1 hn with rfl | hn
  · refine wpOp_step hi (fun K' hK => ?_)
    rw [if_pos hwi]
    refine h1 K' (fun a w h1 h2 => hK a w ⟨h1, ?_⟩)
    rw [hli]; exact h2 h1
  · obtain rfl := List.mem_singleton.1 hn
    refine wpOp_step hj (fun K' hK => ?_)
    rw [if_pos hwj]
    refine h2 K' (fun a w h1 h2 => hK a w ⟨h1, ?_⟩)
    rw [hlj]; exact h2 h1
end
end Go.Proofs.Ytegemfkadclnkaa
