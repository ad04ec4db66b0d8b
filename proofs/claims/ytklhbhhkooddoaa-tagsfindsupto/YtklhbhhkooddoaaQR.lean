/-
  My own text: a panic with a fault, caught.
-/
import Derived.Test.YtklhbhhkooddoaaQ4
namespace Go.Proofs.Ytklhbhhkooddoaa
open Go.RowKit

theorem Bk.drew {w : World} {q : Nat} {cs : Array Value} {t : TypeId} (h : Bk w q cs t) : Bk w.drew q cs t := h
theorem Mv.drew {p q : Nat} {w w' : World} (h : Mv p q w w') : Mv p q w w'.drew := ⟨h.os, h.tape, h.output, h.size, h.block⟩
theorem isFault (v : Value) (xT : TypeId) (w : World) : (Instr.typeAssert (.iface 66 v) xT 66 true).run Try.prog w = .ok (.tuple #[v, .bool true]) w := by
  have hu := Try.underlying66
  simp [Instr.typeAssert, run_underlying hu]
set_option maxRecDepth 100000 in
set_option maxHeartbeats 1000000 in
theorem catch_none (p q : Nat) (w : World) :
    CallsD Try.prog 39 #[.pointer (some ⟨p, 0, none⟩), .pointer (some ⟨q, 0, none⟩)] .returning w fun e u' w' => e = .returned (.tuple #[]) ∧ u' = .returning ∧ w' = w := by
  refine callsD_of_wpS Try.func39 rfl fun c₀ cs hu => ?_
  apply wpS_seq
  apply wpS_region
  simp [wpOpsS, go_sem, recoverD, hu, Try.ntmps39, Exit.thenS]
  apply wpS_seq
  apply wpS_seq
  apply wpS_region
  simp [wpOpsS, go_sem, Exit.thenS]
  refine wpS_cond (t := true) (by simp [Act.eval, Array.replicate]) ?_
  simp only [if_true]
  refine wpS_of_wp ?_
  go_wp2_with fail
  cases c₀
  simp_all [bodyPostS, Exit.thenS, results, Try.results39]
set_option maxRecDepth 100000 in
set_option maxHeartbeats 2000000 in
theorem catch_fault (p q : Nat) (lv ev : Value) (no n at_ : Int) (older : List PanicEntry) (w : World) (hp : Bk w p #[lv] 22) (hq : Bk w q #[ev] 44) (hpq : p ≠ q) :
    CallsD Try.prog 39 #[.pointer (some ⟨p, 0, none⟩), .pointer (some ⟨q, 0, none⟩)] (.panicking ({ v := fltV no n at_, recovered := false } :: older)) w fun e u' w' => e = .returned (.tuple #[]) ∧ u' = .panicking ({ v := fltV no n at_, recovered := true } :: older) ∧ Bk w' p #[.slice none 0 0] 22 ∧ Bk w' q #[fltV no n at_] 44 ∧ Mv p q w w' := by
  refine callsD_of_wpS Try.func39 rfl fun c₀ cs hu => ?_
  unfold fltV at hu ⊢
  apply wpS_seq
  apply wpS_region
  simp [wpOpsS, go_sem, recoverD, hu, Try.ntmps39, Exit.thenS]
  apply wpS_seq
  apply wpS_seq
  apply wpS_region
  simp [wpOpsS, go_sem, Exit.thenS]
  refine wpS_cond (t := false) (by simp [Act.eval, Array.replicate]) ?_
  simp only [Bool.false_eq_true, if_false]
  refine wpS_of_wp (wp_skip ?_)
  simp only [Exit.thenS]
  refine wpS_of_wp ?_
  have c0 := hp.cell 0
  have c1 := hq.cell 0
  simp only [List.getElem?_toArray, List.getElem?_cons_zero] at c0 c1
  have z0 := hp.free 0
  have z1 := hq.free 0
  have hpl := hp.lt
  have hql := hq.lt
  have hqp : q ≠ p := Ne.symm hpq
  have hta := isFault (.agg #[.int .i64 no, .int .i64 n, .int .i64 at_]) 20 w
  simp only [Array.replicate_succ, Array.replicate_zero, List.push_toArray, List.append_toArray, List.setIfInBounds_toArray, List.set_cons_zero, List.set_cons_succ, List.cons_append, List.nil_append]
  go_wp2_with fail
  go_region
  all_goals (refine ⟨rfl, _, rfl, _, results_none rfl _ _ _, rfl, rfl, ?_, ?_, ?_⟩)
  all_goals first
    | exact (Bk.alloc (Bk.other (Bk.set1 hp) 0 _ hpq) _).drew
    | exact (Bk.alloc (Bk.set1 (Bk.other hp 0 _ hpq)) _).drew
    | exact (Bk.alloc (Bk.other (Bk.set1 hq) 0 _ hqp) _).drew
    | exact (Bk.alloc (Bk.set1 (Bk.other hq 0 _ hqp)) _).drew
    | exact ((((Mv.refl p q w).set (.inl rfl) _).set (.inr rfl) _).trans (Mv.of ((Below.refl _ _).alloc (Nat.le_refl _) _))).drew
    | exact ((((Mv.refl p q w).set (.inr rfl) _).set (.inl rfl) _).trans (Mv.of ((Below.refl _ _).alloc (Nat.le_refl _) _))).drew
end Go.Proofs.Ytklhbhhkooddoaa
