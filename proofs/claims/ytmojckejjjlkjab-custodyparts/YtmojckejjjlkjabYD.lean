/-
  My own text: what the parts of an order have together: the mathematics of PartialWhole.
-/
import Derived.Test.YtmojckejjjlkjabY6
namespace Go.Proofs.Ytmojckejjjlkjab
open Go.RowKit

theorem q_facts {o : Od} (ok : o.Ok) (h c : Int) : 0 ≤ o.q h c ∧ o.q h c ≤ o.Q - o.D ∧ 0 ≤ o.m h c ∧ o.m h c ≤ o.lm ∧ (0 < o.q h c → o.q h c ≤ h ∧ o.m h c ≤ c) ∧ (o.q h c = 0 → o.m h c = 0) ∧ (0 < o.q h c → o.q h c ≠ o.Q - o.D → o.q h c % o.L = 0 ∧ ¬ o.q h c < o.K) := by
  have b := Od.q_bnd ok h c
  have m1 := mon_mono (D := o.D) ok.Q0 ok.A0 b.1
  have m2 := mon_mono (D := o.D) ok.Q0 ok.A0 b.2
  rw [mon_zero] at m1
  rw [mon_left ok.Q0] at m2
  refine ⟨b.1, b.2, m1, m2, fun hq => ?_, fun e => Od.m_zero e, fun hq hne => ?_⟩
  · have hh : ¬ (h < 1 ∨ c < 0) := fun x => by unfold Od.q tkQ at hq; rw [if_pos x] at hq; omega
    have pb := pay_bnd ok.Q0 ok.A0 ok.D0 ok.DQ (show 0 ≤ c by omega)
    have e : o.q h c = gr (o.Q - o.D) o.L o.K (min h (pay o.Q o.A o.D c)) := by unfold Od.q tkQ; rw [if_neg hh]
    have g := (gr_bnd (left := o.Q - o.D) (lot := o.L) (least := o.K) (h := min h (pay o.Q o.A o.D c)) (by have := ok.DQ; omega) (by omega) ok.L0).2.2
    rw [← e] at g
    exact ⟨by omega, (pay_iff ok.Q0 ok.A0 ok.D0 b.2 (by omega) ok.DQ).2 (by omega)⟩
  · have hh : ¬ (h < 1 ∨ c < 0) := fun x => by unfold Od.q tkQ at hq; rw [if_pos x] at hq; omega
    have e : o.q h c = gr (o.Q - o.D) o.L o.K (min h (pay o.Q o.A o.D c)) := by unfold Od.q tkQ; rw [if_neg hh]
    generalize min h (pay o.Q o.A o.D c) = x at e
    unfold gr at e
    split at e
    · exact absurd e hne
    · split at e
      · omega
      · rw [e]
        refine ⟨?_, by assumption⟩
        have := Int.emod_add_mul_ediv x o.L
        rw [show x - x % o.L = o.L * (x / o.L) by omega, Int.mul_emod_right]
theorem lq_tk {o : Od} (h c : Int) : (o.tk h c).lq = o.lq - o.q h c := by
  by_cases e : o.q h c = 0
  · rw [Od.tk_zero e, e]; omega
  · rw [Od.tk_pos e]; show o.Q - (o.D + o.q h c) = o.Q - o.D - o.q h c; omega
theorem lm_tk {o : Od} (h c : Int) : (o.tk h c).lm = o.lm - o.m h c := by
  by_cases e : o.q h c = 0
  · rw [Od.tk_zero e, Od.m_zero e]; omega
  · rw [Od.tk_pos e]; show o.A - sh o.A (o.D + o.q h c) o.Q = o.A - sh o.A o.D o.Q - (sh o.A (o.D + o.q h c) o.Q - sh o.A o.D o.Q); omega
theorem l_bnd {o : Od} (ok : o.Ok) : 0 ≤ o.lq ∧ o.lq ≤ 9223372036854775807 ∧ 0 ≤ o.lm ∧ o.lm ≤ 9223372036854775807 ∧ (o.lq = 0 → o.lm = 0) := by
  have b := sh_bnd ok.A0 ok.D0 ok.DQ ok.Q0
  have h1 := ok.DQ; have h2 := ok.Q1; have h3 := ok.D0; have h4 := ok.A1
  unfold Od.lq Od.lm
  refine ⟨by omega, by omega, by omega, by omega, fun e => ?_⟩
  rw [show o.D = o.Q by omega, sh_full ok.Q0]; omega
/-- The quantities together, the moneys together. -/
def s1 : List (Int × Int) → Int
  | [] => 0
  | p :: t => p.1 + s1 t
def s2 : List (Int × Int) → Int
  | [] => 0
  | p :: t => p.2 + s2 t
theorem s1_app (a b : List (Int × Int)) : s1 (a ++ b) = s1 a + s1 b := by
  induction a with
  | nil => show s1 b = 0 + s1 b; omega
  | cons p t ih => show p.1 + s1 (t ++ b) = p.1 + s1 t + s1 b; rw [ih]; omega
theorem s2_app (a b : List (Int × Int)) : s2 (a ++ b) = s2 a + s2 b := by
  induction a with
  | nil => show s2 b = 0 + s2 b; omega
  | cons p t ih => show p.2 + s2 (t ++ b) = p.2 + s2 t + s2 b; rw [ih]; omega
theorem s_nn : ∀ (P : List (Int × Int)), (∀ p ∈ P, 1 ≤ p.1 ∧ 0 ≤ p.2) → 0 ≤ s1 P ∧ 0 ≤ s2 P
  | [], _ => ⟨Int.le_refl _, Int.le_refl _⟩
  | p :: t, h => by
    have h1 := s_nn t (fun x hx => h x (List.mem_cons_of_mem _ hx))
    have h2 := h p List.mem_cons_self
    show 0 ≤ p.1 + s1 t ∧ 0 ≤ p.2 + s2 t
    omega
theorem s_take (P : List (Int × Int)) (k : Nat) (h : ∀ p ∈ P, 1 ≤ p.1 ∧ 0 ≤ p.2) : 0 ≤ s1 (P.take k) ∧ s1 (P.take k) ≤ s1 P ∧ 0 ≤ s2 (P.take k) ∧ s2 (P.take k) ≤ s2 P := by
  have e1 := s1_app (P.take k) (P.drop k)
  have e2 := s2_app (P.take k) (P.drop k)
  rw [List.take_append_drop] at e1 e2
  have a := s_nn (P.take k) (fun x hx => h x (List.mem_of_mem_take hx))
  have b := s_nn (P.drop k) (fun x hx => h x (List.mem_of_mem_drop hx))
  omega
theorem s_step {P : List (Int × Int)} {k : Nat} {p : Int × Int} (h : P[k]? = some p) : s1 (P.take (k + 1)) = s1 (P.take k) + p.1 ∧ s2 (P.take (k + 1)) = s2 (P.take k) + p.2 := by
  rw [List.take_add_one, h, s1_app, s2_app]
  exact ⟨by show _ + (p.1 + 0) = _; omega, by show _ + (p.2 + 0) = _; omega⟩
/-- What is known of an order's parts. -/
structure Od.In (o : Od) : Prop where
  e1 : s1 o.P = o.D
  e2 : s2 o.P = sh o.A o.D o.Q
  p : ∀ p ∈ o.P, 1 ≤ p.1 ∧ 0 ≤ p.2
theorem Od.In.new (Q A L K : Int) : (Od.mk Q A L K 0 []).In := ⟨rfl, by show 0 = sh A 0 Q; rw [sh_zero], fun p hp => by cases hp⟩
theorem Od.In.tk {o : Od} (h : o.In) (ok : o.Ok) (hv cv : Int) : (o.tk hv cv).In := by
  have f := q_facts ok hv cv
  by_cases e : o.q hv cv = 0
  · rw [Od.tk_zero e]; exact h
  · rw [Od.tk_pos e]
    refine ⟨?_, ?_, fun p hp => ?_⟩
    · show s1 (o.P ++ _) = _; rw [s1_app, h.e1]; show o.D + (o.q hv cv + 0) = o.D + o.q hv cv; omega
    · show s2 (o.P ++ _) = _; rw [s2_app, h.e2]; show sh o.A o.D o.Q + (o.m hv cv + 0) = sh o.A (o.D + o.q hv cv) o.Q
      unfold Od.m mon; omega
    · rcases List.mem_append.1 hp with hp | hp
      · exact h.p p hp
      · obtain rfl := List.mem_singleton.1 hp
        exact ⟨by show 1 ≤ o.q hv cv; omega, f.2.2.1⟩
theorem tk_len (o : Od) (h c : Int) : (o.tk h c).P.length ≤ o.P.length + 1 := by
  unfold Od.tk
  split
  · omega
  · simp
end Go.Proofs.Ytmojckejjjlkjab
