/-
  My own text: what PrioNeverPassed asks of the rows; its closure.
-/
import Derived.Test.YtegemfkadclnkaaPN1
namespace Go.Proofs.Ytegemfkadclnkaa
open Go.RowKit

theorem er_sublist {α : Type} [DecidableEq α] (R : List (α × Nat)) (e : α × Nat) : (er R e).Sublist R := List.erase_sublist
/-- The pairs know when they came. -/
def Kn (t : Nat) (R : List En) : Prop := R.Pairwise (fun a b => a.1.2 < b.1.2) ∧ ∀ e ∈ R, e.1.2 < (t : Int)
theorem Kn.mono {t t' : Nat} {R : List En} (h : Kn t R) (ht : t ≤ t') : Kn t' R := ⟨h.1, fun e he => by have := h.2 e he; omega⟩
theorem Kn.er {t : Nat} {R : List En} (h : Kn t R) (x : En) : Kn t (er R x) :=
  ⟨List.Pairwise.sublist (er_sublist R x) h.1, fun e he => h.2 e (er_sub he)⟩
theorem Kn.push {t N : Nat} {R : List En} (h : Kn t R) (a : Int) : Kn (t + 1) (R ++ [((a, (t : Int)), N)]) := by
  refine ⟨?_, fun e he => ?_⟩
  · rw [List.pairwise_append]
    exact ⟨h.1, List.pairwise_singleton _ _, fun e he f hf => by
      rw [List.mem_singleton] at hf; subst hf; exact h.2 e he⟩
  · rcases List.mem_append.1 he with he | he
    · have := h.2 e he; omega
    · rw [List.mem_singleton] at he; subst he; show (t : Int) < ((t + 1 : Nat) : Int); omega
theorem Kn.at_ {t : Nat} {R : List En} (h : Kn t R) {i j : Nat} {e f : En} (hi : R[i]? = some e) (hj : R[j]? = some f) (he : e.1 = f.1) : i = j := by
  obtain ⟨h1, e1⟩ := List.getElem?_eq_some_iff.1 hi
  obtain ⟨h2, e2⟩ := List.getElem?_eq_some_iff.1 hj
  have hp := List.pairwise_iff_getElem.1 h.1
  rcases Nat.lt_trichotomy i j with hlt | heq | hlt
  · have := hp i j h1 h2 hlt; rw [e1, e2, he] at this; omega
  · exact heq
  · have := hp j i h2 h1 hlt; rw [e1, e2, he] at this; omega
theorem rs_lt : ∀ {R : List En} {n i j : Nat} {e f : En}, Rs n R → R[i]? = some e → R[j]? = some f → i < j → e.2 < f.2
  | x :: t, n, 0, j + 1, e, f, h, hi, hj, _ => by
    have h1 : x = e := by simpa using hi
    subst h1
    have hj' : t[j]? = some f := by simpa using hj
    have := Rs.ge h.2 f (List.mem_of_getElem? hj')
    omega
  | x :: t, n, i + 1, j + 1, e, f, h, hi, hj, hlt => rs_lt h.2 (by simpa using hi) (by simpa using hj) (by omega)
/-- None that is asked for stands ahead. -/
theorem Kn.first {t n : Nat} {R : List En} {p : Pr → Bool} {x e : En} (h : Kn t R) (hr : Rs n R) (hm : mn kR p R = some x) {i : Nat} (hi : R[i]? = some e) (hp : p e.1 = true) : ¬ e.1.1 < x.1.1 ∧ (e.1.1 = x.1.1 → ¬ e.1.2 < x.1.2) := by
  obtain ⟨hx, _, hall⟩ := mn_some hm
  have h1 := ltE_no.1 (hall e (List.mem_of_getElem? hi) hp)
  unfold kR at h1
  obtain ⟨j, hj⟩ := List.getElem?_of_mem hx
  refine ⟨by omega, fun he => ?_⟩
  have h2 : x.2 ≤ e.2 := by omega
  rcases Nat.lt_trichotomy i j with hlt | heq | hlt
  · have := rs_lt hr hi hj hlt; omega
  · subst heq; rw [hi] at hj; cases hj; omega
  · obtain ⟨q1, e1⟩ := List.getElem?_eq_some_iff.1 hi
    obtain ⟨q2, e2⟩ := List.getElem?_eq_some_iff.1 hj
    have := List.pairwise_iff_getElem.1 h.1 j i q2 q1 hlt
    rw [e1, e2] at this; omega
theorem cut_er {n : Nat} {R : List En} {x : En} {j : Nat} (hr : Rs n R) (hj : R[j]? = some x) : (R.map (·.1)).take j ++ (R.map (·.1)).drop (j + 1) = (er R x).map (·.1) := by
  rw [erase_at hr hj, List.eraseIdx_eq_take_drop_succ, List.map_append, List.map_take, List.map_drop]
/-- What the closure asks. -/
def wants (k l : Int) (p : Pr) : Bool := !(k == 3) || decide (l ≤ p.1)
end Go.Proofs.Ytegemfkadclnkaa
