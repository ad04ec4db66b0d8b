/-
  My own text: what was put last and not above n, by mathematics.
-/
import Derived.Test.YtnjjehlfgoggfaaDoorHC7
import Derived.Test.YtnjjehlfgoggfaaDoorHC8
namespace Go.Proofs.YtnjjehlfgoggfaaDoor
open Go.RowKit

/-- An act: is it a pruning, its number, its text. -/
abbrev Ac := Bool × Int × List UInt8
def lastN (L : List Ver) : Int := match L[L.length - 1]? with | some p => p.1 | none => -1
theorem lastN_nil : lastN [] = -1 := rfl
theorem lastN_snoc (L : List Ver) (p : Ver) : lastN (L ++ [p]) = p.1 := by
  unfold lastN
  have : (L ++ [p])[(L ++ [p]).length - 1]? = some p := by
    rw [List.length_append]
    simp
  rw [this]
theorem lastN_at {L : List Ver} {p : Ver} (h : L[L.length - 1]? = some p) : lastN L = p.1 := by unfold lastN; rw [h]
theorem snoc_cases (L : List Ver) : L = [] ∨ ∃ K p, L = K ++ [p] := by
  rcases List.eq_nil_or_concat L with h | ⟨K, p, h⟩
  · exact .inl h
  · exact .inr ⟨K, p, by rw [h]; simp⟩
theorem ris_snoc : ∀ (L : List Ver) (p : Ver), Ris L → (∀ q ∈ L, q.1 < p.1) → Ris (L ++ [p])
  | [], p, _, _ => ⟨fun q hq => (by cases hq), trivial⟩
  | a :: r, p, h, hp => ⟨fun q hq => by
      rcases List.mem_append.1 hq with hq | hq
      · exact h.1 q hq
      · rw [List.mem_singleton.1 hq]; exact hp a (List.mem_cons_self ..), ris_snoc r p h.2 (fun q hq => hp q (List.mem_cons_of_mem _ hq))⟩
theorem ris_last : ∀ (L : List Ver), Ris L → ∀ q ∈ L, q.1 ≤ lastN L := by
  intro L
  rcases snoc_cases L with rfl | ⟨K, p, rfl⟩
  · intro _ q hq; cases hq
  · intro h q hq
    rw [lastN_snoc]
    have hs : ∀ (K : List Ver), Ris (K ++ [p]) → ∀ q ∈ K, q.1 < p.1 := by
      intro K
      induction K with
      | nil => intro _ q hq; cases hq
      | cons a r ih =>
        intro h q hq
        rcases List.mem_cons.1 hq with rfl | hq
        · exact h.1 p (List.mem_append.2 (.inr (List.mem_singleton.2 rfl)))
        · exact ih h.2 q hq
    rcases List.mem_append.1 hq with hq | hq
    · have := hs K h q hq; omega
    · rw [List.mem_singleton.1 hq]; exact Int.le_refl _
theorem ab_snoc (n : Int) : ∀ (L : List Ver) (p : Ver), (∀ q ∈ L, q.1 < p.1) → ab n (L ++ [p]) = if p.1 ≤ n then L.length + 1 else ab n L
  | [], p, _ => by
    show ab n [p] = _
    unfold ab
    by_cases h : p.1 ≤ n
    · rw [if_neg (by omega), if_pos h]; rfl
    · rw [if_pos (by omega), if_neg h]
  | a :: r, p, h => by
    have h1 := h a (List.mem_cons_self ..)
    have ih := ab_snoc n r p (fun q hq => h q (List.mem_cons_of_mem _ hq))
    show ab n (a :: (r ++ [p])) = _
    unfold ab
    by_cases ha : n < a.1
    · rw [if_pos ha, if_pos ha, if_neg (by omega)]
    · rw [if_neg ha, if_neg ha, ih]
      split <;> simp only [List.length_cons]
/-- The chain behind the first k puts. -/
structure NS (n : Int) (ps : List Ac) (k : Nat) (L : List Ver) (last best : Int) : Prop where
  ris : Ris L
  pos : ∀ p ∈ L, 0 ≤ p.1
  max : ∀ p ∈ L, p.1 ≤ 9223372036854775807
  len : L.length ≤ k
  last : last = lastN L
  best : (ab n L = 0 ∧ best = -1) ∨ ∃ (b : Nat) (pr : Bool) (p : Ver), best = (b : Int) ∧ ps[b]? = some (pr, p.1, p.2) ∧ ∃ j, ab n L = j + 1 ∧ L[j]? = some p
theorem NS.start (n : Int) (ps : List Ac) : NS n ps 0 [] (-1) (-1) :=
  ⟨trivial, fun p hp => (by cases hp), fun p hp => (by cases hp), Nat.le_refl _, rfl, .inl ⟨rfl, rfl⟩⟩
theorem NS.low {n : Int} {ps : List Ac} {k : Nat} {L : List Ver} {last best : Int} (h : NS n ps k L last best) : -1 ≤ last := by
  rw [h.last]
  rcases snoc_cases L with rfl | ⟨K, p, rfl⟩
  · exact Int.le_refl _
  · rw [lastN_snoc]; have := h.pos p (List.mem_append.2 (.inr (List.mem_singleton.2 rfl))); omega
theorem NS.skip {n : Int} {ps : List Ac} {k : Nat} {L : List Ver} {last best : Int} (h : NS n ps k L last best) : NS n ps (k + 1) L last best :=
  ⟨h.ris, h.pos, h.max, by have := h.len; omega, h.last, h.best⟩
theorem NS.no {n : Int} {ps : List Ac} {k : Nat} {L : List Ver} {last best N : Int} (h : NS n ps k L last best) (hN : N ≤ last) : N < 0 ∨ ∃ p, L[L.length - 1]? = some p ∧ N ≤ p.1 := by
  rw [h.last] at hN
  rcases snoc_cases L with rfl | ⟨K, p, rfl⟩
  · rw [lastN_nil] at hN; exact .inl (by omega)
  · rw [lastN_snoc] at hN
    exact .inr ⟨p, by rw [List.length_append]; simp, hN⟩
theorem NS.yes {n : Int} {ps : List Ac} {k : Nat} {L : List Ver} {last best N : Int} (h : NS n ps k L last best) (hN : last < N) : 0 ≤ N ∧ ∀ p, L[L.length - 1]? = some p → p.1 < N :=
  ⟨by have := h.low; omega, fun p hp => by rw [← lastN_at hp, ← h.last]; exact hN⟩
theorem NS.put {n : Int} {ps : List Ac} {k : Nat} {L : List Ver} {last best N : Int} {pr : Bool} {V : List UInt8} (h : NS n ps k L last best) (hN : last < N) (hM : N ≤ 9223372036854775807) (hk : ps[k]? = some (pr, N, V)) :
    NS n ps (k + 1) (L ++ [(N, V)]) N (if N ≤ n then (k : Int) else best) := by
  have hq : ∀ q ∈ L, q.1 < N := fun q hq => by have := ris_last L h.ris q hq; rw [← h.last] at this; omega
  refine ⟨ris_snoc L (N, V) h.ris hq, fun p hp => ?_, fun p hp => ?_, by rw [List.length_append]; have := h.len; simp; omega, (lastN_snoc L (N, V)).symm, ?_⟩
  · rcases List.mem_append.1 hp with hp | hp
    · exact h.pos p hp
    · rw [List.mem_singleton.1 hp]; exact (h.yes hN).1
  · rcases List.mem_append.1 hp with hp | hp
    · exact h.max p hp
    · rw [List.mem_singleton.1 hp]; exact hM
  · have e : ab n (L ++ [(N, V)]) = if N ≤ n then L.length + 1 else ab n L := ab_snoc n L (N, V) hq
    by_cases hn : N ≤ n
    · rw [if_pos hn] at e ⊢
      exact .inr ⟨k, pr, (N, V), rfl, hk, L.length, e, by simp⟩
    · rw [if_neg hn] at e ⊢
      rcases h.best with ⟨h1, h2⟩ | ⟨b, pr', p, h1, h2, j, h3, h4⟩
      · exact .inl ⟨e.trans h1, h2⟩
      · exact .inr ⟨b, pr', p, h1, h2, j, e.trans h3, by rw [List.getElem?_append_left (List.getElem?_eq_some_iff.1 h4).1]; exact h4⟩
/-- Acts in memory. -/
def RAc (w : World) (v : Value) (ps : List Ac) : Prop := ∃ a cap, v = .slice a ps.length cap ∧ ∀ (i : Nat) (p : Ac), ps[i]? = some p → ∃ g off, a = some ⟨g, off, none⟩ ∧ w.cell? ⟨g, off + i * 3, none⟩ = some (.bool p.1) ∧ w.cell? ⟨g, off + i * 3 + 1, none⟩ = some (.int .i64 p.2.1) ∧ w.cell? ⟨g, off + i * 3 + 2, none⟩ = some (.string ⟨p.2.2.toArray⟩)
theorem RAc.later {w w' : World} {v : Value} {ps : List Ac} (h : RAc w v ps) (hb : Below w.heap.size w w') : RAc w' v ps := by
  obtain ⟨a, cap, hv, hc⟩ := h
  refine ⟨a, cap, hv, fun i p hp => ?_⟩
  obtain ⟨g, off, ha, h1, h2, h3⟩ := hc i p hp
  exact ⟨g, off, ha, (hb.cell (World.block_lt_of_cell? _ _ h1)).trans h1, (hb.cell (World.block_lt_of_cell? _ _ h2)).trans h2, (hb.cell (World.block_lt_of_cell? _ _ h3)).trans h3⟩
end Go.Proofs.YtnjjehlfgoggfaaDoor
