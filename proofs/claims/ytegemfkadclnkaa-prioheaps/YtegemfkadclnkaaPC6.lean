/-
  My own text: rows of steps; Play, by the program.
-/
import Derived.Test.YtegemfkadclnkaaPC5
namespace Go.Proofs.Ytegemfkadclnkaa
open Go.RowKit

/-- A row of steps. -/
def R3 (w : World) (v : Value) (L : List Stp) : Prop := ∃ a cap, v = .slice a L.length cap ∧ L.length ≤ cap ∧ (L = [] ∨ ∃ b off, a = some ⟨b, off, none⟩ ∧ b < w.heap.size ∧ ∀ (j : Nat) (p : Stp), L[j]? = some p → w.cell? ⟨b, off + j * 3, none⟩ = some (.int .i64 p.1) ∧ w.cell? ⟨b, off + j * 3 + 1, none⟩ = some (.int .i64 p.2.1) ∧ w.cell? ⟨b, off + j * 3 + 2, none⟩ = some (.int .i64 p.2.2))
theorem R3.later {w w' : World} {v : Value} {L : List Stp} (h : R3 w v L) (hb : Below w.heap.size w w') : R3 w' v L := by
  obtain ⟨a, cap, hv, hcap, h⟩ := h
  refine ⟨a, cap, hv, hcap, ?_⟩
  rcases h with h | ⟨b, off, ha, hlt, hc⟩
  · exact .inl h
  · exact .inr ⟨b, off, ha, Nat.lt_of_lt_of_le hlt hb.size, fun j p hj => ⟨(hb.cell (p := ⟨b, _, none⟩) hlt).trans (hc j p hj).1, (hb.cell (p := ⟨b, _, none⟩) hlt).trans (hc j p hj).2.1, (hb.cell (p := ⟨b, _, none⟩) hlt).trans (hc j p hj).2.2⟩⟩
theorem R3.slc {w : World} {v : Value} {L : List Stp} (h : R3 w v L) : ∃ a cap, v = .slice a L.length cap := ⟨_, _, h.choose_spec.choose_spec.1⟩
theorem pl_step {k : Pr → Int} {R : List En} {N : Nat} {L : List Stp} {t : Nat} {s : Stp} (h : L[t]? = some s) : pl k R N (L.drop t) = (st1 k R N s).1 :: pl k (st1 k R N s).2.1 (st1 k R N s).2.2 (L.drop (t + 1)) := by
  have hj : t < L.length := (List.getElem?_eq_some_iff.1 h).1
  have he : L.drop t = s :: L.drop (t + 1) := by
    rw [List.drop_eq_getElem_cons hj]; congr 1; exact (List.getElem?_eq_some_iff.1 h).2
  rw [he]; rfl
theorem st1_N (k : Pr → Int) (R : List En) (N : Nat) (s : Stp) : (st1 k R N s).2.2 ≤ N + 1 := by
  unfold st1
  repeat' split
  all_goals simp
/-- Where Play is behind t steps. -/
structure PlS (w wr : World) (k : Pr → Int) (lf : FuncId) (rg n : Nat) (L : List Stp) (t : Nat) (D : List Pr) (R : List En) (N : Nat) (vt : Value) : Prop where
  dl : D.length = t
  eq : pl k [] 0 L = D ++ pl k R N (L.drop t)
  nt : N ≤ t
  hq : HQ wr w.heap.size (w.heap.size + 1) w.heap.size lf k vt R N
  om : OM wr w.heap.size (.slice (some ⟨rg, 0, none⟩) n n) (D ++ List.replicate (n - t) (0, 0))
  bl : Below w.heap.size w wr
end Go.Proofs.Ytegemfkadclnkaa
