/-
  My own text: append(row, more..) of keys and of legs (printed by mkgam.py).
-/
import Derived.Test.YtknnojjfdfkdmaaGreatDoorGKR
import Derived.Test.YtknnojjfdfkdmaaGreatDoorGLR
import Derived.Lib.AppendZeros
import Derived.ArgAppend
namespace Go.Proofs.YtknnojjfdfkdmaaGreatDoor.KY
open Go.RowKit
theorem mc_cells2 : ∀ {L : List El} {j : Nat} {u : Value}, (mc L)[j]? = some u → ∃ (i : Nat) (p : El), L[i]? = some p ∧ ((j = i * 2 ∧ u = .int .i64 p.1) ∨ (j = i * 2 + 1 ∧ u = .int .i64 p.2))
  | p :: t, 0, u, h => by cases h; exact ⟨0, p, rfl, .inl (⟨rfl, rfl⟩)⟩
  | p :: t, 1, u, h => by cases h; exact ⟨0, p, rfl, .inr (⟨rfl, rfl⟩)⟩
  | p :: t, j + 2, u, h => by
    obtain ⟨i, q, h1, h2⟩ := mc_cells2 (L := t) (j := j) (u := u) h
    refine ⟨i + 1, q, h1, ?_⟩
    rcases h2 with ⟨h2, h3⟩ | ⟨h2, h3⟩
    · exact .inl (⟨by omega, h3⟩)
    · exact .inr (⟨by omega, h3⟩)
/-- append(row, more..). -/
theorem run_append_rm (w : World) (B : Nat) (ty : TypeId) (v : Value) (M : List El) (hown : OM w B v M) (x : Value) (L : List El) (hx : RM w x L) (hn : M.length + L.length ≤ 8796093022208) (hB : B ≤ w.heap.size) :
    ∃ v' w', (Builtin.append_ #[24, 24] ty #[v, x]).run Tryz.prog w = .ok v' w' ∧ OM w' B v' (M ++ L) ∧ w.grownBy w' v.ownBlock := by
  obtain ⟨i0, hi, hz0, hz1, hz2⟩ := info_parts Tryz.infoMk
  obtain ⟨a, cap, rfl, _, hc⟩ := hx
  cases a with
  | none =>
    obtain rfl : L = [] := hc.resolve_right (fun ⟨b, off, h, _⟩ => by cases h)
    refine ⟨v, w, ?_, by rw [List.append_nil]; exact hown, ⟨rfl, rfl, rfl, Nat.le_refl _, fun _ _ _ => rfl⟩⟩
    rcases hown.2 with ⟨rfl, h0⟩ | ⟨g, cap', cur, rfl, _, _, hnc, _⟩
    · simp [Builtin.append_, run_underlying Tryz.underlying24, sizeOf, typeInfo, hi, Builtin.lenOf, Builtin.firstCells]
    · simp [Builtin.append_, run_underlying Tryz.underlying24, sizeOf, typeInfo, hi, Builtin.lenOf, Builtin.firstCells, hnc, storeCells]
  | some ad =>
    have hnews : ∀ j u, (mc L)[j]? = some u → w.cell? (ad.add j) = some u := fun j u hj => by
      obtain ⟨i, p, h1, h2⟩ := mc_cells2 hj
      have hne : ¬ L = [] := fun e => by rw [e] at h1; simp at h1
      obtain ⟨b, off, ha, _, hcc⟩ := hc.resolve_left hne
      cases ha
      have h4 := hcc i p h1
      rcases h2 with ⟨rfl, rfl⟩ | ⟨rfl, rfl⟩
      · rw [Addr.add_lit]; have h5 := h4.1; first | exact h5 | (rw [← Nat.add_assoc]; exact h5)
      · rw [Addr.add_lit]; have h5 := h4.2; first | exact h5 | (rw [← Nat.add_assoc]; exact h5)
    obtain ⟨v', w', hrun, r1, r2, _⟩ := run_append_own (P := Tryz.prog) w B 24 ty 23 i0 _ 2 16 Tryz.underlying24 hi hz0 hz1 hz2 rfl (by decide) v M.length (mc M) hown ad L.length cap (mc L) (mc_len L) hnews (mc_one L) (by unfold maxLen; omega) (by omega) hB
    refine ⟨v', w', hrun, ?_, r2⟩
    unfold OM
    rw [List.length_append, mc_app]; exact r1
end Go.Proofs.YtknnojjfdfkdmaaGreatDoor.KY
namespace Go.Proofs.YtknnojjfdfkdmaaGreatDoor.LG
open Go.RowKit
theorem mc_cells2 : ∀ {L : List El} {j : Nat} {u : Value}, (mc L)[j]? = some u → ∃ (i : Nat) (p : El), L[i]? = some p ∧ ((j = i * 5 ∧ u = .int .i64 p.1) ∨ (j = i * 5 + 1 ∧ u = .int .i64 p.2.1) ∨ (j = i * 5 + 2 ∧ u = .int .i64 p.2.2.1) ∨ (j = i * 5 + 3 ∧ u = .int .i64 p.2.2.2.1) ∨ (j = i * 5 + 4 ∧ u = .int .i64 p.2.2.2.2))
  | p :: t, 0, u, h => by cases h; exact ⟨0, p, rfl, .inl (⟨rfl, rfl⟩)⟩
  | p :: t, 1, u, h => by cases h; exact ⟨0, p, rfl, .inr (.inl (⟨rfl, rfl⟩))⟩
  | p :: t, 2, u, h => by cases h; exact ⟨0, p, rfl, .inr (.inr (.inl (⟨rfl, rfl⟩)))⟩
  | p :: t, 3, u, h => by cases h; exact ⟨0, p, rfl, .inr (.inr (.inr (.inl (⟨rfl, rfl⟩))))⟩
  | p :: t, 4, u, h => by cases h; exact ⟨0, p, rfl, .inr (.inr (.inr (.inr (⟨rfl, rfl⟩))))⟩
  | p :: t, j + 5, u, h => by
    obtain ⟨i, q, h1, h2⟩ := mc_cells2 (L := t) (j := j) (u := u) h
    refine ⟨i + 1, q, h1, ?_⟩
    rcases h2 with ⟨h2, h3⟩ | ⟨h2, h3⟩ | ⟨h2, h3⟩ | ⟨h2, h3⟩ | ⟨h2, h3⟩
    · exact .inl (⟨by omega, h3⟩)
    · exact .inr (.inl (⟨by omega, h3⟩))
    · exact .inr (.inr (.inl (⟨by omega, h3⟩)))
    · exact .inr (.inr (.inr (.inl (⟨by omega, h3⟩))))
    · exact .inr (.inr (.inr (.inr (⟨by omega, h3⟩))))
end Go.Proofs.YtknnojjfdfkdmaaGreatDoor.LG
