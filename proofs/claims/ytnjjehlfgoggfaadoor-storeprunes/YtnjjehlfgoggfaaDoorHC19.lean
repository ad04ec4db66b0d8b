/-
  My own text: two rows with the same versions are the same.
-/
import Derived.Test.YtnjjehlfgoggfaaDoorHC18
import Derived.Laws.StructEq
namespace Go.Proofs.YtnjjehlfgoggfaaDoor
open Go.RowKit Go.Shelf

/-- A row of versions. -/
def RV (w : World) (v : Value) (L : List Ver) : Prop := ∃ a cap, v = .slice a L.length cap ∧ ∀ (i : Nat) (p : Ver), L[i]? = some p → ∃ g off, a = some ⟨g, off, none⟩ ∧ w.cell? ⟨g, off + i * 2, none⟩ = some (.int .i64 p.1) ∧ w.cell? ⟨g, off + i * 2 + 1, none⟩ = some (.string ⟨p.2.toArray⟩)
theorem RV.later {w w' : World} {v : Value} {L : List Ver} (h : RV w v L) (hb : Below w.heap.size w w') : RV w' v L := by
  obtain ⟨a, cap, hv, hc⟩ := h
  refine ⟨a, cap, hv, fun i p hp => ?_⟩
  obtain ⟨g, off, e, c1, c2⟩ := hc i p hp
  exact ⟨g, off, e, (hb.cell (World.block_lt_of_cell? _ _ c1)).trans c1, (hb.cell (World.block_lt_of_cell? _ _ c2)).trans c2⟩
theorem OR.rv {w : World} {B : Nat} {t : TypeId} {v : Value} {L : List Ver} (ho : OR w B t 2 v L.length (vc L)) : RV w v L := by
  rcases ho.2 with ⟨rfl, h0⟩ | ⟨g, off, cap, cur, rfl, _, _, _, _, _, h5⟩
  · refine ⟨none, 0, by rw [h0], fun i p hp => ?_⟩
    have := (List.getElem?_eq_some_iff.1 hp).1
    omega
  · refine ⟨_, cap, rfl, fun i p hp => ⟨g, off, rfl, h5 _ _ (vc_at L i p hp).1, ?_⟩⟩
    have := h5 _ _ (vc_at L i p hp).2
    rw [← Nat.add_assoc] at this; exact this
end Go.Proofs.YtnjjehlfgoggfaaDoor
