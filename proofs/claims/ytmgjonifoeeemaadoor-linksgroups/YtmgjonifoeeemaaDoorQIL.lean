/-
  My own text: numbers lent with marks behind them, and looked at again (printed by mkrowI.py).
-/
import Derived.Test.YtmgjonifoeeemaaDoorQIR
namespace Go.Proofs.YtmgjonifoeeemaaDoor.IN
open Go.RowKit Go.Extern

/-- A mark. -/
def mkB (k i : Int) : Int := 1000003 * (k + 1) + i
def marksB : List Int := (List.range 16).map fun i : Nat => mkB 90 (i : Int)
theorem marksB_len : marksB.length = 16 := by simp [marksB]
theorem marksB_at {j : Nat} (h : j < 16) : marksB[j]? = some (mkB 90 (j : Int)) := by
  unfold marksB; rw [List.getElem?_map, List.getElem?_range h]; rfl
theorem mc_take {l : List Int} {k : Nat} {c : Int} (h : l[k]? = some c) : mc (l.take (k + 1)) = mc (l.take k) ++ [.int .i64 c] := by rw [List.take_add_one, h]; rw [mc_app]; rfl

theorem markInts_any (k i : Int) (w : World) (h1 : 0 ≤ k) (h2 : k ≤ 1000000) (h3 : -1125899906842624 ≤ i) (h4 : i ≤ 1125899906842624) :
    Calls Tryd.prog 22 #[.int .i64 k, .int .i64 i] w fun e w' => e = .returned (.int .i64 (mkB k i)) ∧ w' = w := by
  have HM : Hid (1000003 * (k + 1) + i = mkB k i) := rfl
  go_enter Tryd.func22, Tryd.ntmps22
  go_wp2
  go_ret
  exact ⟨ret_i (by rw [← HM.out]), rfl⟩
/-- A list that was lent, in block g, from B on. -/
structure LentB (w : World) (B g cap : Nat) (l : List Int) : Prop where
  base : B ≤ g
  own : OM w B (.slice (some ⟨g, 0, none⟩) (l.length + 16) cap) (l ++ marksB)
theorem lent_of {w : World} {B : Nat} {v : Value} {l : List Int} (h : OM w B v (l ++ marksB)) : ∃ g cap, v = .slice (some ⟨g, 0, none⟩) (l.length + 16) cap ∧ LentB w B g cap l := by
  have hn : (l ++ marksB).length = l.length + 16 := by rw [List.length_append, marksB_len]
  have h' := h
  unfold OM at h'
  obtain ⟨g, cap, hv, hb, hlt⟩ := World.ownsRow.form h' (by rw [hn]; omega)
  rw [hn] at hv
  subst hv
  exact ⟨g, cap, rfl, hb, h⟩
theorem LentB.later {w w' : World} {B g cap : Nat} {l : List Int} (h : LentB w B g cap l) (hb : Below w.heap.size w w') : LentB w' B g cap l := ⟨h.base, h.own.later hb⟩
theorem LentB.parts {w : World} {B g cap : Nat} {l : List Int} (h : LentB w B g cap l) : g < w.heap.size ∧ l.length + 16 ≤ cap ∧ (∀ j c, (l ++ marksB)[j]? = some c → w.cell? ⟨g, j, none⟩ = some (.int .i64 c)) ∧ (∀ j, w.frozen? ⟨g, j, none⟩ = false) := by
  have hn : (l ++ marksB).length = l.length + 16 := by rw [List.length_append, marksB_len]
  have h' := h.own
  unfold OM at h'
  rw [hn] at h'
  rcases h'.2 with ⟨h0, _⟩ | ⟨g', cap', cur, hv, hb, hh, hn2, _⟩
  · cases h0
  · cases hv
    refine ⟨(Array.getElem?_eq_some_iff.1 hh).1, hn2, fun j c hj => ?_, fun j => h'.frozenAt j⟩
    have hjl : j < (l ++ marksB).length := (List.getElem?_eq_some_iff.1 hj).1
    rw [h'.cellAt j (by omega)]
    exact mc_at hj
theorem LentB.rg {w : World} {B g cap : Nat} {l : List Int} (h : LentB w B g cap l) : RG w g (.slice (some ⟨g, 0, none⟩) l.length cap) l := by
  obtain ⟨h1, h2, h3, _⟩ := h.parts
  refine ⟨_, _, rfl, by omega, .inr ⟨0, rfl, h1, fun j c hj => ?_⟩⟩
  rw [Nat.zero_add]
  exact h3 j c (by rw [List.getElem?_append_left (List.getElem?_eq_some_iff.1 hj).1]; exact hj)

theorem mc_set (l : List Int) (k : Nat) (c : Int) : mc (l.set k c) = (mc l).set k (.int .i64 c) := by unfold mc; rw [List.map_set]
theorem LentB.set {w : World} {B g cap : Nat} {l : List Int} (h : LentB w B g cap l) {k : Nat} {c : Int} (hk : k < l.length) : LentB (w.setCell ⟨g, k, none⟩ (.int .i64 c)) B g cap (l.set k c) := by
  refine ⟨h.base, ?_⟩
  have hn : (l ++ marksB).length = l.length + 16 := by rw [List.length_append, marksB_len]
  have h' := h.own
  unfold OM at h' ⊢
  rw [hn] at h'
  have h2 := (h'.stored k (.int .i64 c)).1
  rw [← mc_set, List.set_append_left _ _ hk] at h2
  rw [List.length_set, List.length_append, List.length_set, marksB_len]
  exact h2
end Go.Proofs.YtmgjonifoeeemaaDoor.IN
