/-
  My own text: GLR, GAM in one.
-/
import Derived.Test.YtgeholiagcckoaaGreatDoorG0
import Derived.Test.YtgeholiagcckoaaGreatDoorGKR
import Derived.Lib.AppendZeros
import Derived.ArgAppend
namespace Go.Proofs.YtgeholiagcckoaaGreatDoor.LG
open Go.RowKit

abbrev El := Int × Int × Int × Int × Int
/-- Elements as cells. -/
def mc : List El → List Value
  | [] => []
  | p :: t => .int .i64 p.1 :: .int .i64 p.2.1 :: .int .i64 p.2.2.1 :: .int .i64 p.2.2.2.1 :: .int .i64 p.2.2.2.2 :: mc t
theorem mc_app (a b : List El) : mc (a ++ b) = mc a ++ mc b := by
  induction a with
  | nil => rfl
  | cons p t ih => show _ :: _ :: _ :: _ :: _ :: mc (t ++ b) = _; rw [ih]; rfl
theorem mc_len (a : List El) : (mc a).length = a.length * 5 := by
  induction a with
  | nil => rfl
  | cons p t ih => show (mc t).length + 1 + 1 + 1 + 1 + 1 = (t.length + 1) * 5; rw [ih]; omega
theorem mc_at : ∀ {a : List El} {j : Nat} {p : El}, a[j]? = some p → (mc a)[j * 5]? = some (.int .i64 p.1) ∧ (mc a)[j * 5 + 1]? = some (.int .i64 p.2.1) ∧ (mc a)[j * 5 + 2]? = some (.int .i64 p.2.2.1) ∧ (mc a)[j * 5 + 3]? = some (.int .i64 p.2.2.2.1) ∧ (mc a)[j * 5 + 4]? = some (.int .i64 p.2.2.2.2)
  | q :: t, 0, p, h => by simp at h; subst h; exact ⟨rfl, rfl, rfl, rfl, rfl⟩
  | q :: t, j + 1, p, h => by
    have h' : t[j]? = some p := by simpa using h
    have ih := mc_at h'
    refine ⟨?_, ?_, ?_, ?_, ?_⟩
    · rw [show (j + 1) * 5 = j * 5 + 1 + 1 + 1 + 1 + 1 by omega]; exact ih.1
    · rw [show (j + 1) * 5 + 1 = j * 5 + 1 + 1 + 1 + 1 + 1 + 1 by omega]; exact ih.2.1
    · rw [show (j + 1) * 5 + 2 = j * 5 + 2 + 1 + 1 + 1 + 1 + 1 by omega]; exact ih.2.2.1
    · rw [show (j + 1) * 5 + 3 = j * 5 + 3 + 1 + 1 + 1 + 1 + 1 by omega]; exact ih.2.2.2.1
    · rw [show (j + 1) * 5 + 4 = j * 5 + 4 + 1 + 1 + 1 + 1 + 1 by omega]; exact ih.2.2.2.2
theorem mc_take {l : List El} {k : Nat} {p : El} (h : l[k]? = some p) : mc (l.take (k + 1)) = mc (l.take k) ++ [.int .i64 p.1, .int .i64 p.2.1, .int .i64 p.2.2.1, .int .i64 p.2.2.2.1, .int .i64 p.2.2.2.2] := by
  rw [List.take_add_one, h, mc_app]; rfl
theorem mc_one : ∀ (l : List El), ∀ u ∈ mc l, u.oneCell' = true
  | p :: t, u, h => by
    unfold mc at h
    simp only [List.mem_cons] at h
    rcases h with rfl | rfl | rfl | rfl | rfl | h
    · rfl
    · rfl
    · rfl
    · rfl
    · rfl
    · exact mc_one t u h
/-- A row. -/
def RM (w : World) (v : Value) (L : List El) : Prop := ∃ a cap, v = .slice a L.length cap ∧ L.length ≤ cap ∧ (L = [] ∨ ∃ b off, a = some ⟨b, off, none⟩ ∧ b < w.heap.size ∧ ∀ (j : Nat) (p : El), L[j]? = some p → w.cell? ⟨b, off + j * 5, none⟩ = some (.int .i64 p.1) ∧ w.cell? ⟨b, off + j * 5 + 1, none⟩ = some (.int .i64 p.2.1) ∧ w.cell? ⟨b, off + j * 5 + 2, none⟩ = some (.int .i64 p.2.2.1) ∧ w.cell? ⟨b, off + j * 5 + 3, none⟩ = some (.int .i64 p.2.2.2.1) ∧ w.cell? ⟨b, off + j * 5 + 4, none⟩ = some (.int .i64 p.2.2.2.2))
theorem RM.kept {w w' : World} {v : Value} {L : List El} (h : RM w v L) (hs : w.heap.size ≤ w'.heap.size) (hb : ∀ b, v.ownBlock = some b → ∀ o, w'.cell? ⟨b, o, none⟩ = w.cell? ⟨b, o, none⟩) : RM w' v L := by
  obtain ⟨a, cap, hv, hcap, h⟩ := h
  refine ⟨a, cap, hv, hcap, ?_⟩
  rcases h with h | ⟨b, off, ha, hlt, hc⟩
  · exact .inl h
  · have e := hb b (by rw [hv, ha]; rfl)
    exact .inr ⟨b, off, ha, Nat.lt_of_lt_of_le hlt hs, fun j p hj => ⟨(e _).trans (hc j p hj).1, (e _).trans (hc j p hj).2.1, (e _).trans (hc j p hj).2.2.1, (e _).trans (hc j p hj).2.2.2.1, (e _).trans (hc j p hj).2.2.2.2⟩⟩
theorem RM.later {w w' : World} {v : Value} {L : List El} (h : RM w v L) (hb : Below w.heap.size w w') : RM w' v L := by
  obtain ⟨a, cap, hv, hcap, h⟩ := h
  refine ⟨a, cap, hv, hcap, ?_⟩
  rcases h with h | ⟨b, off, ha, hlt, hc⟩
  · exact .inl h
  · exact .inr ⟨b, off, ha, Nat.lt_of_lt_of_le hlt hb.size, fun j p hj => ⟨(hb.cell (p := ⟨b, _, none⟩) hlt).trans (hc j p hj).1, (hb.cell (p := ⟨b, _, none⟩) hlt).trans (hc j p hj).2.1, (hb.cell (p := ⟨b, _, none⟩) hlt).trans (hc j p hj).2.2.1, (hb.cell (p := ⟨b, _, none⟩) hlt).trans (hc j p hj).2.2.2.1, (hb.cell (p := ⟨b, _, none⟩) hlt).trans (hc j p hj).2.2.2.2⟩⟩
theorem RM.nil (w : World) : RM w (.slice none 0 0) [] := ⟨none, 0, rfl, Nat.le_refl _, .inl rfl⟩
theorem mc_cells : ∀ {L : List El} {j : Nat} {u : Value}, (mc L)[j]? = some u → ∃ (i : Nat) (p : El), L[i]? = some p ∧ ((j = i * 5 ∧ u = .int .i64 p.1) ∨ (j = i * 5 + 1 ∧ u = .int .i64 p.2.1) ∨ (j = i * 5 + 2 ∧ u = .int .i64 p.2.2.1) ∨ (j = i * 5 + 3 ∧ u = .int .i64 p.2.2.2.1) ∨ (j = i * 5 + 4 ∧ u = .int .i64 p.2.2.2.2))
  | p :: t, 0, u, h => by cases h; exact ⟨0, p, rfl, .inl ⟨rfl, rfl⟩⟩
  | p :: t, 1, u, h => by cases h; exact ⟨0, p, rfl, .inr (.inl ⟨rfl, rfl⟩)⟩
  | p :: t, 2, u, h => by cases h; exact ⟨0, p, rfl, .inr (.inr (.inl ⟨rfl, rfl⟩))⟩
  | p :: t, 3, u, h => by cases h; exact ⟨0, p, rfl, .inr (.inr (.inr (.inl ⟨rfl, rfl⟩)))⟩
  | p :: t, 4, u, h => by cases h; exact ⟨0, p, rfl, .inr (.inr (.inr (.inr (⟨rfl, rfl⟩))))⟩
  | p :: t, j + 5, u, h => by
    obtain ⟨i, q, h1, h2⟩ := mc_cells (L := t) (j := j) (u := u) h
    refine ⟨i + 1, q, h1, ?_⟩
    rcases h2 with ⟨h2, h3⟩ | ⟨h2, h3⟩ | ⟨h2, h3⟩ | ⟨h2, h3⟩ | ⟨h2, h3⟩
    · exact .inl ⟨by omega, h3⟩
    · exact .inr (.inl ⟨by omega, h3⟩)
    · exact .inr (.inr (.inl ⟨by omega, h3⟩))
    · exact .inr (.inr (.inr (.inl ⟨by omega, h3⟩)))
    · exact .inr (.inr (.inr (.inr (⟨by omega, h3⟩))))
theorem rm_lt {w : World} {v : Value} {L : List El} (h : RM w v L) : ∃ a cap, v = .slice a L.length cap := ⟨_, _, h.choose_spec.choose_spec.1⟩
theorem cellsA {w : World} {o : Obj} {a0 a1 a2 a3 a4 : Value} {t : TypeId} {g : Nat} (h : w.heap[g]? = some o) (ho : o = .cells #[a0, a1, a2, a3, a4] t (0, 0)) : w.cell? ⟨g, 0, none⟩ = some a0 ∧ w.cell? ⟨g, 1, none⟩ = some a1 ∧ w.cell? ⟨g, 2, none⟩ = some a2 ∧ w.cell? ⟨g, 3, none⟩ = some a3 ∧ w.cell? ⟨g, 4, none⟩ = some a4 := five_cells h ho
/-- The mark of place i in row k. -/
def mq5 (k i : Int) : El := (-10 - k, i, 0, 0, 0)
end Go.Proofs.YtgeholiagcckoaaGreatDoor.LG
namespace Go.Proofs.YtgeholiagcckoaaGreatDoor.KY
open Go.RowKit
theorem mc_cells2 : ∀ {L : List El} {j : Nat} {u : Value}, (mc L)[j]? = some u → ∃ (i : Nat) (p : El), L[i]? = some p ∧ ((j = i * 2 ∧ u = .int .i64 p.1) ∨ (j = i * 2 + 1 ∧ u = .int .i64 p.2))
  | p :: t, 0, u, h => by cases h; exact ⟨0, p, rfl, .inl (⟨rfl, rfl⟩)⟩
  | p :: t, 1, u, h => by cases h; exact ⟨0, p, rfl, .inr (⟨rfl, rfl⟩)⟩
  | p :: t, j + 2, u, h => by
    obtain ⟨i, q, h1, h2⟩ := mc_cells2 (L := t) (j := j) (u := u) h
    refine ⟨i + 1, q, h1, ?_⟩
    rcases h2 with ⟨h2, h3⟩ | ⟨h2, h3⟩
    · exact .inl (⟨by omega, h3⟩)
    · exact .inr (⟨by omega, h3⟩)
/-- append(row, more..). -/
theorem run_append_rm (w : World) (B : Nat) (ty : TypeId) (v : Value) (M : List El) (hown : OM w B v M) (x : Value) (L : List El) (hx : RM w x L) (hn : M.length + L.length ≤ 8796093022208) (hB : B ≤ w.heap.size) :
    ∃ v' w', (Builtin.append_ #[31, 31] ty #[v, x]).run Tryz.prog w = .ok v' w' ∧ OM w' B v' (M ++ L) ∧ w.grownBy w' v.ownBlock := by
  obtain ⟨i0, hi, hz0, hz1, hz2⟩ := info_parts Tryz.infoMk
  obtain ⟨a, cap, rfl, _, hc⟩ := hx
  cases a with
  | none =>
    obtain rfl : L = [] := hc.resolve_right (fun ⟨b, off, h, _⟩ => by cases h)
    refine ⟨v, w, ?_, by rw [List.append_nil]; exact hown, ⟨rfl, rfl, rfl, Nat.le_refl _, fun _ _ _ => rfl⟩⟩
    rcases hown.2 with ⟨rfl, h0⟩ | ⟨g, cap', cur, rfl, _, _, hnc, _⟩
    · simp [Builtin.append_, run_underlying Tryz.underlying31, sizeOf, typeInfo, hi, Builtin.lenOf, Builtin.firstCells]
    · simp [Builtin.append_, run_underlying Tryz.underlying31, sizeOf, typeInfo, hi, Builtin.lenOf, Builtin.firstCells, hnc, storeCells]
  | some ad =>
    have hnews : ∀ j u, (mc L)[j]? = some u → w.cell? (ad.add j) = some u := fun j u hj => by
      obtain ⟨i, p, h1, h2⟩ := mc_cells2 hj
      have hne : ¬ L = [] := fun e => by rw [e] at h1; simp at h1
      obtain ⟨b, off, ha, _, hcc⟩ := hc.resolve_left hne
      cases ha
      have h4 := hcc i p h1
      rcases h2 with ⟨rfl, rfl⟩ | ⟨rfl, rfl⟩
      · rw [Addr.add_lit]; have h5 := h4.1; first | exact h5 | (rw [← Nat.add_assoc]; exact h5)
      · rw [Addr.add_lit]; have h5 := h4.2; first | exact h5 | (rw [← Nat.add_assoc]; exact h5)
    obtain ⟨v', w', hrun, r1, r2, _⟩ := run_append_own (P := Tryz.prog) w B 31 ty 26 i0 _ 2 16 Tryz.underlying31 hi hz0 hz1 hz2 rfl (by decide) v M.length (mc M) hown ad L.length cap (mc L) (mc_len L) hnews (mc_one L) (by unfold maxLen; omega) (by omega) hB
    refine ⟨v', w', hrun, ?_, r2⟩
    unfold OM
    rw [List.length_append, mc_app]; exact r1
end Go.Proofs.YtgeholiagcckoaaGreatDoor.KY
namespace Go.Proofs.YtgeholiagcckoaaGreatDoor.LG
open Go.RowKit
theorem mc_cells2 : ∀ {L : List El} {j : Nat} {u : Value}, (mc L)[j]? = some u → ∃ (i : Nat) (p : El), L[i]? = some p ∧ ((j = i * 5 ∧ u = .int .i64 p.1) ∨ (j = i * 5 + 1 ∧ u = .int .i64 p.2.1) ∨ (j = i * 5 + 2 ∧ u = .int .i64 p.2.2.1) ∨ (j = i * 5 + 3 ∧ u = .int .i64 p.2.2.2.1) ∨ (j = i * 5 + 4 ∧ u = .int .i64 p.2.2.2.2))
  | p :: t, 0, u, h => by cases h; exact ⟨0, p, rfl, .inl (⟨rfl, rfl⟩)⟩
  | p :: t, 1, u, h => by cases h; exact ⟨0, p, rfl, .inr (.inl (⟨rfl, rfl⟩))⟩
  | p :: t, 2, u, h => by cases h; exact ⟨0, p, rfl, .inr (.inr (.inl (⟨rfl, rfl⟩)))⟩
  | p :: t, 3, u, h => by cases h; exact ⟨0, p, rfl, .inr (.inr (.inr (.inl (⟨rfl, rfl⟩))))⟩
  | p :: t, 4, u, h => by cases h; exact ⟨0, p, rfl, .inr (.inr (.inr (.inr (⟨rfl, rfl⟩))))⟩
  | p :: t, j + 5, u, h => by
    obtain ⟨i, q, h1, h2⟩ := mc_cells2 (L := t) (j := j) (u := u) h
    refine ⟨i + 1, q, h1, ?_⟩
    rcases h2 with ⟨h2, h3⟩ | ⟨h2, h3⟩ | ⟨h2, h3⟩ | ⟨h2, h3⟩ | ⟨h2, h3⟩
    · exact .inl (⟨by omega, h3⟩)
    · exact .inr (.inl (⟨by omega, h3⟩))
    · exact .inr (.inr (.inl (⟨by omega, h3⟩)))
    · exact .inr (.inr (.inr (.inl (⟨by omega, h3⟩))))
    · exact .inr (.inr (.inr (.inr (⟨by omega, h3⟩))))
end Go.Proofs.YtgeholiagcckoaaGreatDoor.LG
