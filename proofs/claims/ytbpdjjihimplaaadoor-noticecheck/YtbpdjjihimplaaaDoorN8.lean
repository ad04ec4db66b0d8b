/-
  My own text: links lent, and looked at again.
-/
import Derived.Test.YtbpdjjihimplaaaDoorN7
namespace Go.Proofs.YtbpdjjihimplaaaDoor
open Go.RowKit LC

/-- A list of links that was lent, in block g, from B on. -/
structure LentL (w : World) (B g cap : Nat) (l : List Lnk) : Prop where
  base : B ≤ g
  own : w.ownsRow B 42 2 (.slice (some ⟨g, 0, none⟩) (l.length + 16) cap) (l.length + 16) (lc (l ++ marksL))
theorem LentL.later {w w' : World} {B g cap : Nat} {l : List Lnk} (h : LentL w B g cap l) (hb : Below w.heap.size w w') : LentL w' B g cap l := ⟨h.base, owns_later h.own hb⟩
theorem LentL.parts {w : World} {B g cap : Nat} {l : List Lnk} (h : LentL w B g cap l) : g < w.heap.size ∧ l.length + 16 ≤ cap ∧ (∀ (j : Nat) (p : Lnk), (l ++ marksL)[j]? = some p → w.cell? ⟨g, j * 2, none⟩ = some (.int .i64 p.1) ∧ w.cell? ⟨g, j * 2 + 1, none⟩ = some (.string ⟨p.2.toArray⟩)) := by
  have h' := h.own
  rcases h'.2 with ⟨h0, _⟩ | ⟨g', cap', cur, hv, hb, hh, hn2, _⟩
  · cases h0
  · cases hv
    refine ⟨(Array.getElem?_eq_some_iff.1 hh).1, hn2, fun j p hj => ?_⟩
    have hjl : j < l.length + 16 := by have := (List.getElem?_eq_some_iff.1 hj).1; rw [List.length_append, marksL_len] at this; exact this
    obtain ⟨e0, e1⟩ := lc_at hj
    exact ⟨(h'.cellAt (j * 2) (by omega)).trans e0, (h'.cellAt (j * 2 + 1) (by omega)).trans e1⟩
theorem LentL.rl {w : World} {B g cap : Nat} {l : List Lnk} (h : LentL w B g cap l) : RL w (.slice (some ⟨g, 0, none⟩) l.length cap) l := by
  obtain ⟨h1, h2, h3⟩ := h.parts
  refine ⟨_, _, rfl, .inr ⟨g, 0, rfl, h1, fun j p hj => ?_⟩⟩
  have := h3 j p (by rw [List.getElem?_append_left (List.getElem?_eq_some_iff.1 hj).1]; exact hj)
  rw [Nat.zero_add]; exact this
set_option maxRecDepth 100000 in
set_option maxHeartbeats 1000000 in
theorem lentLinks_any (v : Value) (l : List Lnk) (w : World) (hv : RL w v l) (hl : l.length ≤ 5864062014805) :
    Calls Tryd.prog 4 #[v] w fun e w' => ∃ g cap, e = .returned (.slice (some ⟨g, 0, none⟩) l.length cap) ∧ LentL w' w.heap.size g cap l ∧ Below w.heap.size w w' := by
  have HF := hide (fullLinks_any v l w hv hl)
  obtain ⟨a, cap0, rfl, _⟩ := hv
  go_enter Tryd.func4, Tryd.ntmps4
  go_wp2_with fail
  refine HF.out.mono ?_
  rintro e w1 ⟨v', rfl, hown, hb1⟩
  obtain ⟨g, cap, hv, hgb, hglt⟩ := World.ownsRow.form hown (by omega)
  subst hv
  have HL : Hid (LentL w1 w.heap.size g cap l) := hide ⟨hgb, hown⟩
  obtain ⟨_, hcap, _⟩ := HL.out.parts
  have hne : ¬ cap = l.length := by omega
  have hle : (l.length : Int) ≤ (cap : Int) := by omega
  have HB := hide hb1
  clear hown hb1
  go_wp2_with fail
  go_ret
  exact ⟨g, cap, rfl, HL.out, HB.out⟩
theorem Tryd.undLnk : Tryd.prog.underlying 42 = some (.struct (Tryd.prog.fieldsOf 42)) := by kernel_rfl
theorem Tryd.stoodLnk : Tryd.prog.stoodInHeld 42 = false := by kernel_rfl
theorem run_neq_lnk (k : Int) (r : List UInt8) (w : World) : (binOp .neq 42 (.agg #[.int .i64 k, .string ⟨r.toArray⟩]) (.agg #[.int .i64 k, .string ⟨r.toArray⟩])).run Tryd.prog w = .ok (.bool false) w := by
  rw [run_neq_struct, run_equalIn_struct w 9999 _ _ _ Tryd.undLnk Tryd.stoodLnk]
  simp [Program.fieldsOf, Tryd.underlying42, Op.eqFields, part, isAgg, underlying, Tryd.underlying3, Tryd.underlying9, Result.andThen, run_equalIn_int _ _ _ _ _ _ _ Tryd.underlying3, run_equalIn_string _ _ _ _ _ Tryd.underlying9]
end Go.Proofs.YtbpdjjihimplaaaDoor
