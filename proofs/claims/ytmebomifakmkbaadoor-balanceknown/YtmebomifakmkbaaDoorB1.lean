/-
  My own text: marks and positions in memory; what is wrong with a position, by the program.
-/
import Derived.Test.YtmebomifakmkbaaDoorBM1
import Derived.Test.YtmebomifakmkbaaDoorBE1
import Derived.BigQuiet
import Derived.Deep.QuietTactic
namespace Go.Proofs.YtmebomifakmkbaaDoor
open Go.RowKit

/-- Marks as cells. -/
def mc : List Mk → List Value
  | [] => []
  | p :: t => .int .i64 p.1 :: .int .i64 p.2 :: mc t
theorem mc_app (a b : List Mk) : mc (a ++ b) = mc a ++ mc b := by
  induction a with
  | nil => rfl
  | cons p t ih => show _ :: _ :: mc (t ++ b) = _; rw [ih]; rfl
theorem mc_len (a : List Mk) : (mc a).length = a.length * 2 := by
  induction a with
  | nil => rfl
  | cons p t ih => show (mc t).length + 1 + 1 = (t.length + 1) * 2; rw [ih]; omega
theorem mc_at : ∀ {a : List Mk} {j : Nat} {p : Mk}, a[j]? = some p → (mc a)[j * 2]? = some (.int .i64 p.1) ∧ (mc a)[j * 2 + 1]? = some (.int .i64 p.2)
  | q :: t, 0, p, h => by simp at h; subst h; exact ⟨rfl, rfl⟩
  | q :: t, j + 1, p, h => by
    have h' : t[j]? = some p := by simpa using h
    have ih := mc_at h'
    constructor
    · rw [show (j + 1) * 2 = j * 2 + 1 + 1 by omega]; exact ih.1
    · rw [show (j + 1) * 2 + 1 = j * 2 + 1 + 1 + 1 by omega]; exact ih.2
theorem mc_take {l : List Mk} {k : Nat} {p : Mk} (h : l[k]? = some p) : mc (l.take (k + 1)) = mc (l.take k) ++ [.int .i64 p.1, .int .i64 p.2] := by
  rw [List.take_add_one, h, mc_app]; rfl
theorem mc_one : ∀ (l : List Mk), ∀ u ∈ mc l, u.oneCell' = true
  | p :: t, u, h => by
    rcases List.mem_cons.1 h with rfl | h
    · rfl
    · rcases List.mem_cons.1 h with rfl | h
      · rfl
      · exact mc_one t u h
/-- A row of marks. -/
def RM (w : World) (v : Value) (L : List Mk) : Prop := ∃ a cap, v = .slice a L.length cap ∧ L.length ≤ cap ∧ (L = [] ∨ ∃ b off, a = some ⟨b, off, none⟩ ∧ b < w.heap.size ∧ ∀ (j : Nat) (p : Mk), L[j]? = some p → w.cell? ⟨b, off + j * 2, none⟩ = some (.int .i64 p.1) ∧ w.cell? ⟨b, off + j * 2 + 1, none⟩ = some (.int .i64 p.2))
theorem RM.kept {w w' : World} {v : Value} {L : List Mk} (h : RM w v L) (hs : w.heap.size ≤ w'.heap.size) (hb : ∀ b, v.ownBlock = some b → ∀ o, w'.cell? ⟨b, o, none⟩ = w.cell? ⟨b, o, none⟩) : RM w' v L := by
  obtain ⟨a, cap, hv, hcap, h⟩ := h
  refine ⟨a, cap, hv, hcap, ?_⟩
  rcases h with h | ⟨b, off, ha, hlt, hc⟩
  · exact .inl h
  · have e := hb b (by rw [hv, ha]; rfl)
    exact .inr ⟨b, off, ha, Nat.lt_of_lt_of_le hlt hs, fun j p hj => ⟨(e _).trans (hc j p hj).1, (e _).trans (hc j p hj).2⟩⟩
theorem RM.later {w w' : World} {v : Value} {L : List Mk} (h : RM w v L) (hb : Below w.heap.size w w') : RM w' v L := by
  obtain ⟨a, cap, hv, hcap, h⟩ := h
  refine ⟨a, cap, hv, hcap, ?_⟩
  rcases h with h | ⟨b, off, ha, hlt, hc⟩
  · exact .inl h
  · exact .inr ⟨b, off, ha, Nat.lt_of_lt_of_le hlt hb.size, fun j p hj => ⟨(hb.cell (p := ⟨b, _, none⟩) hlt).trans (hc j p hj).1, (hb.cell (p := ⟨b, _, none⟩) hlt).trans (hc j p hj).2⟩⟩
/-- Numbers that fit. -/
def MOk (L : List Mk) : Prop := ∀ p ∈ L, -9223372036854775808 ≤ p.1 ∧ p.1 ≤ top ∧ -9223372036854775808 ≤ p.2 ∧ p.2 ≤ top
theorem wrg_step {L : List Mk} {k i : Nat} {p : Mk} {last : Int} (h : L[k]? = some p) : wrg last i (L.drop k) = if p.1 ≤ last ∨ 65536 < p.1 ∨ p.2 < 1 then some i else wrg p.1 (i + 1) (L.drop (k + 1)) := by
  have hj : k < L.length := (List.getElem?_eq_some_iff.1 h).1
  have he : L.drop k = p :: L.drop (k + 1) := by
    rw [List.drop_eq_getElem_cons hj]; congr 1; exact (List.getElem?_eq_some_iff.1 h).2
  rw [he]; rfl
theorem ovr_step {L : List Mk} {k i : Nat} {p : Mk} {s : Int} (h : L[k]? = some p) : ovr s i (L.drop k) = if top < s + p.2 then some i else ovr (s + p.2) (i + 1) (L.drop (k + 1)) := by
  have hj : k < L.length := (List.getElem?_eq_some_iff.1 h).1
  have he : L.drop k = p :: L.drop (k + 1) := by
    rw [List.drop_eq_getElem_cons hj]; congr 1; exact (List.getElem?_eq_some_iff.1 h).2
  rw [he]; rfl
theorem sm_step {L : List Mk} {k : Nat} {p : Mk} (h : L[k]? = some p) : sm (L.drop k) = p.2 + sm (L.drop (k + 1)) := by
  have hj : k < L.length := (List.getElem?_eq_some_iff.1 h).1
  have he : L.drop k = p :: L.drop (k + 1) := by
    rw [List.drop_eq_getElem_cons hj]; congr 1; exact (List.getElem?_eq_some_iff.1 h).2
  rw [he]; rfl
theorem Ri.mem : ∀ {L : List Mk} {a : Int}, Ri a L → ∀ p ∈ L, 1 ≤ p.2
  | q :: r, a, ⟨_, _, h3, h4⟩, p, hp => by
    rcases List.mem_cons.1 hp with rfl | hp
    · exact h3
    · exact Ri.mem h4 p hp
theorem pair_cells {w : World} {o : Obj} {a b : Value} {t : TypeId} {g : Nat} (h : w.heap[g]? = some o) (ho : o = .cells #[a, b] t (0, 0)) : w.cell? ⟨g, 0, none⟩ = some a ∧ w.cell? ⟨g, 1, none⟩ = some b := by
  subst ho
  exact ⟨by rw [cell_of_row _ _ 0 _ _ _ h]; rfl, by rw [cell_of_row _ _ 1 _ _ _ h]; rfl⟩
theorem Tryd.sizeMk : (Tryd.prog.info? 36).map (·.size) = some 2 := by kernel_rfl
theorem Tryd.sizePos : (Tryd.prog.info? 24).map (·.size) = some 2 := by kernel_rfl
/-- A position's box. -/
abbrev Px (w : World) (g : Nat) (av : Int) (v : Value) : Prop := w.heap[g]? = some (.cells #[.int .i64 av, v] 24 (0, 0))
theorem Px.new (w : World) (av : Int) (v : Value) : Px (w.alloc (.cells #[.int .i64 av, v] 24)) w.heap.size av v := alloc_new w _
theorem blk_later {w w' : World} {g : Nat} {o : Obj} (h : w.heap[g]? = some o) (hb : Below w.heap.size w w') : w'.heap[g]? = some o := (hb.block g (Array.getElem?_eq_some_iff.1 h).1).trans h
theorem blk_lt {w : World} {g : Nat} {o : Obj} (h : w.heap[g]? = some o) : g < w.heap.size := (Array.getElem?_eq_some_iff.1 h).1
theorem errNeq (k : Int) (W : World) (v : Value) (h : v = errV k) : (binOp .neq 29 v .nilIface).run Tryd.prog W = .ok (.bool (decide (¬ k = 0))) W := by
  subst h
  unfold errV
  by_cases hk : k = 0
  · rw [if_pos hk, decide_eq_false (by simpa using hk)]; kernel_rfl
  · rw [if_neg hk, decide_eq_true hk]; kernel_rfl

theorem isName_any (n : Int) (w : World) :
    Calls Tryd.prog 52 #[.int .i64 n] w fun e w' => e = .returned (.bool (decide (0 < n) && decide (n ≤ 65536))) ∧ w' = w := by
  cases h1 : decide (0 < n) <;> cases h2 : decide (n ≤ 65536)
  all_goals
    go_enter Tryd.func52, Tryd.ntmps52
    go_wp2_with fail
    go_ret
    exact ⟨rfl, rfl⟩
end Go.Proofs.YtmebomifakmkbaaDoor
