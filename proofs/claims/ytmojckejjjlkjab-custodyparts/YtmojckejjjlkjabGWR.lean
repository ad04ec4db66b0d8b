/-
  My own text: rows of pairs of int64 in memory (out of GTR).
-/
import Derived.Test.YtmojckejjjlkjabG0
import Derived.ChangeKeysEq
namespace Go.Proofs.Ytmojckejjjlkjab.TL
open Go.RowKit

abbrev El := Int × Int
/-- Elements as cells. -/
def mc : List El → List Value
  | [] => []
  | p :: t => .int .i64 p.1 :: .int .i64 p.2 :: mc t
theorem mc_app (a b : List El) : mc (a ++ b) = mc a ++ mc b := by
  induction a with
  | nil => rfl
  | cons p t ih => show _ :: _ :: mc (t ++ b) = _; rw [ih]; rfl
theorem mc_len (a : List El) : (mc a).length = a.length * 2 := by
  induction a with
  | nil => rfl
  | cons p t ih => show (mc t).length + 1 + 1 = (t.length + 1) * 2; rw [ih]; omega
theorem mc_at : ∀ {a : List El} {j : Nat} {p : El}, a[j]? = some p → (mc a)[j * 2]? = some (.int .i64 p.1) ∧ (mc a)[j * 2 + 1]? = some (.int .i64 p.2)
  | q :: t, 0, p, h => by simp at h; subst h; exact ⟨rfl, rfl⟩
  | q :: t, j + 1, p, h => by
    have h' : t[j]? = some p := by simpa using h
    have ih := mc_at h'
    refine ⟨?_, ?_⟩
    · rw [show (j + 1) * 2 = j * 2 + 1 + 1 by omega]; exact ih.1
    · rw [show (j + 1) * 2 + 1 = j * 2 + 1 + 1 + 1 by omega]; exact ih.2
theorem mc_take {l : List El} {k : Nat} {p : El} (h : l[k]? = some p) : mc (l.take (k + 1)) = mc (l.take k) ++ [.int .i64 p.1, .int .i64 p.2] := by
  rw [List.take_add_one, h, mc_app]; rfl
theorem mc_one : ∀ (l : List El), ∀ u ∈ mc l, u.oneCell' = true
  | p :: t, u, h => by
    unfold mc at h
    simp only [List.mem_cons] at h
    rcases h with rfl | rfl | h
    · rfl
    · rfl
    · exact mc_one t u h
/-- A row. -/
def RM (w : World) (v : Value) (L : List El) : Prop := ∃ a cap, v = .slice a L.length cap ∧ L.length ≤ cap ∧ (L = [] ∨ ∃ b off, a = some ⟨b, off, none⟩ ∧ b < w.heap.size ∧ ∀ (j : Nat) (p : El), L[j]? = some p → w.cell? ⟨b, off + j * 2, none⟩ = some (.int .i64 p.1) ∧ w.cell? ⟨b, off + j * 2 + 1, none⟩ = some (.int .i64 p.2))
theorem RM.kept {w w' : World} {v : Value} {L : List El} (h : RM w v L) (hs : w.heap.size ≤ w'.heap.size) (hb : ∀ b, v.ownBlock = some b → ∀ o, w'.cell? ⟨b, o, none⟩ = w.cell? ⟨b, o, none⟩) : RM w' v L := by
  obtain ⟨a, cap, hv, hcap, h⟩ := h
  refine ⟨a, cap, hv, hcap, ?_⟩
  rcases h with h | ⟨b, off, ha, hlt, hc⟩
  · exact .inl h
  · have e := hb b (by rw [hv, ha]; rfl)
    exact .inr ⟨b, off, ha, Nat.lt_of_lt_of_le hlt hs, fun j p hj => ⟨(e _).trans (hc j p hj).1, (e _).trans (hc j p hj).2⟩⟩
theorem RM.later {w w' : World} {v : Value} {L : List El} (h : RM w v L) (hb : Below w.heap.size w w') : RM w' v L := by
  obtain ⟨a, cap, hv, hcap, h⟩ := h
  refine ⟨a, cap, hv, hcap, ?_⟩
  rcases h with h | ⟨b, off, ha, hlt, hc⟩
  · exact .inl h
  · exact .inr ⟨b, off, ha, Nat.lt_of_lt_of_le hlt hb.size, fun j p hj => ⟨(hb.cell (p := ⟨b, _, none⟩) hlt).trans (hc j p hj).1, (hb.cell (p := ⟨b, _, none⟩) hlt).trans (hc j p hj).2⟩⟩
theorem RM.nil (w : World) : RM w (.slice none 0 0) [] := ⟨none, 0, rfl, Nat.le_refl _, .inl rfl⟩
theorem Try.infoMk : (Try.prog.info? 40).map (fun i => (i.zero, i.size, i.bytes)) = some (some (.agg #[.int .i64 0, .int .i64 0]), 2, 16) := by kernel_rfl
/-- A row of one's own. -/
abbrev OM (w : World) (B : Nat) (v : Value) (L : List El) : Prop := w.ownsRow B 40 2 v L.length (mc L)
theorem OM.rm {w : World} {B : Nat} {v : Value} {L : List El} (h : OM w B v L) : RM w v L := by
  have h' := h
  rcases h.2 with ⟨rfl, h0⟩ | ⟨g, cap, cur, rfl, hb, hh, hn, h3⟩
  · exact ⟨none, 0, by rw [h0], by omega, .inl (List.eq_nil_of_length_eq_zero h0)⟩
  · refine ⟨_, cap, rfl, hn, .inr ⟨g, 0, rfl, (Array.getElem?_eq_some_iff.1 hh).1, fun j p hj => ?_⟩⟩
    have hjl := (List.getElem?_eq_some_iff.1 hj).1
    have e := mc_at hj
    rw [Nat.zero_add]
    exact ⟨(h'.cellAt (j * 2) (by omega)).trans e.1, (h'.cellAt (j * 2 + 1) (by omega)).trans e.2⟩
theorem mc_cells : ∀ {L : List El} {j : Nat} {u : Value}, (mc L)[j]? = some u → ∃ (i : Nat) (p : El), L[i]? = some p ∧ ((j = i * 2 ∧ u = .int .i64 p.1) ∨ (j = i * 2 + 1 ∧ u = .int .i64 p.2))
  | p :: t, 0, u, h => by cases h; exact ⟨0, p, rfl, .inl ⟨rfl, rfl⟩⟩
  | p :: t, 1, u, h => by cases h; exact ⟨0, p, rfl, .inr (⟨rfl, rfl⟩)⟩
  | p :: t, j + 2, u, h => by
    obtain ⟨i, q, h1, h2⟩ := mc_cells (L := t) (j := j) (u := u) h
    refine ⟨i + 1, q, h1, ?_⟩
    rcases h2 with ⟨h2, h3⟩ | ⟨h2, h3⟩
    · exact .inl ⟨by omega, h3⟩
    · exact .inr (⟨by omega, h3⟩)
theorem rm_lt {w : World} {v : Value} {L : List El} (h : RM w v L) : ∃ a cap, v = .slice a L.length cap := ⟨_, _, h.choose_spec.choose_spec.1⟩
theorem grown_om {w W W' : World} {B : Nat} {v : Value} {M : List El} (hB : Below B w W) (hw : B ≤ w.heap.size) (hO : OM W B v M) (hg : W.grownBy W' v.ownBlock) : Below B w W' :=
  hB.grown hg (Nat.le_trans hw hB.size) (fun k hk => (hO.lt k hk).1)
theorem OM.later {w w' : World} {B : Nat} {v : Value} {L : List El} (h : OM w B v L) (hb : Below w.heap.size w w') : OM w' B v L := owns_lat h hb
theorem OM.nil (w : World) (B : Nat) : OM w B (.slice none 0 0) [] := World.ownsRow_nil w B 40 2
theorem OM.slice {w : World} {B : Nat} {v : Value} {L : List El} (h : OM w B v L) : ∃ a cap, v = .slice a L.length cap := rm_lt h.rm
theorem OM.base {w : World} {B D : Nat} {v : Value} {L : List El} (h : OM w B v L) (hc : ∀ g, v.ownBlock = some g → D ≤ g) : OM w D v L := by
  refine ⟨h.1, ?_⟩
  rcases h.2 with h2 | ⟨g, cap, cur, hv, hg, hh, h3⟩
  · exact .inl h2
  · exact .inr ⟨g, cap, cur, hv, hc g (by rw [hv]; rfl), hh, h3⟩
theorem cellsA {w : World} {o : Obj} {a0 a1 : Value} {t : TypeId} {g : Nat} (h : w.heap[g]? = some o) (ho : o = .cells #[a0, a1] t (0, 0)) : w.cell? ⟨g, 0, none⟩ = some a0 ∧ w.cell? ⟨g, 1, none⟩ = some a1 := pair_cells h ho
/-- An element behind an own row: cells below the row's end stay. -/
theorem wp_append_kept {w : World} {ops : Array Oper} {rest : List Oper} {o : Oper} {a : Act} {Q : Exit → Act → World → Prop} (hgd : o.guard = none) (s x : Operand)
    (ho : o.op = .call { callee := .builtin .append, args := #[s, x], argTypes := #[38, 38] }) (B : Nat) (v : Value) (l : List El) (c : El) (b : Nat) (hs : a.eval s = v) (hx : a.eval x = .slice (some ⟨b, 0, none⟩) 1 1)
    (hown : OM w B v l) (hc0 : w.cell? ⟨b, 0, none⟩ = some (.int .i64 c.1)) (hc1 : w.cell? ⟨b, 1, none⟩ = some (.int .i64 c.2)) (hB : B ≤ w.heap.size) (hsz : l.length + 1 ≤ 8796093022208)
    (h : ∀ v' w', OM w' B v' (l ++ [c]) → Grew w v w' v' → (∀ P j u, j < l.length * 2 → w.cell? ⟨P, j, none⟩ = some u → w'.cell? ⟨P, j, none⟩ = some u) → wpList Try.prog ops Q rest (a.put o.dst v') w') : wpList Try.prog ops Q (o :: rest) a w := by
  obtain ⟨i0, hi, hz0, hz1, hz2⟩ := info_parts Try.infoMk
  have hnews : ∀ j u, ([.int .i64 c.1, .int .i64 c.2] : List Value)[j]? = some u → w.cell? ((⟨b, 0, none⟩ : Addr).add j) = some u := by
    intro j u hj
    match j, hj with
    | 0, hj => simp at hj; subst hj; simpa [Addr.add] using hc0
    | 1, hj => simp at hj; subst hj; simpa [Addr.add] using hc1
  have h1 : ∀ u ∈ ([.int .i64 c.1, .int .i64 c.2] : List Value), u.oneCell' = true := by intro u hu; simp at hu; rcases hu with rfl | rfl <;> rfl
  have hbv : mc (l ++ [c]) = mc l ++ [.int .i64 c.1, .int .i64 c.2] := by rw [mc_app]; rfl
  have hlen : (l ++ [c]).length = l.length + 1 := by simp
  have hfull : ∀ (ao : Option Addr) (cap : Nat), v = .slice ao l.length cap → (ao = none → l.length = 0 ∧ cap = 0) → (∀ q, ao = some q → ∀ j u, (mc l)[j]? = some u → w.cell? (q.add j) = some u) → cap < l.length + 1 → wpList Try.prog ops Q (o :: rest) a w := by
    intro ao cap hv hno hold hf
    refine wpList_append_grows w hgd s x 38 ho 40 i0 (.agg #[.int .i64 0, .int .i64 0]) 2 16 Try.underlying38 hi hz0 hz1 hz2 rfl (by decide) ao l.length cap (mc l) (hs.trans hv) hno (mc_len l) hold ⟨b, 0, none⟩ 1 1 [.int .i64 c.1, .int .i64 c.2] hx rfl hnews h1 hf (by unfold maxLen; omega) (by omega) ?_
    intro v' w' hown' hg
    have hO : OM w' w.heap.size v' (l ++ [c]) := by unfold OM; rw [hlen, hbv]; exact hown'
    refine h v' w' (hO.base fun g hg' => ?_) ⟨⟨hg.os, hg.tape, hg.output, hg.size, fun k hk _ => hg.block k hk (by intro e; cases e)⟩, fun g hg' => .inr (World.ownsRow.lt hO g hg').1⟩ (fun P j u hj hu => hg.cell hu (by intro e; cases e))
    have := (World.ownsRow.lt hO g hg').1
    omega
  rcases hown.2 with ⟨hv, h0⟩ | ⟨g, cap, cur, hv, hb, hh, hn2, hn3⟩
  · refine hfull none 0 (by rw [hv, h0]) (fun _ => ⟨h0, rfl⟩) (fun q hq => by cases hq) (by omega)
  · by_cases hroom : l.length + 1 ≤ cap
    · have hown2 := hown
      unfold OM at hown2
      rw [hv] at hown2
      refine wpList_append_own_spare w hgd s x 38 ho B 40 i0 2 Try.underlying38 hi hz1 g l.length cap (mc l) (hs.trans hv) hown2 ⟨b, 0, none⟩ 1 1 [.int .i64 c.1, .int .i64 c.2] hx rfl hnews h1 hroom ?_
      intro w' hown' hg
      have hO : OM w' B (.slice (some ⟨g, 0, none⟩) (l.length + 1) cap) (l ++ [c]) := by unfold OM; rw [hlen, hbv]; exact hown'
      refine h _ w' hO ⟨by rw [hv]; exact hg, fun g' hg' => .inl (by rw [hv]; exact hg')⟩ (fun P j u hj hu => ?_)
      by_cases e : P = g
      · subst e
        rw [World.ownsRow.cellAt hown2 j (by omega)] at hu
        rw [World.ownsRow.cellAt hown' j (by omega), List.getElem?_append_left (by rw [mc_len]; exact hj)]
        exact hu
      · exact hg.cell hu (by intro h2; exact e (Option.some.inj h2))
    · refine hfull (some ⟨g, 0, none⟩) cap hv (fun hq => by cases hq) (fun q hq => ?_) (by omega)
      cases hq
      exact World.ownsRow.cells hown (by rw [hv]; rfl)
end Go.Proofs.Ytmojckejjjlkjab.TL
