/-
  My own text: QIR, GTR, LK1 in one.
-/
import Derived.Test.YtcdhblfefpkjgaaDoorG0
import Derived.Deep.OwnRows
import Derived.ChangeKeysEq
namespace Go.Proofs.YtcdhblfefpkjgaaDoor.IN
open Go.RowKit Go.Extern

theorem Tryd.infoB : (Tryd.prog.info? 3).map (fun i => (i.zero, i.size, i.bytes)) = some (some (.int .i64 0), 1, 8) := by kernel_rfl

/-- Bytes as cells. -/
def mc (l : List Int) : List Value := l.map fun c => Value.int .i64 c
theorem mc_len (l : List Int) : (mc l).length = l.length := by simp [mc]
theorem mc_app (l m : List Int) : mc (l ++ m) = mc l ++ mc m := by simp [mc]
theorem mc_at {l : List Int} {j : Nat} {c : Int} (h : l[j]? = some c) : (mc l)[j]? = some (.int .i64 c) := by
  unfold mc; rw [List.getElem?_map, h]; rfl
theorem mc_one (l : List Int) : ∀ u ∈ mc l, u.oneCell' = true := by
  intro u hu; unfold mc at hu; rw [List.mem_map] at hu; obtain ⟨c, _, rfl⟩ := hu; rfl

/-- A slice value that reads as these bytes; they lie in block g. -/
def RG (w : World) (g : Nat) (v : Value) (l : List Int) : Prop :=
  ∃ a cap, v = .slice a l.length cap ∧ l.length ≤ cap ∧ (l = [] ∨ ∃ off, a = some ⟨g, off, none⟩ ∧ g < w.heap.size ∧ ∀ j c, l[j]? = some c → w.cell? ⟨g, off + j, none⟩ = some (.int .i64 c))
/-- A slice value that reads as these bytes. -/
def RB (w : World) (v : Value) (l : List Int) : Prop := ∃ g, RG w g v l
theorem RG.keep {w w1 : World} {g : Nat} {v : Value} {l : List Int} (h : RG w g v l) (hs : w.heap.size ≤ w1.heap.size) (hb : l ≠ [] → g < w.heap.size → w1.heap[g]? = w.heap[g]?) : RG w1 g v l := by
  by_cases hn : l = []
  · obtain ⟨a, cap, hv, hc0, _⟩ := h
    exact ⟨a, cap, hv, hc0, .inl hn⟩
  obtain ⟨a, cap, rfl, hc0, h | ⟨off, rfl, hlt, hc⟩⟩ := h
  · exact ⟨a, cap, rfl, hc0, .inl h⟩
  · exact ⟨_, cap, rfl, hc0, .inr ⟨off, rfl, Nat.lt_of_lt_of_le hlt hs, fun j x hx => (World.cell?_of_block (hb hn hlt)).trans (hc j x hx)⟩⟩
theorem RG.later {w w1 : World} {g : Nat} {v : Value} {l : List Int} (h : RG w g v l) (hb : Below w.heap.size w w1) : RG w1 g v l := h.keep hb.size (fun _ => hb.block g)
theorem RB.later {w w1 : World} {v : Value} {l : List Int} (h : RB w v l) (hb : Below w.heap.size w w1) : RB w1 v l := by
  obtain ⟨g, h⟩ := h
  exact ⟨g, h.later hb⟩
theorem some_at {l : List Int} {k : Nat} (h : k < l.length) : ∃ x, l[k]? = some x := ⟨l[k], List.getElem?_eq_getElem h⟩

/-- A slice that is owned from block B on. -/
def OM (w : World) (B : Nat) (v : Value) (l : List Int) : Prop := w.ownsRow B 3 1 v l.length (mc l)
theorem OM.nil (w : World) (B : Nat) : OM w B (.slice none 0 0) [] := World.ownsRow_nil w B 3 1
theorem OM.rg {w : World} {B : Nat} {v : Value} {l : List Int} (h : OM w B v l) : ∃ g, RG w g v l ∧ (l ≠ [] → v.ownBlock = some g) := by
  rcases h.2 with ⟨rfl, h0⟩ | ⟨g, cap, cur, rfl, hb, hh, hn2, _⟩
  · have : l = [] := List.length_eq_zero_iff.1 h0
    subst this
    exact ⟨0, ⟨none, 0, rfl, Nat.le_refl _, .inl rfl⟩, fun h => absurd rfl h⟩
  · refine ⟨g, ⟨_, cap, rfl, hn2, .inr ⟨0, rfl, (Array.getElem?_eq_some_iff.1 hh).1, fun j x hx => ?_⟩⟩, fun _ => rfl⟩
    have hj : j < l.length := (List.getElem?_eq_some_iff.1 hx).1
    rw [Nat.zero_add, World.ownsRow.cellAt h j (by omega)]
    exact mc_at hx
theorem OM.rb {w : World} {B : Nat} {v : Value} {l : List Int} (h : OM w B v l) : RB w v l := by
  obtain ⟨g, hg, _⟩ := h.rg
  exact ⟨g, hg⟩
theorem OM.later {w w' : World} {B : Nat} {v : Value} {l : List Int} (h : OM w B v l) (hb : Below w.heap.size w w') : OM w' B v l := by
  refine ⟨h.1, ?_⟩
  rcases h.2 with h2 | ⟨g, cap, cur, hv, hg, hh, h3⟩
  · exact .inl h2
  · exact .inr ⟨g, cap, cur, hv, hg, (hb.block g (Array.getElem?_eq_some_iff.1 hh).1).trans hh, h3⟩
theorem OM.slice {w : World} {B : Nat} {v : Value} {l : List Int} (h : OM w B v l) : ∃ ad cap, v = .slice ad l.length cap := by
  rcases h.2 with ⟨rfl, h0⟩ | ⟨g, cap, cur, rfl, _⟩
  · exact ⟨none, 0, by rw [h0]⟩
  · exact ⟨_, cap, rfl⟩
theorem OM.base {w : World} {B B' : Nat} {v : Value} {l : List Int} (h : OM w B v l) (hB : ∀ g, v.ownBlock = some g → B' ≤ g) : OM w B' v l := by
  refine ⟨h.1, ?_⟩
  rcases h.2 with h2 | ⟨g, cap, cur, hv, hg, hh, h3⟩
  · exact .inl h2
  · exact .inr ⟨g, cap, cur, hv, hB g (by rw [hv]; rfl), hh, h3⟩
theorem OM.kind {w : World} {B : Nat} {v : Value} {l : List Int} (h : OM w B v l) : ∀ g, v.ownBlock = some g → ∃ c fz, w.heap[g]? = some (.cells c 3 fz) := by
  intro g hg
  rcases h.2 with ⟨rfl, _⟩ | ⟨g', cap, cur, rfl, hb, hh, h3⟩
  · cases hg
  · cases hg; exact ⟨cur, (0, 0), hh⟩

abbrev El := Int
abbrev RM := RB
theorem OM.rm {w : World} {B : Nat} {v : Value} {l : List Int} (h : OM w B v l) : RM w v l := h.rb
theorem rm_lt {w : World} {v : Value} {L : List Int} (h : RM w v L) : ∃ a cap, v = .slice a L.length cap := by
  obtain ⟨g, a, cap, hv, _⟩ := h
  exact ⟨a, cap, hv⟩
theorem RM.nil (w : World) : RM w (.slice none 0 0) [] := ⟨0, none, 0, rfl, Nat.le_refl _, .inl rfl⟩
end Go.Proofs.YtcdhblfefpkjgaaDoor.IN
namespace Go.Proofs.YtcdhblfefpkjgaaDoor.TW
open Go.RowKit

abbrev El := Int × Int
/-- Elements as cells. -/
def mc : List El → List Value
  | [] => []
  | p :: t => .int .i64 p.1 :: .int .i64 p.2 :: mc t
theorem mc_app (a b : List El) : mc (a ++ b) = mc a ++ mc b := by
  induction a with
  | nil => rfl
  | cons p t ih => show _ :: _ :: mc (t ++ b) = _; rw [ih]; rfl
theorem mc_len (a : List El) : (mc a).length = a.length * 2 := by
  induction a with
  | nil => rfl
  | cons p t ih => show (mc t).length + 1 + 1 = (t.length + 1) * 2; rw [ih]; omega
theorem mc_at : ∀ {a : List El} {j : Nat} {p : El}, a[j]? = some p → (mc a)[j * 2]? = some (.int .i64 p.1) ∧ (mc a)[j * 2 + 1]? = some (.int .i64 p.2)
  | q :: t, 0, p, h => by simp at h; subst h; exact ⟨rfl, rfl⟩
  | q :: t, j + 1, p, h => by
    have h' : t[j]? = some p := by simpa using h
    have ih := mc_at h'
    refine ⟨?_, ?_⟩
    · rw [show (j + 1) * 2 = j * 2 + 1 + 1 by omega]; exact ih.1
    · rw [show (j + 1) * 2 + 1 = j * 2 + 1 + 1 + 1 by omega]; exact ih.2
theorem mc_take {l : List El} {k : Nat} {p : El} (h : l[k]? = some p) : mc (l.take (k + 1)) = mc (l.take k) ++ [.int .i64 p.1, .int .i64 p.2] := by
  rw [List.take_add_one, h, mc_app]; rfl
theorem mc_one : ∀ (l : List El), ∀ u ∈ mc l, u.oneCell' = true
  | p :: t, u, h => by
    unfold mc at h
    simp only [List.mem_cons] at h
    rcases h with rfl | rfl | h
    · rfl
    · rfl
    · exact mc_one t u h
/-- A row. -/
def RM (w : World) (v : Value) (L : List El) : Prop := ∃ a cap, v = .slice a L.length cap ∧ L.length ≤ cap ∧ (L = [] ∨ ∃ b off, a = some ⟨b, off, none⟩ ∧ b < w.heap.size ∧ ∀ (j : Nat) (p : El), L[j]? = some p → w.cell? ⟨b, off + j * 2, none⟩ = some (.int .i64 p.1) ∧ w.cell? ⟨b, off + j * 2 + 1, none⟩ = some (.int .i64 p.2))
theorem RM.kept {w w' : World} {v : Value} {L : List El} (h : RM w v L) (hs : w.heap.size ≤ w'.heap.size) (hb : ∀ b, v.ownBlock = some b → ∀ o, w'.cell? ⟨b, o, none⟩ = w.cell? ⟨b, o, none⟩) : RM w' v L := by
  obtain ⟨a, cap, hv, hcap, h⟩ := h
  refine ⟨a, cap, hv, hcap, ?_⟩
  rcases h with h | ⟨b, off, ha, hlt, hc⟩
  · exact .inl h
  · have e := hb b (by rw [hv, ha]; rfl)
    exact .inr ⟨b, off, ha, Nat.lt_of_lt_of_le hlt hs, fun j p hj => ⟨(e _).trans (hc j p hj).1, (e _).trans (hc j p hj).2⟩⟩
theorem RM.later {w w' : World} {v : Value} {L : List El} (h : RM w v L) (hb : Below w.heap.size w w') : RM w' v L := by
  obtain ⟨a, cap, hv, hcap, h⟩ := h
  refine ⟨a, cap, hv, hcap, ?_⟩
  rcases h with h | ⟨b, off, ha, hlt, hc⟩
  · exact .inl h
  · exact .inr ⟨b, off, ha, Nat.lt_of_lt_of_le hlt hb.size, fun j p hj => ⟨(hb.cell (p := ⟨b, _, none⟩) hlt).trans (hc j p hj).1, (hb.cell (p := ⟨b, _, none⟩) hlt).trans (hc j p hj).2⟩⟩
theorem RM.nil (w : World) : RM w (.slice none 0 0) [] := ⟨none, 0, rfl, Nat.le_refl _, .inl rfl⟩
theorem Tryd.infoMk : (Tryd.prog.info? 46).map (fun i => (i.zero, i.size, i.bytes)) = some (some (.agg #[.int .i64 0, .int .i64 0]), 2, 16) := by kernel_rfl
/-- A row of one's own. -/
abbrev OM (w : World) (B : Nat) (v : Value) (L : List El) : Prop := w.ownsRow B 46 2 v L.length (mc L)
theorem OM.rm {w : World} {B : Nat} {v : Value} {L : List El} (h : OM w B v L) : RM w v L := by
  have h' := h
  rcases h.2 with ⟨rfl, h0⟩ | ⟨g, cap, cur, rfl, hb, hh, hn, h3⟩
  · exact ⟨none, 0, by rw [h0], by omega, .inl (List.eq_nil_of_length_eq_zero h0)⟩
  · refine ⟨_, cap, rfl, hn, .inr ⟨g, 0, rfl, (Array.getElem?_eq_some_iff.1 hh).1, fun j p hj => ?_⟩⟩
    have hjl := (List.getElem?_eq_some_iff.1 hj).1
    have e := mc_at hj
    rw [Nat.zero_add]
    exact ⟨(h'.cellAt (j * 2) (by omega)).trans e.1, (h'.cellAt (j * 2 + 1) (by omega)).trans e.2⟩
theorem mc_cells : ∀ {L : List El} {j : Nat} {u : Value}, (mc L)[j]? = some u → ∃ (i : Nat) (p : El), L[i]? = some p ∧ ((j = i * 2 ∧ u = .int .i64 p.1) ∨ (j = i * 2 + 1 ∧ u = .int .i64 p.2))
  | p :: t, 0, u, h => by cases h; exact ⟨0, p, rfl, .inl ⟨rfl, rfl⟩⟩
  | p :: t, 1, u, h => by cases h; exact ⟨0, p, rfl, .inr (⟨rfl, rfl⟩)⟩
  | p :: t, j + 2, u, h => by
    obtain ⟨i, q, h1, h2⟩ := mc_cells (L := t) (j := j) (u := u) h
    refine ⟨i + 1, q, h1, ?_⟩
    rcases h2 with ⟨h2, h3⟩ | ⟨h2, h3⟩
    · exact .inl ⟨by omega, h3⟩
    · exact .inr (⟨by omega, h3⟩)
theorem rm_lt {w : World} {v : Value} {L : List El} (h : RM w v L) : ∃ a cap, v = .slice a L.length cap := ⟨_, _, h.choose_spec.choose_spec.1⟩
theorem grown_om {w W W' : World} {B : Nat} {v : Value} {M : List El} (hB : Below B w W) (hw : B ≤ w.heap.size) (hO : OM W B v M) (hg : W.grownBy W' v.ownBlock) : Below B w W' :=
  hB.grown hg (Nat.le_trans hw hB.size) (fun k hk => (hO.lt k hk).1)
theorem OM.later {w w' : World} {B : Nat} {v : Value} {L : List El} (h : OM w B v L) (hb : Below w.heap.size w w') : OM w' B v L := owns_lat h hb
theorem OM.nil (w : World) (B : Nat) : OM w B (.slice none 0 0) [] := World.ownsRow_nil w B 46 2
theorem OM.slice {w : World} {B : Nat} {v : Value} {L : List El} (h : OM w B v L) : ∃ a cap, v = .slice a L.length cap := rm_lt h.rm
theorem OM.base {w : World} {B D : Nat} {v : Value} {L : List El} (h : OM w B v L) (hc : ∀ g, v.ownBlock = some g → D ≤ g) : OM w D v L := by
  refine ⟨h.1, ?_⟩
  rcases h.2 with h2 | ⟨g, cap, cur, hv, hg, hh, h3⟩
  · exact .inl h2
  · exact .inr ⟨g, cap, cur, hv, hc g (by rw [hv]; rfl), hh, h3⟩
theorem cellsA {w : World} {o : Obj} {a0 a1 : Value} {t : TypeId} {g : Nat} (h : w.heap[g]? = some o) (ho : o = .cells #[a0, a1] t (0, 0)) : w.cell? ⟨g, 0, none⟩ = some a0 ∧ w.cell? ⟨g, 1, none⟩ = some a1 := pair_cells h ho
/-- An element behind an own row: cells below the row's end stay. -/
theorem wp_append_kept {w : World} {ops : Array Oper} {rest : List Oper} {o : Oper} {a : Act} {Q : Exit → Act → World → Prop} (hgd : o.guard = none) (s x : Operand)
    (ho : o.op = .call { callee := .builtin .append, args := #[s, x], argTypes := #[47, 47] }) (B : Nat) (v : Value) (l : List El) (c : El) (b : Nat) (hs : a.eval s = v) (hx : a.eval x = .slice (some ⟨b, 0, none⟩) 1 1)
    (hown : OM w B v l) (hc0 : w.cell? ⟨b, 0, none⟩ = some (.int .i64 c.1)) (hc1 : w.cell? ⟨b, 1, none⟩ = some (.int .i64 c.2)) (hB : B ≤ w.heap.size) (hsz : l.length + 1 ≤ 8796093022208)
    (h : ∀ v' w', OM w' B v' (l ++ [c]) → Grew w v w' v' → (∀ P j u, j < l.length * 2 → w.cell? ⟨P, j, none⟩ = some u → w'.cell? ⟨P, j, none⟩ = some u) → wpList Tryd.prog ops Q rest (a.put o.dst v') w') : wpList Tryd.prog ops Q (o :: rest) a w := by
  obtain ⟨i0, hi, hz0, hz1, hz2⟩ := info_parts Tryd.infoMk
  have hnews : ∀ j u, ([.int .i64 c.1, .int .i64 c.2] : List Value)[j]? = some u → w.cell? ((⟨b, 0, none⟩ : Addr).add j) = some u := by
    intro j u hj
    match j, hj with
    | 0, hj => simp at hj; subst hj; simpa [Addr.add] using hc0
    | 1, hj => simp at hj; subst hj; simpa [Addr.add] using hc1
  have h1 : ∀ u ∈ ([.int .i64 c.1, .int .i64 c.2] : List Value), u.oneCell' = true := by intro u hu; simp at hu; rcases hu with rfl | rfl <;> rfl
  have hbv : mc (l ++ [c]) = mc l ++ [.int .i64 c.1, .int .i64 c.2] := by rw [mc_app]; rfl
  have hlen : (l ++ [c]).length = l.length + 1 := by simp
  have hfull : ∀ (ao : Option Addr) (cap : Nat), v = .slice ao l.length cap → (ao = none → l.length = 0 ∧ cap = 0) → (∀ q, ao = some q → ∀ j u, (mc l)[j]? = some u → w.cell? (q.add j) = some u) → cap < l.length + 1 → wpList Tryd.prog ops Q (o :: rest) a w := by
    intro ao cap hv hno hold hf
    refine wpList_append_grows w hgd s x 47 ho 46 i0 (.agg #[.int .i64 0, .int .i64 0]) 2 16 Tryd.underlying47 hi hz0 hz1 hz2 rfl (by decide) ao l.length cap (mc l) (hs.trans hv) hno (mc_len l) hold ⟨b, 0, none⟩ 1 1 [.int .i64 c.1, .int .i64 c.2] hx rfl hnews h1 hf (by unfold maxLen; omega) (by omega) ?_
    intro v' w' hown' hg
    have hO : OM w' w.heap.size v' (l ++ [c]) := by unfold OM; rw [hlen, hbv]; exact hown'
    refine h v' w' (hO.base fun g hg' => ?_) ⟨⟨hg.os, hg.tape, hg.output, hg.size, fun k hk _ => hg.block k hk (by intro e; cases e)⟩, fun g hg' => .inr (World.ownsRow.lt hO g hg').1⟩ (fun P j u hj hu => hg.cell hu (by intro e; cases e))
    have := (World.ownsRow.lt hO g hg').1
    omega
  rcases hown.2 with ⟨hv, h0⟩ | ⟨g, cap, cur, hv, hb, hh, hn2, hn3⟩
  · refine hfull none 0 (by rw [hv, h0]) (fun _ => ⟨h0, rfl⟩) (fun q hq => by cases hq) (by omega)
  · by_cases hroom : l.length + 1 ≤ cap
    · have hown2 := hown
      unfold OM at hown2
      rw [hv] at hown2
      refine wpList_append_own_spare w hgd s x 47 ho B 46 i0 2 Tryd.underlying47 hi hz1 g l.length cap (mc l) (hs.trans hv) hown2 ⟨b, 0, none⟩ 1 1 [.int .i64 c.1, .int .i64 c.2] hx rfl hnews h1 hroom ?_
      intro w' hown' hg
      have hO : OM w' B (.slice (some ⟨g, 0, none⟩) (l.length + 1) cap) (l ++ [c]) := by unfold OM; rw [hlen, hbv]; exact hown'
      refine h _ w' hO ⟨by rw [hv]; exact hg, fun g' hg' => .inl (by rw [hv]; exact hg')⟩ (fun P j u hj hu => ?_)
      by_cases e : P = g
      · subst e
        rw [World.ownsRow.cellAt hown2 j (by omega)] at hu
        rw [World.ownsRow.cellAt hown' j (by omega), List.getElem?_append_left (by rw [mc_len]; exact hj)]
        exact hu
      · exact hg.cell hu (by intro h2; exact e (Option.some.inj h2))
    · refine hfull (some ⟨g, 0, none⟩) cap hv (fun hq => by cases hq) (fun q hq => ?_) (by omega)
      cases hq
      exact World.ownsRow.cells hown (by rw [hv]; rfl)
theorem Tryd.cellsInt2 : Tryd.prog.cellsOf 3 = 1 := by kernel_rfl
theorem Tryd.infoInt2 : ∃ i, Tryd.prog.info? 3 = some i := by
  have h : (Tryd.prog.info? 3).map (fun i => (i.zero, i.size, i.bytes)) = some (some (.int .i64 0), 1, 8) := by kernel_rfl
  obtain ⟨i, hi, _⟩ := info_parts h
  exact ⟨i, hi⟩
theorem eqMk (a0 a1 b0 b1 : Int) (W : World) : (Op.equalIn 10000 46 (.agg #[.int .i64 a0, .int .i64 a1]) (.agg #[.int .i64 b0, .int .i64 b1])).run Tryd.prog W = .ok (a0 == b0 && a1 == b1) W := by
  obtain ⟨i0, hi⟩ := Tryd.infoInt2
  rw [run_equalIn_array W 9999 _ _ Tryd.underlying46 hi, Tryd.cellsInt2]
  have ui := Tryd.underlying3
  have e : ∀ (x y : Int) (W : World), (Op.equalIn 9999 3 (.int .i64 x) (.int .i64 y)).run Tryd.prog W = .ok (x == y) W := fun x y W => by rw [show (9999 : Nat) = 9998 + 1 from rfl, run_equalIn_int W 9998 _ _ _ _ _ ui]
  cases h0 : (a0 == b0) <;> try (simp [List.range, List.range.loop, Op.eqItems, part, isAgg, underlying, ui, Result.andThen, e, h0]; done)
  cases h1 : (a1 == b1) <;> try (simp [List.range, List.range.loop, Op.eqItems, part, isAgg, underlying, ui, Result.andThen, e, h0, h1]; done)
/-- The mark of place i in row k. -/
def mq5 (k i : Int) : El := (-10 - k, i)
theorem run_neq_mk (a0 a1 : Int) (w : World) : (binOp .neq 46 (.agg #[.int .i64 a0, .int .i64 a1]) (.agg #[.int .i64 a0, .int .i64 a1])).run Tryd.prog w = .ok (.bool false) w := by
  simp only [binOp]
  simp [Op.equal, Op.maxDepth, eqMk]
theorem run_neq_el (a0 a1 b0 b1 : Int) (w : World) : (binOp .neq 46 (.agg #[.int .i64 a0, .int .i64 a1]) (.agg #[.int .i64 b0, .int .i64 b1])).run Tryd.prog w = .ok (.bool (!(a0 == b0 && a1 == b1))) w := by
  simp only [binOp]
  simp [Op.equal, Op.maxDepth, eqMk]
end Go.Proofs.YtcdhblfefpkjgaaDoor.TW
namespace Go.Proofs.YtcdhblfefpkjgaaDoor
open Go.RowKit

theorem Tryd.infoIn : (Tryd.prog.info? 3).map (fun i => (i.zero, i.size, i.bytes)) = some (some (.int .i64 0), 1, 8) := by kernel_rfl
/-- Block P is a row of these places. -/
def NV (w : World) (P : Nat) (L : List Nat) : Prop := w.rowIs P 3 L.length (fun j => .int .i64 ((L.getD j 0 : Nat) : Int))
theorem NV.cell {w : World} {P : Nat} {L : List Nat} (h : NV w P L) {j x : Nat} (hx : L[j]? = some x) : w.cell? ⟨P, j, none⟩ = some (.int .i64 ((x : Nat) : Int)) := by
  have hj := (List.getElem?_eq_some_iff.1 hx).1
  rw [World.rowIs.cell h hj, List.getD_eq_getElem?_getD, hx]; rfl
theorem NV.frozen {w : World} {P : Nat} {L : List Nat} (h : NV w P L) (j : Nat) : w.frozen? ⟨P, j, none⟩ = false := World.rowIs.frozen h j
theorem NV.lt {w : World} {P : Nat} {L : List Nat} (h : NV w P L) : P < w.heap.size := World.rowIs.lt h
theorem NV.set {w : World} {P : Nat} {L : List Nat} (h : NV w P L) (k x : Nat) : NV (w.setCell ⟨P, k, none⟩ (.int .i64 ((x : Nat) : Int))) P (L.set k x) := by
  have h2 := World.rowIs.set h k (.int .i64 ((x : Nat) : Int))
  unfold NV
  rw [List.length_set]
  refine World.rowIs.congr h2 fun i hi => ?_
  by_cases e : i = k
  · subst e; rw [if_pos rfl, List.getD_eq_getElem?_getD, List.getElem?_set_self hi]; rfl
  · rw [if_neg e, List.getD_eq_getElem?_getD, List.getD_eq_getElem?_getD, List.getElem?_set_ne (fun q => e q.symm)]
theorem NV.block {w w' : World} {P : Nat} {L : List Nat} (h : NV w P L) (e : w'.heap[P]? = w.heap[P]?) : NV w' P L := World.rowIs.of_block h e
theorem NV.later {w w' : World} {P : Nat} {L : List Nat} (h : NV w P L) (hb : Below w.heap.size w w') : NV w' P L := h.block (hb.block P h.lt)
theorem NV.om {w : World} {P B : Nat} {L : List Nat} (h : NV w P L) (hB : B ≤ P) (hl : L.length ≤ maxLen) : IN.OM w B (.slice (some ⟨P, 0, none⟩) L.length L.length) (L.map fun x => ((x : Nat) : Int)) := by
  obtain ⟨c, hb, hs, hc⟩ := h
  refine ⟨by rw [IN.mc_len, List.length_map, Nat.mul_one], .inr ⟨P, L.length, c, by rw [List.length_map], hB, hb, by rw [List.length_map]; exact Nat.le_refl _, hl, by rw [hs, Nat.mul_one], ?_⟩⟩
  rw [List.length_map, Nat.mul_one]
  apply List.ext_getElem?
  intro i
  by_cases hi : i < L.length
  · rw [List.getElem?_take, if_pos hi, Array.getElem?_toList, hc i hi]
    have e : (L.map fun x => ((x : Nat) : Int))[i]? = some ((L.getD i 0 : Nat) : Int) := by
      rw [List.getElem?_map, List.getD_eq_getElem?_getD, List.getElem?_eq_getElem hi]; rfl
    exact (IN.mc_at e).symm
  · rw [List.getElem?_eq_none (by rw [List.length_take]; omega), List.getElem?_eq_none (by rw [IN.mc_len, List.length_map]; omega)]
theorem gb_refl (w : World) (r : Option Nat) : w.grownBy w r := ⟨rfl, rfl, rfl, Nat.le_refl _, fun _ _ _ => rfl⟩
theorem gb_trans {w w1 w2 : World} {r : Option Nat} (h : w.grownBy w1 r) (k : w1.grownBy w2 r) : w.grownBy w2 r :=
  ⟨k.os.trans h.os, k.tape.trans h.tape, k.output.trans h.output, Nat.le_trans h.size k.size, fun b hb hn => (k.block b (Nat.lt_of_lt_of_le hb h.size) hn).trans (h.block b hb hn)⟩
theorem gb_set (w : World) (P k : Nat) (v : Value) : w.grownBy (w.setCell ⟨P, k, none⟩ v) (some P) :=
  ⟨rfl, rfl, rfl, by simp [World.setCell], fun b _ hn => Below.heap_setCell _ _ _ b (fun e => hn (by rw [e]))⟩
theorem nat_ne {a b : Nat} (h : ¬ a = b) : ((a : Int) != (b : Int)) = true := by rw [bne_iff_ne]; omega
theorem nat_eq (a : Nat) : ((a : Int) != (a : Int)) = false := by simp
set_option maxRecDepth 100000 in
set_option maxHeartbeats 1000000 in
theorem head_any (P n cap x : Nat) (R : Nat → Nat) (L : List Nat) (w : World) (hN : NV w P L) (hL : Lead n L R) (hx : x < n) :
    Calls Tryd.prog 40 #[.slice (some ⟨P, 0, none⟩) n cap, .int .i64 (x : Int)] w fun e w' => e = .returned (.int .i64 ((R x : Nat) : Int)) ∧ (∃ L', NV w' P L' ∧ Lead n L' R) ∧ w.grownBy w' (some P) := by
  obtain ⟨r, hr⟩ : ∃ r, Hid (R x = r) := ⟨_, rfl⟩
  rw [hr.out]
  go_enter Tryd.func40, Tryd.ntmps40
  go_wp2_with fail
  go_loopw [1] (fun i wr => ∃ (k : Nat) (L' : List Nat), i = .int .i64 (k : Int) ∧ Hid (k < n ∧ R k = r) ∧ Hid (NV wr P L') ∧ Hid (Lead n L' R) ∧ Hid (w.grownBy wr (some P))) (fun i _ => (intOf i).toNat)
  case atStart => exact ⟨x, L, rfl, hide ⟨hx, hr.out⟩, hide hN, hide hL, hide (gb_refl _ _)⟩
  case round =>
    obtain ⟨k, L', rfl, HK, HN, HL, HG⟩ := hrel
    clear hN hL
    obtain ⟨y, hy, hyk⟩ := HL.out.ex HK.out.1
    have hkn := HK.out.1
    have c1 := HN.out.cell hy
    by_cases e : y = k
    · subst e
      have t := nat_eq y
      have HR := hide ((HL.out.at_ y y hy).2.2 rfl)
      go_wp2_with fail
      go_ret
      exact ⟨ret_i (by have := HK.out.2; rw [HR.out] at this; rw [this]), ⟨L', HN.out, HL.out⟩, HG.out⟩
    · have t := nat_ne e
      obtain ⟨z, hz, hzy⟩ := HL.out.ex (x := y) (by omega)
      have c2 := HN.out.cell hz
      have f0 := HN.out.frozen k
      have HE := hide e
      have HY := hide (And.intro hy hz)
      have y0 : y < n := by omega
      have HZ := hide (And.intro hyk hzy)
      obtain ⟨w1, hw1⟩ : ∃ w1, wr.setCell ⟨P, k, none⟩ (.int .i64 ((z : Nat) : Int)) = w1 := ⟨_, rfl⟩
      have HN1 : Hid (NV w1 P (L'.set k z)) := hide (by rw [← hw1]; exact HN.out.set k z)
      have HG1 : Hid (w.grownBy w1 (some P)) := hide (by rw [← hw1]; exact gb_trans HG.out (gb_set wr P k _))
      have c3 := HN1.out.cell (j := k) (x := z) (List.getElem?_set_self (by rw [HL.out.len]; exact hkn))
      clear e hy hz hyk hzy
      go_wp2_with fail
      go_roundw
      case rel =>
        have h1 := HL.out.at_ k y HY.out.1
        have h2 := HL.out.at_ y z HY.out.2
        exact ⟨z, L'.set k z, rfl, hide ⟨by have := HZ.out; omega, by rw [h2.2.1, h1.2.1]; exact HK.out.2⟩, HN1, hide (HL.out.halve HY.out.1 HY.out.2), HG1⟩
      case measure => have := HZ.out; have := HE.out; simp [intOf]; omega
end Go.Proofs.YtcdhblfefpkjgaaDoor
