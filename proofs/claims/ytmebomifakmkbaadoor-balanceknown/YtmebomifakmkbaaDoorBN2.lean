/-
  My own text: the positions of BalanceKnown (printed by mkbn2.py).
-/
import Derived.Test.YtmebomifakmkbaaDoorBN1
namespace Go.Proofs.YtmebomifakmkbaaDoor
open Go.RowKit

/-- A row of marks with memory of its own, few and fitting. -/
def Gd (B : Nat) (W : World) (u : Value) : Prop := ∃ L, OM W B u L ∧ MOk L ∧ L.length ≤ 11
theorem Gd.later {B : Nat} {W W' : World} {u : Value} (h : Gd B W u) (hb : Below W.heap.size W W') : Gd B W' u := by
  obtain ⟨L, h1, h2, h3⟩ := h
  exact ⟨L, owns_later h1 hb, h2, h3⟩
theorem om_kept {B : Nat} {W W' : World} {u : Value} {L : List Mk} {row : Option Nat} (h : OM W B u L) (hg : W.grownBy W' row) (hr : ∀ g, row = some g → ∃ c fz t, W.heap[g]? = some (.cells c t fz) ∧ t ≠ 36) : OM W' B u L := by
  refine World.ownsRow.kept h hg ?_
  rcases e : u.ownBlock with _ | b
  · exact .inl rfl
  · refine .inr fun e2 => ?_
    obtain ⟨c, fz, t, h1, h2⟩ := hr b e2.symm
    obtain ⟨c2, fz2, h3⟩ := ownsRow_kind h b e
    rw [h1] at h3
    injection h3 with h3
    injection h3 with _ h4 _
    exact h2 h4
theorem Gd.kept {B : Nat} {W W' : World} {u : Value} {row : Option Nat} (h : Gd B W u) (hg : W.grownBy W' row) (hr : ∀ g, row = some g → ∃ c fz t, W.heap[g]? = some (.cells c t fz) ∧ t ≠ 36) : Gd B W' u := by
  obtain ⟨L, h1, h2, h3⟩ := h
  exact ⟨L, om_kept h1 hg hr, h2, h3⟩
theorem Gd.slice {B : Nat} {W : World} {u : Value} (h : Gd B W u) : ∃ a n c, u = .slice a n c := by
  obtain ⟨L, h1, _⟩ := h
  obtain ⟨a, c, e⟩ := OM.slice h1
  exact ⟨a, _, c, e⟩
def mokB (L : List Mk) : Bool := L.all fun p => decide (-9223372036854775808 ≤ p.1) && decide (p.1 ≤ 9223372036854775807) && decide (-9223372036854775808 ≤ p.2) && decide (p.2 ≤ 9223372036854775807)
theorem mok_of {L : List Mk} (h : mokB L = true) : MOk L := by
  intro p hp
  have h1 := List.all_eq_true.1 h p hp
  simp only [Bool.and_eq_true, decide_eq_true_eq] at h1
  exact ⟨h1.1.1.1, h1.1.1.2, h1.1.2, h1.2⟩
/-- The avails. -/
abbrev avA : Array Value := #[.int .i64 (-9223372036854775808), .int .i64 (-1), .int .i64 0, .int .i64 1, .int .i64 2, .int .i64 9223372036854775804, .int .i64 9223372036854775806, .int .i64 9223372036854775807]
theorem av_at {W : World} {g : Nat} (h : W.heap[g]? = some (.cells avA 2 (0, 0))) {i : Nat} (hi : i < 8) : ∃ x : Int, x ≤ top ∧ W.cell? ⟨g, i, none⟩ = some (.int .i64 x) := by
  match i, hi with
  | 0, _ => exact ⟨(-9223372036854775808), by decide, by rw [cell_of_row _ _ 0 _ _ _ h]; rfl⟩
  | 1, _ => exact ⟨(-1), by decide, by rw [cell_of_row _ _ 1 _ _ _ h]; rfl⟩
  | 2, _ => exact ⟨0, by decide, by rw [cell_of_row _ _ 2 _ _ _ h]; rfl⟩
  | 3, _ => exact ⟨1, by decide, by rw [cell_of_row _ _ 3 _ _ _ h]; rfl⟩
  | 4, _ => exact ⟨2, by decide, by rw [cell_of_row _ _ 4 _ _ _ h]; rfl⟩
  | 5, _ => exact ⟨9223372036854775804, by decide, by rw [cell_of_row _ _ 5 _ _ _ h]; rfl⟩
  | 6, _ => exact ⟨9223372036854775806, by decide, by rw [cell_of_row _ _ 6 _ _ _ h]; rfl⟩
  | 7, _ => exact ⟨9223372036854775807, by decide, by rw [cell_of_row _ _ 7 _ _ _ h]; rfl⟩
structure LitS (w W : World) (n : Nat) (vs : List Value) : Prop where
  size : W.heap.size = n
  low : Below w.heap.size w W
  av : W.heap[w.heap.size]? = some (.cells avA 2 (0, 0))
  good : ∀ u ∈ vs, Gd w.heap.size W u
theorem LitS.mark {w W : World} {n : Nat} {vs : List Value} (h : LitS w W n vs) (L : List Mk) (m : Nat) (hm : L.length = m) (A : Array Value) (hA : A = (mc L).toArray) (hok : mokB L = true) (hl : m ≤ 11) : LitS w (W.alloc (.cells A 36)) (n + 1) (vs ++ [.slice (some ⟨n, 0, none⟩) m m]) := by
  have hb : Below W.heap.size W (W.alloc (.cells A 36)) := (Below.refl _ _).alloc (Nat.le_refl _) _
  refine ⟨by simp [h.size], h.low.trans (hb.mono h.low.size), blk_later h.av hb, fun u hu => ?_⟩
  rcases List.mem_append.1 hu with hu | hu
  · exact (h.good u hu).later hb
  · obtain rfl := List.mem_singleton.1 hu
    have hO := om_lit W L A hA (by omega)
    rw [h.size, hm] at hO
    exact ⟨L, OM.base hO (fun g hg => by have := (World.ownsRow.lt hO g hg).1; have := h.low.size; have := h.size; omega), mok_of hok, by omega⟩
/-- The rows of marks so far. -/
structure SMk (w : World) (v4 : Value) (K : Nat) (W : World) : Prop where
  low : Below w.heap.size w W
  av : W.heap[w.heap.size]? = some (.cells avA 2 (0, 0))
  row : ∃ vs, W.ownsRow w.heap.size 22 1 v4 K vs ∧ ∀ u ∈ vs, Gd w.heap.size W u
theorem SMk.later {w : World} {v4 : Value} {K : Nat} {W W' : World} (h : SMk w v4 K W) (hb : Below W.heap.size W W') : SMk w v4 K W' := by
  obtain ⟨vs, h1, h2⟩ := h.row
  exact ⟨h.low.trans (hb.mono h.low.size), blk_later h.av hb, vs, owns_later h1 hb, fun u hu => (h2 u hu).later hb⟩
set_option maxRecDepth 100000 in
theorem some_lit (w : World) : SMk w (.slice (some ⟨w.heap.size + 1 + 1 + 1 + 1 + 1 + 1 + 1 + 1 + 1 + 1 + 1 + 1, 0, none⟩) 12 12) 12 (((((((((((((w.alloc (.cells #[.int .i64 (-9223372036854775808), .int .i64 (-1), .int .i64 0, .int .i64 1, .int .i64 2, .int .i64 9223372036854775804, .int .i64 9223372036854775806, .int .i64 9223372036854775807] 2)).alloc (.cells #[.int .i64 7, .int .i64 3] 36)).alloc (.cells #[.int .i64 1, .int .i64 1, .int .i64 65536, .int .i64 1] 36)).alloc (.cells #[.int .i64 0, .int .i64 1] 36)).alloc (.cells #[.int .i64 65537, .int .i64 1] 36)).alloc (.cells #[.int .i64 7, .int .i64 0] 36)).alloc (.cells #[.int .i64 7, .int .i64 (-1)] 36)).alloc (.cells #[.int .i64 7, .int .i64 1, .int .i64 7, .int .i64 1] 36)).alloc (.cells #[.int .i64 7, .int .i64 1, .int .i64 6, .int .i64 9223372036854775807] 36)).alloc (.cells #[.int .i64 7, .int .i64 9223372036854775807] 36)).alloc (.cells #[.int .i64 7, .int .i64 9223372036854775806, .int .i64 8, .int .i64 1] 36)).alloc (.cells #[.int .i64 (-3), .int .i64 1] 36)).alloc (.cells #[.slice none 0 0, .slice (some ⟨w.heap.size + 1, 0, none⟩) 1 1, .slice (some ⟨w.heap.size + 1 + 1, 0, none⟩) 2 2, .slice (some ⟨w.heap.size + 1 + 1 + 1, 0, none⟩) 1 1, .slice (some ⟨w.heap.size + 1 + 1 + 1 + 1, 0, none⟩) 1 1, .slice (some ⟨w.heap.size + 1 + 1 + 1 + 1 + 1, 0, none⟩) 1 1, .slice (some ⟨w.heap.size + 1 + 1 + 1 + 1 + 1 + 1, 0, none⟩) 1 1, .slice (some ⟨w.heap.size + 1 + 1 + 1 + 1 + 1 + 1 + 1, 0, none⟩) 2 2, .slice (some ⟨w.heap.size + 1 + 1 + 1 + 1 + 1 + 1 + 1 + 1, 0, none⟩) 2 2, .slice (some ⟨w.heap.size + 1 + 1 + 1 + 1 + 1 + 1 + 1 + 1 + 1, 0, none⟩) 1 1, .slice (some ⟨w.heap.size + 1 + 1 + 1 + 1 + 1 + 1 + 1 + 1 + 1 + 1, 0, none⟩) 2 2, .slice (some ⟨w.heap.size + 1 + 1 + 1 + 1 + 1 + 1 + 1 + 1 + 1 + 1 + 1, 0, none⟩) 1 1] 22)) := by
  have s0 : LitS w (w.alloc (.cells #[.int .i64 (-9223372036854775808), .int .i64 (-1), .int .i64 0, .int .i64 1, .int .i64 2, .int .i64 9223372036854775804, .int .i64 9223372036854775806, .int .i64 9223372036854775807] 2)) (w.heap.size + 1) [.slice none 0 0] := ⟨by simp, (Below.refl _ _).alloc (Nat.le_refl _) _, alloc_new w _, fun u hu => by
    obtain rfl := List.mem_singleton.1 hu
    exact ⟨[], World.ownsRow_nil _ _ _ _, mok_of rfl, by decide⟩⟩
  have s1 := s0.mark [(7, 3)] 1 rfl #[.int .i64 7, .int .i64 3] rfl (by decide) (by decide)
  have s2 := s1.mark [(1, 1), (65536, 1)] 2 rfl #[.int .i64 1, .int .i64 1, .int .i64 65536, .int .i64 1] rfl (by decide) (by decide)
  have s3 := s2.mark [(0, 1)] 1 rfl #[.int .i64 0, .int .i64 1] rfl (by decide) (by decide)
  have s4 := s3.mark [(65537, 1)] 1 rfl #[.int .i64 65537, .int .i64 1] rfl (by decide) (by decide)
  have s5 := s4.mark [(7, 0)] 1 rfl #[.int .i64 7, .int .i64 0] rfl (by decide) (by decide)
  have s6 := s5.mark [(7, (-1))] 1 rfl #[.int .i64 7, .int .i64 (-1)] rfl (by decide) (by decide)
  have s7 := s6.mark [(7, 1), (7, 1)] 2 rfl #[.int .i64 7, .int .i64 1, .int .i64 7, .int .i64 1] rfl (by decide) (by decide)
  have s8 := s7.mark [(7, 1), (6, 9223372036854775807)] 2 rfl #[.int .i64 7, .int .i64 1, .int .i64 6, .int .i64 9223372036854775807] rfl (by decide) (by decide)
  have s9 := s8.mark [(7, 9223372036854775807)] 1 rfl #[.int .i64 7, .int .i64 9223372036854775807] rfl (by decide) (by decide)
  have s10 := s9.mark [(7, 9223372036854775806), (8, 1)] 2 rfl #[.int .i64 7, .int .i64 9223372036854775806, .int .i64 8, .int .i64 1] rfl (by decide) (by decide)
  have s11 := s10.mark [((-3), 1)] 1 rfl #[.int .i64 (-3), .int .i64 1] rfl (by decide) (by decide)
  obtain ⟨W, hW⟩ : ∃ W, W = ((((((((((((w.alloc (.cells #[.int .i64 (-9223372036854775808), .int .i64 (-1), .int .i64 0, .int .i64 1, .int .i64 2, .int .i64 9223372036854775804, .int .i64 9223372036854775806, .int .i64 9223372036854775807] 2)).alloc (.cells #[.int .i64 7, .int .i64 3] 36)).alloc (.cells #[.int .i64 1, .int .i64 1, .int .i64 65536, .int .i64 1] 36)).alloc (.cells #[.int .i64 0, .int .i64 1] 36)).alloc (.cells #[.int .i64 65537, .int .i64 1] 36)).alloc (.cells #[.int .i64 7, .int .i64 0] 36)).alloc (.cells #[.int .i64 7, .int .i64 (-1)] 36)).alloc (.cells #[.int .i64 7, .int .i64 1, .int .i64 7, .int .i64 1] 36)).alloc (.cells #[.int .i64 7, .int .i64 1, .int .i64 6, .int .i64 9223372036854775807] 36)).alloc (.cells #[.int .i64 7, .int .i64 9223372036854775807] 36)).alloc (.cells #[.int .i64 7, .int .i64 9223372036854775806, .int .i64 8, .int .i64 1] 36)).alloc (.cells #[.int .i64 (-3), .int .i64 1] 36)) := ⟨_, rfl⟩
  rw [← hW] at s11 ⊢
  have hb : Below W.heap.size W (W.alloc (.cells #[.slice none 0 0, .slice (some ⟨w.heap.size + 1, 0, none⟩) 1 1, .slice (some ⟨w.heap.size + 1 + 1, 0, none⟩) 2 2, .slice (some ⟨w.heap.size + 1 + 1 + 1, 0, none⟩) 1 1, .slice (some ⟨w.heap.size + 1 + 1 + 1 + 1, 0, none⟩) 1 1, .slice (some ⟨w.heap.size + 1 + 1 + 1 + 1 + 1, 0, none⟩) 1 1, .slice (some ⟨w.heap.size + 1 + 1 + 1 + 1 + 1 + 1, 0, none⟩) 1 1, .slice (some ⟨w.heap.size + 1 + 1 + 1 + 1 + 1 + 1 + 1, 0, none⟩) 2 2, .slice (some ⟨w.heap.size + 1 + 1 + 1 + 1 + 1 + 1 + 1 + 1, 0, none⟩) 2 2, .slice (some ⟨w.heap.size + 1 + 1 + 1 + 1 + 1 + 1 + 1 + 1 + 1, 0, none⟩) 1 1, .slice (some ⟨w.heap.size + 1 + 1 + 1 + 1 + 1 + 1 + 1 + 1 + 1 + 1, 0, none⟩) 2 2, .slice (some ⟨w.heap.size + 1 + 1 + 1 + 1 + 1 + 1 + 1 + 1 + 1 + 1 + 1, 0, none⟩) 1 1] 22)) := (Below.refl _ _).alloc (Nat.le_refl _) _
  have hN := alloc_new W (.cells #[.slice none 0 0, .slice (some ⟨w.heap.size + 1, 0, none⟩) 1 1, .slice (some ⟨w.heap.size + 1 + 1, 0, none⟩) 2 2, .slice (some ⟨w.heap.size + 1 + 1 + 1, 0, none⟩) 1 1, .slice (some ⟨w.heap.size + 1 + 1 + 1 + 1, 0, none⟩) 1 1, .slice (some ⟨w.heap.size + 1 + 1 + 1 + 1 + 1, 0, none⟩) 1 1, .slice (some ⟨w.heap.size + 1 + 1 + 1 + 1 + 1 + 1, 0, none⟩) 1 1, .slice (some ⟨w.heap.size + 1 + 1 + 1 + 1 + 1 + 1 + 1, 0, none⟩) 2 2, .slice (some ⟨w.heap.size + 1 + 1 + 1 + 1 + 1 + 1 + 1 + 1, 0, none⟩) 2 2, .slice (some ⟨w.heap.size + 1 + 1 + 1 + 1 + 1 + 1 + 1 + 1 + 1, 0, none⟩) 1 1, .slice (some ⟨w.heap.size + 1 + 1 + 1 + 1 + 1 + 1 + 1 + 1 + 1 + 1, 0, none⟩) 2 2, .slice (some ⟨w.heap.size + 1 + 1 + 1 + 1 + 1 + 1 + 1 + 1 + 1 + 1 + 1, 0, none⟩) 1 1] 22)
  rw [s11.size] at hN
  refine ⟨s11.low.trans (hb.mono s11.low.size), blk_later s11.av hb, _, ⟨?_, .inr ⟨_, 12, _, rfl, ?_, hN, Nat.le_refl _, by unfold maxLen; omega, rfl, rfl⟩⟩, fun u hu => (s11.good u ?_).later hb⟩
  · rfl
  · omega
  · exact hu
/-- One more row of marks. -/
theorem SMk.push {w : World} {v4 v4' u : Value} {K : Nat} {W W' : World} {vs : List Value} (h : SMk w v4 K W) (hr : W.ownsRow w.heap.size 22 1 v4 K vs) (hv : ∀ u ∈ vs, Gd w.heap.size W u) (hu : Gd w.heap.size W u)
    (hr' : W'.ownsRow w.heap.size 22 1 v4' (K + 1) (vs ++ [u])) (hg : (W.alloc (.cells #[u] 22)).grownBy W' v4.ownBlock) : SMk w v4' (K + 1) W' ∧ Gd w.heap.size W' u ∧ ∀ L, OM W w.heap.size u L → OM W' w.heap.size u L := by
  have hb : Below W.heap.size W (W.alloc (.cells #[u] 22)) := (Below.refl _ _).alloc (Nat.le_refl _) _
  have hty : ∀ g, v4.ownBlock = some g → ∃ c fz t, (W.alloc (.cells #[u] 22)).heap[g]? = some (.cells c t fz) ∧ t ≠ 36 := fun g e => by
    obtain ⟨c, fz, h1⟩ := ownsRow_kind (hr.alloc (.cells #[u] 22)) g e
    exact ⟨c, fz, _, h1, by decide⟩
  have hlow : Below w.heap.size w W' := (h.low.alloc h.low.size _).grown hg (by have := h.low.size; simp; omega) (fun k hk => (hr.lt k hk).1)
  refine ⟨⟨hlow, ?_, _, hr', fun x hx => ?_⟩, (hu.later hb).kept hg hty, fun L hL => om_kept (owns_later hL hb) hg hty⟩
  · have h1 := blk_later h.av hb
    refine (hg.block _ (blk_lt h1) (fun e => ?_)).trans h1
    obtain ⟨c, fz, h2⟩ := ownsRow_kind (hr.alloc (.cells #[u] 22)) _ e.symm
    rw [h1] at h2
    injection h2 with h2
    injection h2 with _ h2 _
    exact absurd h2 (by decide)
  · rcases List.mem_append.1 hx with hx | hx
    · exact ((hv x hx).later hb).kept hg hty
    · obtain rfl := List.mem_singleton.1 hx
      exact (hu.later hb).kept hg hty
def upM (k : Nat) : List Mk := (List.range k).map fun i : Nat => ((i : Int) + 1, 2)
theorem upM_len (k : Nat) : (upM k).length = k := by simp [upM]
theorem upM_succ (k : Nat) : upM (k + 1) = upM k ++ [((k : Int) + 1, 2)] := by unfold upM; rw [List.range_succ]; simp
theorem upM_ok {k : Nat} (h : k ≤ 11) : MOk (upM k) := by
  intro p hp
  obtain ⟨i, hi, rfl⟩ := List.mem_map.1 hp
  have := List.mem_range.1 hi
  have htop : top = 9223372036854775807 := rfl
  refine ⟨?_, ?_, ?_, ?_⟩ <;> dsimp only <;> omega
theorem mc_set1 : ∀ (l : List Mk) (i : Nat) (x : Int) (p : Mk), l[i]? = some p → (mc l).set (i * 2) (.int .i64 x) = mc (l.set i (x, p.2))
  | q :: t, 0, x, p, h => by simp at h; subst h; rfl
  | q :: t, i + 1, x, p, h => by
    have h' : t[i]? = some p := by simpa using h
    rw [show (i + 1) * 2 = i * 2 + 1 + 1 by omega]
    show _ :: _ :: (mc t).set (i * 2) _ = _
    rw [mc_set1 t i x p h']
    rfl
/-- The far name. -/
theorem far_end {w3 : World} {B g cf m : Nat} (hm : m ≤ 10) (h : OM w3 B (.slice (some ⟨g, 0, none⟩) (m + 1) cf) (upM (m + 1))) (j : Nat) (hj : j = m * 2) : Gd B (w3.setCell ⟨g, j, none⟩ (.int .i64 65536)) (.slice (some ⟨g, 0, none⟩) (m + 1) cf) := by
  subst hj
  unfold OM at h
  rw [upM_len] at h
  have h1 := (h.stored (m * 2) (.int .i64 65536)).1
  have hat : (upM (m + 1))[m]? = some ((m : Int) + 1, 2) := by unfold upM; rw [List.getElem?_map, List.getElem?_range (by omega)]; rfl
  rw [mc_set1 _ _ _ _ hat] at h1
  refine ⟨(upM (m + 1)).set m (65536, 2), ?_, ?_, ?_⟩
  · unfold OM; rw [List.length_set, upM_len]; exact h1
  · intro p hp
    rcases List.mem_or_eq_of_mem_set hp with hp | rfl
    · exact upM_ok (k := m + 1) (by omega) p hp
    · have htop : top = 9223372036854775807 := rfl
      refine ⟨?_, ?_, ?_, ?_⟩ <;> dsimp only <;> omega
  · rw [List.length_set, upM_len]; omega
end Go.Proofs.YtmebomifakmkbaaDoor
