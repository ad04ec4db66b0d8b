/-
  My own text: rows of numbers in memory (printed by mkrowI.py).
-/
import Derived.Test.YtmojckejjjlkjabG0
import Derived.Deep.OwnRows
namespace Go.Proofs.Ytmojckejjjlkjab.LN
open Go.RowKit Go.Extern

theorem Try.infoB : (Try.prog.info? 2).map (fun i => (i.zero, i.size, i.bytes)) = some (some (.int .i64 0), 1, 8) := by kernel_rfl

/-- Bytes as cells. -/
def mc (l : List Int) : List Value := l.map fun c => Value.int .i64 c
theorem mc_len (l : List Int) : (mc l).length = l.length := by simp [mc]
theorem mc_app (l m : List Int) : mc (l ++ m) = mc l ++ mc m := by simp [mc]
theorem mc_at {l : List Int} {j : Nat} {c : Int} (h : l[j]? = some c) : (mc l)[j]? = some (.int .i64 c) := by
  unfold mc; rw [List.getElem?_map, h]; rfl
theorem mc_one (l : List Int) : ∀ u ∈ mc l, u.oneCell' = true := by
  intro u hu; unfold mc at hu; rw [List.mem_map] at hu; obtain ⟨c, _, rfl⟩ := hu; rfl

/-- A slice value that reads as these bytes; they lie in block g. -/
def RG (w : World) (g : Nat) (v : Value) (l : List Int) : Prop :=
  ∃ a cap, v = .slice a l.length cap ∧ l.length ≤ cap ∧ (l = [] ∨ ∃ off, a = some ⟨g, off, none⟩ ∧ g < w.heap.size ∧ ∀ j c, l[j]? = some c → w.cell? ⟨g, off + j, none⟩ = some (.int .i64 c))
/-- A slice value that reads as these bytes. -/
def RB (w : World) (v : Value) (l : List Int) : Prop := ∃ g, RG w g v l
theorem RG.keep {w w1 : World} {g : Nat} {v : Value} {l : List Int} (h : RG w g v l) (hs : w.heap.size ≤ w1.heap.size) (hb : l ≠ [] → g < w.heap.size → w1.heap[g]? = w.heap[g]?) : RG w1 g v l := by
  by_cases hn : l = []
  · obtain ⟨a, cap, hv, hc0, _⟩ := h
    exact ⟨a, cap, hv, hc0, .inl hn⟩
  obtain ⟨a, cap, rfl, hc0, h | ⟨off, rfl, hlt, hc⟩⟩ := h
  · exact ⟨a, cap, rfl, hc0, .inl h⟩
  · exact ⟨_, cap, rfl, hc0, .inr ⟨off, rfl, Nat.lt_of_lt_of_le hlt hs, fun j x hx => (World.cell?_of_block (hb hn hlt)).trans (hc j x hx)⟩⟩
theorem RG.later {w w1 : World} {g : Nat} {v : Value} {l : List Int} (h : RG w g v l) (hb : Below w.heap.size w w1) : RG w1 g v l := h.keep hb.size (fun _ => hb.block g)
theorem RB.later {w w1 : World} {v : Value} {l : List Int} (h : RB w v l) (hb : Below w.heap.size w w1) : RB w1 v l := by
  obtain ⟨g, h⟩ := h
  exact ⟨g, h.later hb⟩
theorem some_at {l : List Int} {k : Nat} (h : k < l.length) : ∃ x, l[k]? = some x := ⟨l[k], List.getElem?_eq_getElem h⟩

/-- A slice that is owned from block B on. -/
def OM (w : World) (B : Nat) (v : Value) (l : List Int) : Prop := w.ownsRow B 2 1 v l.length (mc l)
theorem OM.nil (w : World) (B : Nat) : OM w B (.slice none 0 0) [] := World.ownsRow_nil w B 2 1
theorem OM.rg {w : World} {B : Nat} {v : Value} {l : List Int} (h : OM w B v l) : ∃ g, RG w g v l ∧ (l ≠ [] → v.ownBlock = some g) := by
  rcases h.2 with ⟨rfl, h0⟩ | ⟨g, cap, cur, rfl, hb, hh, hn2, _⟩
  · have : l = [] := List.length_eq_zero_iff.1 h0
    subst this
    exact ⟨0, ⟨none, 0, rfl, Nat.le_refl _, .inl rfl⟩, fun h => absurd rfl h⟩
  · refine ⟨g, ⟨_, cap, rfl, hn2, .inr ⟨0, rfl, (Array.getElem?_eq_some_iff.1 hh).1, fun j x hx => ?_⟩⟩, fun _ => rfl⟩
    have hj : j < l.length := (List.getElem?_eq_some_iff.1 hx).1
    rw [Nat.zero_add, World.ownsRow.cellAt h j (by omega)]
    exact mc_at hx
theorem OM.rb {w : World} {B : Nat} {v : Value} {l : List Int} (h : OM w B v l) : RB w v l := by
  obtain ⟨g, hg, _⟩ := h.rg
  exact ⟨g, hg⟩
theorem OM.later {w w' : World} {B : Nat} {v : Value} {l : List Int} (h : OM w B v l) (hb : Below w.heap.size w w') : OM w' B v l := by
  refine ⟨h.1, ?_⟩
  rcases h.2 with h2 | ⟨g, cap, cur, hv, hg, hh, h3⟩
  · exact .inl h2
  · exact .inr ⟨g, cap, cur, hv, hg, (hb.block g (Array.getElem?_eq_some_iff.1 hh).1).trans hh, h3⟩
theorem OM.slice {w : World} {B : Nat} {v : Value} {l : List Int} (h : OM w B v l) : ∃ ad cap, v = .slice ad l.length cap := by
  rcases h.2 with ⟨rfl, h0⟩ | ⟨g, cap, cur, rfl, _⟩
  · exact ⟨none, 0, by rw [h0]⟩
  · exact ⟨_, cap, rfl⟩
theorem OM.base {w : World} {B B' : Nat} {v : Value} {l : List Int} (h : OM w B v l) (hB : ∀ g, v.ownBlock = some g → B' ≤ g) : OM w B' v l := by
  refine ⟨h.1, ?_⟩
  rcases h.2 with h2 | ⟨g, cap, cur, hv, hg, hh, h3⟩
  · exact .inl h2
  · exact .inr ⟨g, cap, cur, hv, hB g (by rw [hv]; rfl), hh, h3⟩
theorem OM.kind {w : World} {B : Nat} {v : Value} {l : List Int} (h : OM w B v l) : ∀ g, v.ownBlock = some g → ∃ c fz, w.heap[g]? = some (.cells c 2 fz) := by
  intro g hg
  rcases h.2 with ⟨rfl, _⟩ | ⟨g', cap, cur, rfl, hb, hh, h3⟩
  · cases hg
  · cases hg; exact ⟨cur, (0, 0), hh⟩

abbrev El := Int
abbrev RM := RB
theorem OM.rm {w : World} {B : Nat} {v : Value} {l : List Int} (h : OM w B v l) : RM w v l := h.rb
theorem rm_lt {w : World} {v : Value} {L : List Int} (h : RM w v L) : ∃ a cap, v = .slice a L.length cap := by
  obtain ⟨g, a, cap, hv, _⟩ := h
  exact ⟨a, cap, hv⟩
theorem RM.nil (w : World) : RM w (.slice none 0 0) [] := ⟨0, none, 0, rfl, Nat.le_refl _, .inl rfl⟩
end Go.Proofs.Ytmojckejjjlkjab.LN
