/-
  My own text: the items read so far; one more line of a field.
-/
import Derived.Test.YtklhbhhkooddoaaQ5
import Derived.Test.YtklhbhhkooddoaaQT
namespace Go.Proofs.Ytklhbhhkooddoaa
open Go.RowKit

def SQ (B : Nat) (w : World) (v : Value) (g : Nat) : Prop := B ≤ g ∧ g < w.heap.size ∧ v.ownBlock ≠ some g
/-- The items read so far, a row of the call's own. -/
structure IW (w : World) (B : Nat) (v : Value) (l : List Tr) (V : List Value) : Prop where
  len : V.length = l.length
  row : w.ownsRow B 26 5 v l.length (ic l V)
  kids : ∀ (j : Nat) (a : Tr) (u : Value), l[j]? = some a → V[j]? = some u → PT w (SQ B w v) u a.kids
theorem IW.nil (w : World) (B : Nat) : IW w B (.slice none 0 0) [] [] := ⟨rfl, World.ownsRow_nil _ _ _ _, fun j a u h _ => by simp at h⟩
theorem IW.move {w w' : World} {B : Nat} {v : Value} {l : List Tr} {V : List Value} (h : IW w B v l V) (hs : w.heap.size ≤ w'.heap.size) (hb : ∀ g, B ≤ g → g < w.heap.size → w'.heap[g]? = w.heap[g]?) : IW w' B v l V :=
  ⟨h.len, owns_blkq h.row (fun g hg => hb g (own_ltq h.row g hg).1 (own_ltq h.row g hg).2), fun j a u h1 h2 => PT_kept (fun g hg hg2 => hb g hg.1 hg2) hs (fun _ hg _ => ⟨hg.1, Nat.lt_of_lt_of_le hg.2.1 hs, hg.2.2⟩) _ _ _ (Nat.le_refl _) (h.kids j a u h1 h2)⟩
theorem IW.later {w w' : World} {B : Nat} {v : Value} {l : List Tr} {V : List Value} (h : IW w B v l V) (hb : Below w.heap.size w w') : IW w' B v l V := h.move hb.size (fun g _ hg => hb.block g hg)
theorem IW.mv {w w' : World} {B p q : Nat} {v : Value} {l : List Tr} {V : List Value} (h : IW w B v l V) (hm : Mv p q w w') (hp : p < B) (hq : q < B) : IW w' B v l V := h.move hm.size (fun g hB hg => hm.block g hg (by omega) (by omega))
theorem IW.snoc {w w1 : World} {B lo : Nat} {v v' u : Value} {l : List Tr} {V : List Value} {a : Tr} (h : IW w B v l V) (hO : w1.ownsRow B 26 5 v' (l.length + 1) (ic l V ++ (iC a.itm u).toList)) (hg : ∀ x, x < w.heap.size → v.ownBlock ≠ some x → w1.heap[x]? = w.heap[x]?) (hs : w.heap.size ≤ w1.heap.size) (hr : ∀ x, v'.ownBlock = some x → v.ownBlock = some x ∨ w.heap.size ≤ x)
    (hlo : B ≤ lo) (hv : ∀ x, v.ownBlock = some x → x < lo) (hu : PT w (fun x => lo ≤ x ∧ x < w.heap.size) u a.kids) : IW w1 B v' (l ++ [a]) (V ++ [u]) := by
  have new : ∀ x, B ≤ x → x < w.heap.size → v.ownBlock ≠ some x → SQ B w1 v' x := fun x h1 h2 h3 => ⟨h1, by omega, fun e => by
    rcases hr x e with h | h
    · exact h3 h
    · omega⟩
  refine ⟨by simp [h.len], ?_, ?_⟩
  · rw [ic_snoc _ _ _ _ h.len.symm, List.length_append]; exact hO
  · intro j b x h1 h2
    by_cases hj : j < l.length
    · rw [List.getElem?_append_left hj] at h1
      rw [List.getElem?_append_left (by rw [h.len]; exact hj)] at h2
      exact PT_kept (fun g hg' hg2 => hg g hg2 hg'.2.2) hs (fun g hg' hg2 => new g hg'.1 hg2 hg'.2.2) _ _ _ (Nat.le_refl _) (h.kids j b x h1 h2)
    · rw [List.getElem?_append_right (by omega)] at h1
      rw [List.getElem?_append_right (by rw [h.len]; omega)] at h2
      have hj0 : j - l.length = 0 := by have := (List.getElem?_eq_some_iff.1 h1).1; simp at this; omega
      rw [hj0] at h1; rw [h.len, hj0] at h2
      simp at h1 h2; subst h1; subst h2
      exact PT_kept (fun g hg' hg2 => hg g hg2 (fun e => by have := hv g e; omega)) hs (fun g hg' hg2 => new g (by omega) hg2 (fun e => by have := hv g e; omega)) _ _ _ (Nat.le_refl _) hu
/-- What a reading ends with. -/
theorem IW.done {w : World} {B : Nat} {v : Value} {l : List Tr} {V : List Value} (h : IW w B v l V) : PT w (fun x => B ≤ x ∧ x < w.heap.size) v l := by
  rcases h.row.2 with ⟨rfl, h0⟩ | ⟨g, cap, cur, rfl, hb, hh, _⟩
  · have : l = [] := List.length_eq_zero_iff.1 h0
    subst this
    exact ⟨none, 0, rfl, .inl rfl⟩
  · have hlt := (Array.getElem?_eq_some_iff.1 hh).1
    refine ⟨_, _, rfl, .inr ⟨g, 0, rfl, hlt, ⟨hb, hlt⟩, PR_mk (fun k a hk => ?_)⟩⟩
    have hc : ∀ j u, (ic l V)[j]? = some u → w.cell? ⟨g, j, none⟩ = some u := fun j u hj => by
      have := World.ownsRow.cells h.row rfl j u hj
      rw [Addr.add_lit, Nat.zero_add] at this; exact this
    have hkl := (List.getElem?_eq_some_iff.1 hk).1
    obtain ⟨u, hu⟩ : ∃ u, V[k]? = some u := ⟨_, List.getElem?_eq_getElem (by rw [h.len]; exact hkl)⟩
    obtain ⟨e0, e1, e2, e3, e4⟩ := ic_at l V k a u hk hu
    rw [Nat.zero_add]
    exact PI_iff.2 ⟨hc _ _ e0, hc _ _ e1, hc _ _ e2, hc _ _ e3, u, hc _ _ e4, PT_kept (fun _ _ _ => rfl) (Nat.le_refl _) (fun x hx _ => ⟨hx.1, hx.2.1⟩) _ _ _ (Nat.le_refl _) (h.kids k a u hk hu)⟩
end Go.Proofs.Ytklhbhhkooddoaa
