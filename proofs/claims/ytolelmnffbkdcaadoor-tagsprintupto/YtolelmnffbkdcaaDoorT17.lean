/-
  My own text: messages lent with marks behind their items, in memory.
-/
import Derived.Test.YtolelmnffbkdcaaDoorT16
import Derived.Deep.DeepAppendWide
namespace Go.Proofs.YtolelmnffbkdcaaDoor
open Go.RowKit

def fullS : List UInt8 := [35, 102, 117, 108, 108]
def endS : List UInt8 := [35, 101, 110, 100]
mutual
/-- The k-th of n items, its marks behind them, all of them in blocks of S. -/
def FI (w : World) (S : Nat → Prop) : Tr → Nat → Nat → Nat → Prop
  | .mk i l, g, k, n => ∃ ga ca, w.cell? ⟨g, k * 5, none⟩ = some (.string ⟨i.tag.toArray⟩) ∧ w.cell? ⟨g, k * 5 + 1, none⟩ = some (.string ⟨i.qual.toArray⟩) ∧ w.cell? ⟨g, k * 5 + 2, none⟩ = some (.string ⟨i.text.toArray⟩) ∧ w.cell? ⟨g, k * 5 + 3, none⟩ = some (.string ⟨i.name.toArray⟩) ∧ w.cell? ⟨g, k * 5 + 4, none⟩ = some (.slice (some ⟨ga, 0, none⟩) l.length ca) ∧ w.cell? ⟨g, (n + k) * 5, none⟩ = some (.string ⟨fullS.toArray⟩) ∧ w.cell? ⟨g, (n + k) * 5 + 4, none⟩ = some (.slice (some ⟨ga, 0, none⟩) (2 * l.length + 1) ca) ∧ (2 * l.length + 1 ≤ ca ∧ S ga ∧ ga < w.heap.size ∧ w.cell? ⟨ga, 2 * l.length * 5, none⟩ = some (.string ⟨endS.toArray⟩) ∧ FL w S l ga 0 l.length)
def FL (w : World) (S : Nat → Prop) : List Tr → Nat → Nat → Nat → Prop
  | [], _, _, _ => True
  | a :: r, g, k, n => FI w S a g k n ∧ FL w S r g (k + 1) n
end
/-- A list of items with marks behind. -/
def FU (w : World) (S : Nat → Prop) (g c : Nat) (l : List Tr) : Prop := 2 * l.length + 1 ≤ c ∧ S g ∧ g < w.heap.size ∧ w.cell? ⟨g, 2 * l.length * 5, none⟩ = some (.string ⟨endS.toArray⟩) ∧ FL w S l g 0 l.length
theorem FI_iff {w : World} {S : Nat → Prop} {a : Tr} {g k n : Nat} : FI w S a g k n ↔ ∃ ga ca, w.cell? ⟨g, k * 5, none⟩ = some (.string ⟨a.itm.tag.toArray⟩) ∧ w.cell? ⟨g, k * 5 + 1, none⟩ = some (.string ⟨a.itm.qual.toArray⟩) ∧ w.cell? ⟨g, k * 5 + 2, none⟩ = some (.string ⟨a.itm.text.toArray⟩) ∧ w.cell? ⟨g, k * 5 + 3, none⟩ = some (.string ⟨a.itm.name.toArray⟩) ∧ w.cell? ⟨g, k * 5 + 4, none⟩ = some (.slice (some ⟨ga, 0, none⟩) a.kids.length ca) ∧ w.cell? ⟨g, (n + k) * 5, none⟩ = some (.string ⟨fullS.toArray⟩) ∧ w.cell? ⟨g, (n + k) * 5 + 4, none⟩ = some (.slice (some ⟨ga, 0, none⟩) (2 * a.kids.length + 1) ca) ∧ FU w S ga ca a.kids := by
  obtain ⟨i, l⟩ := a
  unfold FI FU Tr.itm Tr.kids
  exact Iff.rfl
theorem FL_cons {w : World} {S : Nat → Prop} {a : Tr} {r : List Tr} {g k n : Nat} : FL w S (a :: r) g k n ↔ FI w S a g k n ∧ FL w S r g (k + 1) n := by rw [FL]
theorem FL_at {w : World} {S : Nat → Prop} : ∀ {l : List Tr} {g k n j : Nat} {a : Tr}, FL w S l g k n → l[j]? = some a → FI w S a g (k + j) n
  | c :: r, g, k, n, 0, a, h, hj => by simp at hj; subst hj; exact (FL_cons.1 h).1
  | c :: r, g, k, n, j + 1, a, h, hj => by
    have := FL_at (FL_cons.1 h).2 (j := j) (a := a) (by simpa using hj)
    rw [show k + (j + 1) = k + 1 + j by omega]; exact this
theorem FL_mk {w : World} {S : Nat → Prop} : ∀ {l : List Tr} {g k n : Nat}, (∀ j a, l[j]? = some a → FI w S a g (k + j) n) → FL w S l g k n
  | [], g, k, n, _ => by rw [FL]; trivial
  | c :: r, g, k, n, h => FL_cons.2 ⟨by have := h 0 c rfl; simpa using this, FL_mk (fun j a hj => by
      have := h (j + 1) a (by simpa using hj)
      rw [show k + (j + 1) = k + 1 + j by omega] at this; exact this)⟩
theorem FU_kept {w w' : World} {S S' : Nat → Prop} (hb : ∀ g, S g → g < w.heap.size → w'.heap[g]? = w.heap[g]?) (hs : w.heap.size ≤ w'.heap.size) (hS : ∀ g, S g → g < w.heap.size → S' g) : ∀ (d : Nat) (l : List Tr) (g c : Nat), wts l ≤ d → FU w S g c l → FU w' S' g c l := by
  have hc : ∀ {b o : Nat} {v : Value}, S b → b < w.heap.size → w.cell? ⟨b, o, none⟩ = some v → w'.cell? ⟨b, o, none⟩ = some v := by
    intro b o v h1 h2 h
    rw [← h]; unfold World.cell?; rw [hb b h1 h2]
  intro d
  induction d using Nat.strongRecOn with
  | ind d ih =>
    intro l g c hd h
    obtain ⟨h1, h2, h3, h4, h5⟩ := h
    refine ⟨h1, hS g h2 h3, Nat.lt_of_lt_of_le h3 hs, hc h2 h3 h4, FL_mk (fun j a hj => ?_)⟩
    obtain ⟨ga, ca, e0, e1, e2, e3, e4, e5, e6, e7⟩ := FI_iff.1 (FL_at h5 hj)
    have hw := wts_at hj
    have he := wt_eq a
    exact FI_iff.2 ⟨ga, ca, hc h2 h3 e0, hc h2 h3 e1, hc h2 h3 e2, hc h2 h3 e3, hc h2 h3 e4, hc h2 h3 e5, hc h2 h3 e6, ih (wts a.kids) (by omega) a.kids ga ca (Nat.le_refl _) e7⟩
theorem FU_rt {w : World} {S : Nat → Prop} : ∀ (d : Nat) (l : List Tr) (g c : Nat), wts l ≤ d → FU w S g c l → RT w (.slice (some ⟨g, 0, none⟩) l.length c) l := by
  intro d
  induction d using Nat.strongRecOn with
  | ind d ih =>
    intro l g c hd h
    obtain ⟨_, _, h3, _, h5⟩ := h
    refine ⟨_, _, rfl, .inr ⟨g, 0, rfl, h3, RR_mk (fun j a hj => ?_)⟩⟩
    obtain ⟨ga, ca, e0, e1, e2, e3, e4, _, _, e7⟩ := FI_iff.1 (FL_at h5 hj)
    have hw := wts_at hj
    have he := wt_eq a
    rw [Nat.zero_add] at e0 e1 e2 e3 e4
    rw [Nat.zero_add]
    exact RI_iff.2 ⟨e0, e1, e2, e3, _, e4, ih (wts a.kids) (by omega) a.kids ga ca (Nat.le_refl _) e7⟩
/-- The cells of items whose lists lie at these places. -/
def oc : List Tr → List (Nat × Nat) → List Value
  | a :: r, (g, c) :: q => .string ⟨a.itm.tag.toArray⟩ :: .string ⟨a.itm.qual.toArray⟩ :: .string ⟨a.itm.text.toArray⟩ :: .string ⟨a.itm.name.toArray⟩ :: .slice (some ⟨g, 0, none⟩) a.kids.length c :: oc r q
  | _, _ => []
/-- The cells of the marks behind them. -/
def fc : List Tr → List (Nat × Nat) → List Value
  | a :: r, (g, c) :: q => .string ⟨fullS.toArray⟩ :: .string ⟨#[]⟩ :: .string ⟨#[]⟩ :: .string ⟨#[]⟩ :: .slice (some ⟨g, 0, none⟩) (2 * a.kids.length + 1) c :: fc r q
  | _, _ => []
theorem oc_snoc : ∀ (l : List Tr) (G : List (Nat × Nat)) (a : Tr) (g c : Nat), l.length = G.length → oc (l ++ [a]) (G ++ [(g, c)]) = oc l G ++ [.string ⟨a.itm.tag.toArray⟩, .string ⟨a.itm.qual.toArray⟩, .string ⟨a.itm.text.toArray⟩, .string ⟨a.itm.name.toArray⟩, .slice (some ⟨g, 0, none⟩) a.kids.length c]
  | [], [], a, g, c, _ => by simp [oc]
  | b :: r, (g', c') :: q, a, g, c, h => by
    have := oc_snoc r q a g c (by simpa using h)
    simp only [List.cons_append, oc, this]
theorem fc_snoc : ∀ (l : List Tr) (G : List (Nat × Nat)) (a : Tr) (g c : Nat), l.length = G.length → fc (l ++ [a]) (G ++ [(g, c)]) = fc l G ++ [.string ⟨fullS.toArray⟩, .string ⟨#[]⟩, .string ⟨#[]⟩, .string ⟨#[]⟩, .slice (some ⟨g, 0, none⟩) (2 * a.kids.length + 1) c]
  | [], [], a, g, c, _ => by simp [fc]
  | b :: r, (g', c') :: q, a, g, c, h => by
    have := fc_snoc r q a g c (by simpa using h)
    simp only [List.cons_append, fc, this]
theorem oc_len : ∀ (l : List Tr) (G : List (Nat × Nat)), l.length = G.length → (oc l G).length = l.length * 5
  | [], [], _ => by simp [oc]
  | b :: r, (g', c') :: q, h => by
    have := oc_len r q (by simpa using h)
    simp only [oc, List.length_cons, this]; omega
theorem fc_len : ∀ (l : List Tr) (G : List (Nat × Nat)), l.length = G.length → (fc l G).length = l.length * 5
  | [], [], _ => by simp [fc]
  | b :: r, (g', c') :: q, h => by
    have := fc_len r q (by simpa using h)
    simp only [fc, List.length_cons, this]; omega
theorem oc_at : ∀ (l : List Tr) (G : List (Nat × Nat)) (k : Nat) (a : Tr) (g c : Nat), l[k]? = some a → G[k]? = some (g, c) → (oc l G)[k * 5]? = some (.string ⟨a.itm.tag.toArray⟩) ∧ (oc l G)[k * 5 + 1]? = some (.string ⟨a.itm.qual.toArray⟩) ∧ (oc l G)[k * 5 + 2]? = some (.string ⟨a.itm.text.toArray⟩) ∧ (oc l G)[k * 5 + 3]? = some (.string ⟨a.itm.name.toArray⟩) ∧ (oc l G)[k * 5 + 4]? = some (.slice (some ⟨g, 0, none⟩) a.kids.length c)
  | b :: r, (g', c') :: q, 0, a, g, c, h1, h2 => by
    simp at h1 h2; obtain ⟨rfl, rfl⟩ := h2; subst h1; exact ⟨rfl, rfl, rfl, rfl, rfl⟩
  | b :: r, (g', c') :: q, k + 1, a, g, c, h1, h2 => by
    have := oc_at r q k a g c (by simpa using h1) (by simpa using h2)
    rw [show (k + 1) * 5 = k * 5 + 1 + 1 + 1 + 1 + 1 by omega]
    exact this
theorem fc_at : ∀ (l : List Tr) (G : List (Nat × Nat)) (k : Nat) (a : Tr) (g c : Nat), l[k]? = some a → G[k]? = some (g, c) → (fc l G)[k * 5]? = some (.string ⟨fullS.toArray⟩) ∧ (fc l G)[k * 5 + 4]? = some (.slice (some ⟨g, 0, none⟩) (2 * a.kids.length + 1) c)
  | b :: r, (g', c') :: q, 0, a, g, c, h1, h2 => by
    simp at h1 h2; obtain ⟨rfl, rfl⟩ := h2; subst h1; exact ⟨rfl, rfl⟩
  | b :: r, (g', c') :: q, k + 1, a, g, c, h1, h2 => by
    have := fc_at r q k a g c (by simpa using h1) (by simpa using h2)
    rw [show (k + 1) * 5 = k * 5 + 1 + 1 + 1 + 1 + 1 by omega]
    exact this
end Go.Proofs.YtolelmnffbkdcaaDoor
