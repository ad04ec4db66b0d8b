/-
  My own text: the lists of a message in memory, each with memory of its own.
-/
import Derived.Test.YtklhbhhkooddoaaQ5
namespace Go.Proofs.Ytklhbhhkooddoaa
open Go.RowKit

mutual
def LI (w : World) : Tr → Nat → Nat → List Value → Prop
  | .mk _ l, b, off, o => ∃ a cap os, w.cell? ⟨b, off + 4, none⟩ = some (.slice a l.length cap) ∧ o = .slice a l.length cap :: os ∧ ((l = [] ∧ os = []) ∨ ∃ g, a = some ⟨g, 0, none⟩ ∧ LR w l g 0 os)
def LR (w : World) : List Tr → Nat → Nat → List Value → Prop
  | [], _, _, os => os = []
  | x :: r, b, off, os => ∃ o1 o2, os = o1 ++ o2 ∧ LI w x b off o1 ∧ LR w r b (off + 5) o2
end
/-- All lists of a message, itself first. -/
def LT (w : World) (v : Value) (l : List Tr) (o : List Value) : Prop := ∃ a cap os, v = .slice a l.length cap ∧ o = .slice a l.length cap :: os ∧ ((l = [] ∧ os = []) ∨ ∃ g, a = some ⟨g, 0, none⟩ ∧ LR w l g 0 os)
theorem LI_iff {w : World} {a : Tr} {b off : Nat} {o : List Value} : LI w a b off o ↔ ∃ u, w.cell? ⟨b, off + 4, none⟩ = some u ∧ LT w u a.kids o := by
  obtain ⟨i, l⟩ := a
  unfold LI LT Tr.kids
  constructor
  · rintro ⟨a, cap, os, h1, h2, h3⟩
    exact ⟨_, h1, a, cap, os, rfl, h2, h3⟩
  · rintro ⟨u, h1, a, cap, os, rfl, h2, h3⟩
    exact ⟨a, cap, os, h1, h2, h3⟩
theorem LR_cons {w : World} {a : Tr} {r : List Tr} {b off : Nat} {os : List Value} : LR w (a :: r) b off os ↔ ∃ o1 o2, os = o1 ++ o2 ∧ LI w a b off o1 ∧ LR w r b (off + 5) o2 := by rw [LR]
theorem LR_nil {w : World} {b off : Nat} {os : List Value} : LR w [] b off os ↔ os = [] := by rw [LR]
/-- A list's block is one of S. -/
def OW (w : World) (S : Nat → Prop) (u : Value) : Prop := (∃ n xs, w.ownsRow 0 26 5 u n xs) ∧ ∀ x, u.ownBlock = some x → S x
def Nd (o : List Value) : Prop := (o.filterMap Value.ownBlock).Nodup
/-- A message in memory of its own, in blocks of S. -/
def AP (w : World) (S : Nat → Prop) (v : Value) (l : List Tr) : Prop := ∃ o, LT w v l o ∧ Nd o ∧ ∀ u ∈ o, OW w S u
def PA (w : World) (S : Nat → Prop) (v : Value) (l : List Tr) : Prop := PT w S v l ∧ AP w S v l
theorem PA.nil (w : World) (S : Nat → Prop) : PA w S (.slice none 0 0) [] :=
  ⟨⟨none, 0, rfl, .inl rfl⟩, [.slice none 0 0], ⟨none, 0, [], rfl, rfl, .inl ⟨rfl, rfl⟩⟩, List.nodup_nil, fun u hu => by
    rw [List.mem_singleton] at hu
    subst hu
    exact ⟨⟨0, [], World.ownsRow_nil _ _ _ _⟩, fun x hx => by simp [Value.ownBlock] at hx⟩⟩
theorem OW.kept {w w' : World} {S S' : Nat → Prop} {u : Value} (h : OW w S u) (hb : ∀ g, S g → g < w.heap.size → w'.heap[g]? = w.heap[g]?) (hS : ∀ g, S g → g < w.heap.size → S' g) : OW w' S' u := by
  obtain ⟨⟨n, xs, hO⟩, h2⟩ := h
  exact ⟨⟨n, xs, owns_blkq hO (fun g hg => hb g (h2 g hg) (own_ltq hO g hg).2)⟩, fun x hx => hS x (h2 x hx) (own_ltq hO x hx).2⟩
theorem LR_kept {w w' : World} {g : Nat} (hg : w'.heap[g]? = w.heap[g]?) : ∀ (l : List Tr) (off : Nat) (os : List Value), (∀ x ∈ l, ∀ (u : Value) (o : List Value), LT w u x.kids o → (∀ y ∈ o, ∀ g, y.ownBlock = some g → w'.heap[g]? = w.heap[g]?) → LT w' u x.kids o) →
    LR w l g off os → (∀ u ∈ os, ∀ g, u.ownBlock = some g → w'.heap[g]? = w.heap[g]?) → LR w' l g off os
  | [], _, _, _, h, _ => LR_nil.2 (LR_nil.1 h)
  | x :: r, off, os, hx, h, hk => by
    obtain ⟨o1, o2, e, h1, h2⟩ := LR_cons.1 h
    obtain ⟨u, hu1, hu2⟩ := LI_iff.1 h1
    refine LR_cons.2 ⟨o1, o2, e, LI_iff.2 ⟨u, ?_, hx x (List.mem_cons_self ..) u o1 hu2 (fun y hy => hk y (by rw [e]; exact List.mem_append.2 (.inl hy)))⟩, LR_kept hg r (off + 5) o2 (fun y hy => hx y (List.mem_cons_of_mem _ hy)) h2 (fun y hy => hk y (by rw [e]; exact List.mem_append.2 (.inr hy)))⟩
    rw [World.cell?_of_block (w := w) (w' := w') (a := ⟨g, off + 4, none⟩) hg]; exact hu1
theorem wts_mem {l : List Tr} {x : Tr} (h : x ∈ l) : wts x.kids < wts l := by
  obtain ⟨k, hk⟩ := List.getElem?_of_mem h
  have h1 := wts_at hk
  have h2 := wt_eq x
  omega
/-- The lists stand where their blocks stand. -/
theorem LT_kept {w w' : World} : ∀ (d : Nat) (l : List Tr) (v : Value) (o : List Value), wts l ≤ d → LT w v l o → (∀ u ∈ o, ∀ g, u.ownBlock = some g → w'.heap[g]? = w.heap[g]?) → LT w' v l o := by
  intro d
  induction d using Nat.strongRecOn with
  | ind d ih =>
    intro l v o hd h hk
    obtain ⟨a, cap, os, h1, h2, h3⟩ := h
    refine ⟨a, cap, os, h1, h2, ?_⟩
    rcases h3 with h3 | ⟨g, hg, h3⟩
    · exact .inl h3
    · refine .inr ⟨g, hg, LR_kept (hk (.slice a l.length cap) (by rw [h2]; exact List.mem_cons_self ..) g (by rw [hg]; rfl)) l 0 os (fun x hx u o' hu hy => ih (wts x.kids) (by have := wts_mem hx; omega) x.kids u o' (Nat.le_refl _) hu hy) h3 (fun u hu => hk u (by rw [h2]; exact List.mem_cons_of_mem _ hu))⟩
theorem PA_kept {w w' : World} {S S' : Nat → Prop} (hb : ∀ g, S g → g < w.heap.size → w'.heap[g]? = w.heap[g]?) (hs : w.heap.size ≤ w'.heap.size) (hS : ∀ g, S g → g < w.heap.size → S' g) (d : Nat) (l : List Tr) (v : Value) (hd : wts l ≤ d) (h : PA w S v l) : PA w' S' v l := by
  obtain ⟨h1, o, h2, h3, h4⟩ := h
  refine ⟨PT_kept hb hs hS d l v hd h1, o, LT_kept d l v o hd h2 (fun u hu g hg => ?_), h3, fun u hu => (h4 u hu).kept hb hS⟩
  obtain ⟨⟨n, xs, hO⟩, h5⟩ := h4 u hu
  exact hb g (h5 g hg) (own_ltq hO g hg).2
end Go.Proofs.Ytklhbhhkooddoaa
