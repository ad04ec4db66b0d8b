/-
  My own text: items that are being read, in memory.
-/
import Derived.Test.YtklhbhhkooddoaaQ4
import Derived.Deep.DeepAppendRoom
import Derived.ArgAppend
import Derived.Deep.Onto
namespace Go.Proofs.Ytklhbhhkooddoaa
open Go.RowKit

theorem Try.infoItmq : (Try.prog.info? 26).map (fun i => (i.zero, i.size, i.bytes)) = some (some (.agg #[.string ⟨#[]⟩, .string ⟨#[]⟩, .string ⟨#[]⟩, .string ⟨#[]⟩, .slice none 0 0]), 5, 88) := by kernel_rfl
theorem zItmq : (Value.agg #[.string ⟨#[]⟩, .string ⟨#[]⟩, .string ⟨#[]⟩, .string ⟨#[]⟩, .slice none 0 0]).cells.size = 5 := rfl
theorem owns_blkq {B : Nat} {e : TypeId} {k : Nat} {v : Value} {n : Nat} {xs : List Value} {w w' : World} (h : w.ownsRow B e k v n xs) (hb : ∀ g, v.ownBlock = some g → w'.heap[g]? = w.heap[g]?) : w'.ownsRow B e k v n xs := by
  refine ⟨h.1, ?_⟩
  rcases h.2 with h2 | ⟨g, cap, cur, hv, hg, hh, h3⟩
  · exact .inl h2
  · exact .inr ⟨g, cap, cur, hv, hg, (hb g (by rw [hv]; rfl)).trans hh, h3⟩
theorem own_ltq {w : World} {B : Nat} {e : TypeId} {s : Nat} {v : Value} {n : Nat} {xs : List Value} (h : w.ownsRow B e s v n xs) : ∀ g, v.ownBlock = some g → B ≤ g ∧ g < w.heap.size := by
  intro g hg
  rcases h.2 with ⟨rfl, _⟩ | ⟨g', cap, cur, rfl, h1, hh, _⟩
  · simp [Value.ownBlock] at hg
  · simp [Value.ownBlock] at hg; subst hg; exact ⟨h1, (Array.getElem?_eq_some_iff.1 hh).1⟩
/-- Items behind an own row: the row lies where it lay, or in new memory. -/
theorem wp_append_itm {w : World} {ops : Array Oper} {rest : List Oper} {o : Oper} {a : Act} {Q : Exit → Act → World → Prop} (hgd : o.guard = none) (s x : Operand)
    (ho : o.op = .call { callee := .builtin .append, args := #[s, x], argTypes := #[22, 22] }) (B : Nat) (v : Value) (n : Nat) (xs : List Value) (hs : a.eval s = v) (hown : w.ownsRow B 26 5 v n xs)
    (b m c : Nat) (news : List Value) (hx : a.eval x = .slice (some ⟨b, 0, none⟩) m c) (hl : news.length = m * 5) (hm : 0 < m) (hnews : ∀ j u, news[j]? = some u → w.cell? ((⟨b, 0, none⟩ : Addr).add j) = some u) (h1 : ∀ u ∈ news, u.oneCell' = true) (hB : B ≤ w.heap.size) (hsz : n + m ≤ 1099511627776)
    (h : ∀ v' w', w'.ownsRow B 26 5 v' (n + m) (xs ++ news) → w.grownBy w' v.ownBlock → (∀ g, v'.ownBlock = some g → v.ownBlock = some g ∨ w.heap.size ≤ g) → wpList Try.prog ops Q rest (a.put o.dst v') w') : wpList Try.prog ops Q (o :: rest) a w := by
  obtain ⟨i0, hi, hz0, hz1, hz2⟩ := info_parts Try.infoItmq
  have hfull : ∀ (ao : Option Addr) (cap : Nat), v = .slice ao n cap → (ao = none → n = 0 ∧ cap = 0) → (∀ q, ao = some q → ∀ j u, xs[j]? = some u → w.cell? (q.add j) = some u) → cap < n + m → wpList Try.prog ops Q (o :: rest) a w := by
    intro ao cap hv hno hold hf
    refine wpList_append_grows w hgd s x 22 ho 26 i0 _ 5 88 Try.underlying22 hi hz0 hz1 hz2 zItmq (by decide) ao n cap xs (hs.trans hv) hno hown.1 hold ⟨b, 0, none⟩ m c news hx hl hnews h1 hf (by unfold maxLen; omega) (by omega) ?_
    intro v' w' hown' hg
    refine h v' w' (World.ownsRow.mono hown' hB) ⟨hg.os, hg.tape, hg.output, hg.size, fun k hk _ => hg.block k hk (by intro e; cases e)⟩ (fun g hg' => .inr (own_ltq hown' g hg').1)
  rcases hown.2 with ⟨hv, h0⟩ | ⟨g, cap, cur, hv, hb, hh, hn2, hn3⟩
  · refine hfull none 0 (by rw [hv, h0]) (fun _ => ⟨h0, rfl⟩) (fun q hq => by cases hq) (by omega)
  · by_cases hroom : n + m ≤ cap
    · have hown2 := hown
      rw [hv] at hown2
      refine wpList_append_own_spare w hgd s x 22 ho B 26 i0 5 Try.underlying22 hi hz1 g n cap xs (hs.trans hv) hown2 ⟨b, 0, none⟩ m c news hx hl hnews h1 hroom ?_
      intro w' hown' hg
      exact h _ w' hown' (by rw [hv]; exact hg) (fun g' hg' => .inl (by rw [hv]; exact hg'))
    · refine hfull (some ⟨g, 0, none⟩) cap hv (fun hq => by cases hq) (fun q hq => ?_) (by omega)
      cases hq
      exact World.ownsRow.cells hown (by rw [hv]; rfl)
mutual
/-- An item in memory, what it holds in blocks of S. -/
def PI (w : World) (S : Nat → Prop) : Tr → Nat → Nat → Prop
  | .mk i l, b, off => w.cell? ⟨b, off, none⟩ = some (.string ⟨i.tag.toArray⟩) ∧ w.cell? ⟨b, off + 1, none⟩ = some (.string ⟨i.qual.toArray⟩) ∧ w.cell? ⟨b, off + 2, none⟩ = some (.string ⟨i.text.toArray⟩) ∧ w.cell? ⟨b, off + 3, none⟩ = some (.string ⟨i.name.toArray⟩) ∧ ∃ a cap, w.cell? ⟨b, off + 4, none⟩ = some (.slice a l.length cap) ∧ (l = [] ∨ ∃ b' off', a = some ⟨b', off', none⟩ ∧ b' < w.heap.size ∧ S b' ∧ PR w S l b' off')
def PR (w : World) (S : Nat → Prop) : List Tr → Nat → Nat → Prop
  | [], _, _ => True
  | a :: r, b, off => PI w S a b off ∧ PR w S r b (off + 5)
end
/-- A list of items in memory, all of it in blocks of S. -/
def PT (w : World) (S : Nat → Prop) (v : Value) (l : List Tr) : Prop := ∃ a cap, v = .slice a l.length cap ∧ (l = [] ∨ ∃ b off, a = some ⟨b, off, none⟩ ∧ b < w.heap.size ∧ S b ∧ PR w S l b off)
theorem PI_iff {w : World} {S : Nat → Prop} {a : Tr} {b off : Nat} : PI w S a b off ↔ w.cell? ⟨b, off, none⟩ = some (.string ⟨a.itm.tag.toArray⟩) ∧ w.cell? ⟨b, off + 1, none⟩ = some (.string ⟨a.itm.qual.toArray⟩) ∧ w.cell? ⟨b, off + 2, none⟩ = some (.string ⟨a.itm.text.toArray⟩) ∧ w.cell? ⟨b, off + 3, none⟩ = some (.string ⟨a.itm.name.toArray⟩) ∧ ∃ v, w.cell? ⟨b, off + 4, none⟩ = some v ∧ PT w S v a.kids := by
  obtain ⟨i, l⟩ := a
  unfold PI PT Tr.itm Tr.kids
  constructor
  · rintro ⟨h1, h2, h3, h4, a, cap, h5, h6⟩
    exact ⟨h1, h2, h3, h4, _, h5, a, cap, rfl, h6⟩
  · rintro ⟨h1, h2, h3, h4, v, h5, a, cap, rfl, h6⟩
    exact ⟨h1, h2, h3, h4, a, cap, h5, h6⟩
theorem PR_cons {w : World} {S : Nat → Prop} {a : Tr} {r : List Tr} {b off : Nat} : PR w S (a :: r) b off ↔ PI w S a b off ∧ PR w S r b (off + 5) := by rw [PR]
theorem PR_at {w : World} {S : Nat → Prop} : ∀ {l : List Tr} {b off k : Nat} {a : Tr}, PR w S l b off → l[k]? = some a → PI w S a b (off + k * 5)
  | c :: r, b, off, 0, a, h, hk => by simp at hk; subst hk; exact (PR_cons.1 h).1
  | c :: r, b, off, k + 1, a, h, hk => by
    have := PR_at (PR_cons.1 h).2 (k := k) (a := a) (by simpa using hk)
    rw [show off + (k + 1) * 5 = off + 5 + k * 5 by omega]; exact this
theorem PR_mk {w : World} {S : Nat → Prop} : ∀ {l : List Tr} {b off : Nat}, (∀ k a, l[k]? = some a → PI w S a b (off + k * 5)) → PR w S l b off
  | [], b, off, _ => by rw [PR]; trivial
  | c :: r, b, off, h => PR_cons.2 ⟨by have := h 0 c rfl; simpa using this, PR_mk (fun k a hk => by
      have := h (k + 1) a (by simpa using hk)
      rw [show off + (k + 1) * 5 = off + 5 + k * 5 by omega] at this; exact this)⟩
theorem PT_kept {w w' : World} {S S' : Nat → Prop} (hb : ∀ g, S g → g < w.heap.size → w'.heap[g]? = w.heap[g]?) (hs : w.heap.size ≤ w'.heap.size) (hS : ∀ g, S g → g < w.heap.size → S' g) : ∀ (d : Nat) (l : List Tr) (v : Value), wts l ≤ d → PT w S v l → PT w' S' v l := by
  have hc : ∀ {b o : Nat} {v : Value}, S b → b < w.heap.size → w.cell? ⟨b, o, none⟩ = some v → w'.cell? ⟨b, o, none⟩ = some v := by
    intro b o v h1 h2 h
    rw [← h]; unfold World.cell?; rw [hb b h1 h2]
  intro d
  induction d using Nat.strongRecOn with
  | ind d ih =>
    intro l v hd h
    obtain ⟨a, cap, rfl, h⟩ := h
    refine ⟨a, cap, rfl, ?_⟩
    rcases h with h | ⟨b, off, e, hlt, hSb, h⟩
    · exact .inl h
    · refine .inr ⟨b, off, e, Nat.lt_of_lt_of_le hlt hs, hS b hSb hlt, PR_mk (fun k t hk => ?_)⟩
      obtain ⟨h1, h2, h3, h4, u, h5, h6⟩ := PI_iff.1 (PR_at h hk)
      have hw := wts_at hk
      have he := wt_eq t
      exact PI_iff.2 ⟨hc hSb hlt h1, hc hSb hlt h2, hc hSb hlt h3, hc hSb hlt h4, u, hc hSb hlt h5, ih (wts t.kids) (by omega) t.kids u (Nat.le_refl _) h6⟩
theorem PT_rt {w : World} {S : Nat → Prop} : ∀ (d : Nat) (l : List Tr) (v : Value), wts l ≤ d → PT w S v l → RT w v l := by
  intro d
  induction d using Nat.strongRecOn with
  | ind d ih =>
    intro l v hd h
    obtain ⟨a, cap, rfl, h⟩ := h
    refine ⟨a, cap, rfl, ?_⟩
    rcases h with h | ⟨b, off, e, hlt, hSb, h⟩
    · exact .inl h
    · refine .inr ⟨b, off, e, hlt, RR_mk (fun k t hk => ?_)⟩
      obtain ⟨h1, h2, h3, h4, u, h5, h6⟩ := PI_iff.1 (PR_at h hk)
      have hw := wts_at hk
      have he := wt_eq t
      exact RI_iff.2 ⟨h1, h2, h3, h4, u, h5, ih (wts t.kids) (by omega) t.kids u (Nat.le_refl _) h6⟩
/-- The cells of items whose lists are these values. -/
def ic : List Tr → List Value → List Value
  | a :: r, v :: q => .string ⟨a.itm.tag.toArray⟩ :: .string ⟨a.itm.qual.toArray⟩ :: .string ⟨a.itm.text.toArray⟩ :: .string ⟨a.itm.name.toArray⟩ :: v :: ic r q
  | _, _ => []
theorem ic_snoc : ∀ (l : List Tr) (V : List Value) (a : Tr) (v : Value), l.length = V.length → ic (l ++ [a]) (V ++ [v]) = ic l V ++ (iC a.itm v).toList
  | [], [], a, v, _ => by simp [ic, iC]
  | b :: r, u :: q, a, v, h => by
    have := ic_snoc r q a v (by simpa using h)
    simp only [List.cons_append, ic, this]
theorem ic_len : ∀ (l : List Tr) (V : List Value), l.length = V.length → (ic l V).length = l.length * 5
  | [], [], _ => by simp [ic]
  | b :: r, u :: q, h => by
    have := ic_len r q (by simpa using h)
    simp only [ic, List.length_cons, this]; omega
theorem ic_at : ∀ (l : List Tr) (V : List Value) (k : Nat) (a : Tr) (v : Value), l[k]? = some a → V[k]? = some v → (ic l V)[k * 5]? = some (.string ⟨a.itm.tag.toArray⟩) ∧ (ic l V)[k * 5 + 1]? = some (.string ⟨a.itm.qual.toArray⟩) ∧ (ic l V)[k * 5 + 2]? = some (.string ⟨a.itm.text.toArray⟩) ∧ (ic l V)[k * 5 + 3]? = some (.string ⟨a.itm.name.toArray⟩) ∧ (ic l V)[k * 5 + 4]? = some v
  | b :: r, u :: q, 0, a, v, h1, h2 => by
    simp at h1 h2; subst h1; subst h2; exact ⟨rfl, rfl, rfl, rfl, rfl⟩
  | b :: r, u :: q, k + 1, a, v, h1, h2 => by
    have := ic_at r q k a v (by simpa using h1) (by simpa using h2)
    rw [show (k + 1) * 5 = k * 5 + 1 + 1 + 1 + 1 + 1 by omega]
    exact this
theorem own_set {w : World} {B : Nat} {e : TypeId} {s : Nat} {v : Value} {n : Nat} {xs : List Value} (h : w.ownsRow B e s v n xs) {g : Nat} (hg : v.ownBlock = some g) (i : Nat) (u : Value) : (w.setCell ⟨g, i, none⟩ u).ownsRow B e s v n (xs.set i u) := by
  obtain ⟨h1, h2⟩ := h
  refine ⟨by rw [List.length_set]; exact h1, ?_⟩
  rcases h2 with ⟨rfl, _⟩ | ⟨g', cap, cur, rfl, hb, hh, hn, hm, hc, ht⟩
  · simp [Value.ownBlock] at hg
  · simp [Value.ownBlock] at hg; subst hg
    refine .inr ⟨g', cap, cur.setIfInBounds i u, rfl, hb, ?_, hn, hm, by simpa using hc, ?_⟩
    · show (w.heap.modify g' _)[g']? = _
      have hlt := (Array.getElem?_eq_some_iff.1 hh).1
      have h' : w.heap[g'] = .cells cur e (0, 0) := by simpa [Array.getElem?_eq_getElem hlt] using hh
      rw [Array.getElem?_eq_getElem (by simpa using hlt), Array.getElem_modify_self, h']
      rfl
    · rw [← ht]; simp [List.take_set]
end Go.Proofs.Ytklhbhhkooddoaa
