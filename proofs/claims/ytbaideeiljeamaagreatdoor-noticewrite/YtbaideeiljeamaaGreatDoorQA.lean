/-
  My own text: Q5, QA in one.
-/
import Derived.Test.YtbaideeiljeamaaGreatDoorQ4
import Derived.Deep.DeepAppendRoom
import Derived.ArgAppend
import Derived.Deep.Onto
namespace Go.Proofs.YtbaideeiljeamaaGreatDoor.TG
open Go.RowKit

theorem Tryz.infoItmq : (Tryz.prog.info? 58).map (fun i => (i.zero, i.size, i.bytes)) = some (some (.agg #[.string ⟨#[]⟩, .string ⟨#[]⟩, .string ⟨#[]⟩, .string ⟨#[]⟩, .slice none 0 0]), 5, 88) := by kernel_rfl
theorem zItmq : (Value.agg #[.string ⟨#[]⟩, .string ⟨#[]⟩, .string ⟨#[]⟩, .string ⟨#[]⟩, .slice none 0 0]).cells.size = 5 := rfl
theorem owns_blkq {B : Nat} {e : TypeId} {k : Nat} {v : Value} {n : Nat} {xs : List Value} {w w' : World} (h : w.ownsRow B e k v n xs) (hb : ∀ g, v.ownBlock = some g → w'.heap[g]? = w.heap[g]?) : w'.ownsRow B e k v n xs := by
  refine ⟨h.1, ?_⟩
  rcases h.2 with h2 | ⟨g, cap, cur, hv, hg, hh, h3⟩
  · exact .inl h2
  · exact .inr ⟨g, cap, cur, hv, hg, (hb g (by rw [hv]; rfl)).trans hh, h3⟩
theorem own_ltq {w : World} {B : Nat} {e : TypeId} {s : Nat} {v : Value} {n : Nat} {xs : List Value} (h : w.ownsRow B e s v n xs) : ∀ g, v.ownBlock = some g → B ≤ g ∧ g < w.heap.size := by
  intro g hg
  rcases h.2 with ⟨rfl, _⟩ | ⟨g', cap, cur, rfl, h1, hh, _⟩
  · simp [Value.ownBlock] at hg
  · simp [Value.ownBlock] at hg; subst hg; exact ⟨h1, (Array.getElem?_eq_some_iff.1 hh).1⟩
/-- Items behind an own row: the row lies where it lay, or in new memory. -/
theorem wp_append_itm {w : World} {ops : Array Oper} {rest : List Oper} {o : Oper} {a : Act} {Q : Exit → Act → World → Prop} (hgd : o.guard = none) (s x : Operand)
    (ho : o.op = .call { callee := .builtin .append, args := #[s, x], argTypes := #[27, 27] }) (B : Nat) (v : Value) (n : Nat) (xs : List Value) (hs : a.eval s = v) (hown : w.ownsRow B 58 5 v n xs)
    (b m c : Nat) (news : List Value) (hx : a.eval x = .slice (some ⟨b, 0, none⟩) m c) (hl : news.length = m * 5) (hm : 0 < m) (hnews : ∀ j u, news[j]? = some u → w.cell? ((⟨b, 0, none⟩ : Addr).add j) = some u) (h1 : ∀ u ∈ news, u.oneCell' = true) (hB : B ≤ w.heap.size) (hsz : n + m ≤ 1099511627776)
    (h : ∀ v' w', w'.ownsRow B 58 5 v' (n + m) (xs ++ news) → w.grownBy w' v.ownBlock → (∀ g, v'.ownBlock = some g → v.ownBlock = some g ∨ w.heap.size ≤ g) → wpList Tryz.prog ops Q rest (a.put o.dst v') w') : wpList Tryz.prog ops Q (o :: rest) a w := by
  obtain ⟨i0, hi, hz0, hz1, hz2⟩ := info_parts Tryz.infoItmq
  have hfull : ∀ (ao : Option Addr) (cap : Nat), v = .slice ao n cap → (ao = none → n = 0 ∧ cap = 0) → (∀ q, ao = some q → ∀ j u, xs[j]? = some u → w.cell? (q.add j) = some u) → cap < n + m → wpList Tryz.prog ops Q (o :: rest) a w := by
    intro ao cap hv hno hold hf
    refine wpList_append_grows w hgd s x 27 ho 58 i0 _ 5 88 Tryz.underlying27 hi hz0 hz1 hz2 zItmq (by decide) ao n cap xs (hs.trans hv) hno hown.1 hold ⟨b, 0, none⟩ m c news hx hl hnews h1 hf (by unfold maxLen; omega) (by omega) ?_
    intro v' w' hown' hg
    refine h v' w' (World.ownsRow.mono hown' hB) ⟨hg.os, hg.tape, hg.output, hg.size, fun k hk _ => hg.block k hk (by intro e; cases e)⟩ (fun g hg' => .inr (own_ltq hown' g hg').1)
  rcases hown.2 with ⟨hv, h0⟩ | ⟨g, cap, cur, hv, hb, hh, hn2, hn3⟩
  · refine hfull none 0 (by rw [hv, h0]) (fun _ => ⟨h0, rfl⟩) (fun q hq => by cases hq) (by omega)
  · by_cases hroom : n + m ≤ cap
    · have hown2 := hown
      rw [hv] at hown2
      refine wpList_append_own_spare w hgd s x 27 ho B 58 i0 5 Tryz.underlying27 hi hz1 g n cap xs (hs.trans hv) hown2 ⟨b, 0, none⟩ m c news hx hl hnews h1 hroom ?_
      intro w' hown' hg
      exact h _ w' hown' (by rw [hv]; exact hg) (fun g' hg' => .inl (by rw [hv]; exact hg'))
    · refine hfull (some ⟨g, 0, none⟩) cap hv (fun hq => by cases hq) (fun q hq => ?_) (by omega)
      cases hq
      exact World.ownsRow.cells hown (by rw [hv]; rfl)
mutual
/-- An item in memory, what it holds in blocks of S. -/
def PI (w : World) (S : Nat → Prop) : Tr → Nat → Nat → Prop
  | .mk i l, b, off => w.cell? ⟨b, off, none⟩ = some (.string ⟨i.tag.toArray⟩) ∧ w.cell? ⟨b, off + 1, none⟩ = some (.string ⟨i.qual.toArray⟩) ∧ w.cell? ⟨b, off + 2, none⟩ = some (.string ⟨i.text.toArray⟩) ∧ w.cell? ⟨b, off + 3, none⟩ = some (.string ⟨i.name.toArray⟩) ∧ ∃ a cap, w.cell? ⟨b, off + 4, none⟩ = some (.slice a l.length cap) ∧ (l = [] ∨ ∃ b' off', a = some ⟨b', off', none⟩ ∧ b' < w.heap.size ∧ S b' ∧ PR w S l b' off')
def PR (w : World) (S : Nat → Prop) : List Tr → Nat → Nat → Prop
  | [], _, _ => True
  | a :: r, b, off => PI w S a b off ∧ PR w S r b (off + 5)
end
/-- A list of items in memory, all of it in blocks of S. -/
def PT (w : World) (S : Nat → Prop) (v : Value) (l : List Tr) : Prop := ∃ a cap, v = .slice a l.length cap ∧ (l = [] ∨ ∃ b off, a = some ⟨b, off, none⟩ ∧ b < w.heap.size ∧ S b ∧ PR w S l b off)
theorem PI_iff {w : World} {S : Nat → Prop} {a : Tr} {b off : Nat} : PI w S a b off ↔ w.cell? ⟨b, off, none⟩ = some (.string ⟨a.itm.tag.toArray⟩) ∧ w.cell? ⟨b, off + 1, none⟩ = some (.string ⟨a.itm.qual.toArray⟩) ∧ w.cell? ⟨b, off + 2, none⟩ = some (.string ⟨a.itm.text.toArray⟩) ∧ w.cell? ⟨b, off + 3, none⟩ = some (.string ⟨a.itm.name.toArray⟩) ∧ ∃ v, w.cell? ⟨b, off + 4, none⟩ = some v ∧ PT w S v a.kids := by
  obtain ⟨i, l⟩ := a
  unfold PI PT Tr.itm Tr.kids
  constructor
  · rintro ⟨h1, h2, h3, h4, a, cap, h5, h6⟩
    exact ⟨h1, h2, h3, h4, _, h5, a, cap, rfl, h6⟩
  · rintro ⟨h1, h2, h3, h4, v, h5, a, cap, rfl, h6⟩
    exact ⟨h1, h2, h3, h4, a, cap, h5, h6⟩
theorem PR_cons {w : World} {S : Nat → Prop} {a : Tr} {r : List Tr} {b off : Nat} : PR w S (a :: r) b off ↔ PI w S a b off ∧ PR w S r b (off + 5) := by rw [PR]
theorem PR_at {w : World} {S : Nat → Prop} : ∀ {l : List Tr} {b off k : Nat} {a : Tr}, PR w S l b off → l[k]? = some a → PI w S a b (off + k * 5)
  | c :: r, b, off, 0, a, h, hk => by simp at hk; subst hk; exact (PR_cons.1 h).1
  | c :: r, b, off, k + 1, a, h, hk => by
    have := PR_at (PR_cons.1 h).2 (k := k) (a := a) (by simpa using hk)
    rw [show off + (k + 1) * 5 = off + 5 + k * 5 by omega]; exact this
theorem PR_mk {w : World} {S : Nat → Prop} : ∀ {l : List Tr} {b off : Nat}, (∀ k a, l[k]? = some a → PI w S a b (off + k * 5)) → PR w S l b off
  | [], b, off, _ => by rw [PR]; trivial
  | c :: r, b, off, h => PR_cons.2 ⟨by have := h 0 c rfl; simpa using this, PR_mk (fun k a hk => by
      have := h (k + 1) a (by simpa using hk)
      rw [show off + (k + 1) * 5 = off + 5 + k * 5 by omega] at this; exact this)⟩
theorem PT_kept {w w' : World} {S S' : Nat → Prop} (hb : ∀ g, S g → g < w.heap.size → w'.heap[g]? = w.heap[g]?) (hs : w.heap.size ≤ w'.heap.size) (hS : ∀ g, S g → g < w.heap.size → S' g) : ∀ (d : Nat) (l : List Tr) (v : Value), wts l ≤ d → PT w S v l → PT w' S' v l := by
  have hc : ∀ {b o : Nat} {v : Value}, S b → b < w.heap.size → w.cell? ⟨b, o, none⟩ = some v → w'.cell? ⟨b, o, none⟩ = some v := by
    intro b o v h1 h2 h
    rw [← h]; unfold World.cell?; rw [hb b h1 h2]
  intro d
  induction d using Nat.strongRecOn with
  | ind d ih =>
    intro l v hd h
    obtain ⟨a, cap, rfl, h⟩ := h
    refine ⟨a, cap, rfl, ?_⟩
    rcases h with h | ⟨b, off, e, hlt, hSb, h⟩
    · exact .inl h
    · refine .inr ⟨b, off, e, Nat.lt_of_lt_of_le hlt hs, hS b hSb hlt, PR_mk (fun k t hk => ?_)⟩
      obtain ⟨h1, h2, h3, h4, u, h5, h6⟩ := PI_iff.1 (PR_at h hk)
      have hw := wts_at hk
      have he := wt_eq t
      exact PI_iff.2 ⟨hc hSb hlt h1, hc hSb hlt h2, hc hSb hlt h3, hc hSb hlt h4, u, hc hSb hlt h5, ih (wts t.kids) (by omega) t.kids u (Nat.le_refl _) h6⟩
theorem PT_rt {w : World} {S : Nat → Prop} : ∀ (d : Nat) (l : List Tr) (v : Value), wts l ≤ d → PT w S v l → RT w v l := by
  intro d
  induction d using Nat.strongRecOn with
  | ind d ih =>
    intro l v hd h
    obtain ⟨a, cap, rfl, h⟩ := h
    refine ⟨a, cap, rfl, ?_⟩
    rcases h with h | ⟨b, off, e, hlt, hSb, h⟩
    · exact .inl h
    · refine .inr ⟨b, off, e, hlt, RR_mk (fun k t hk => ?_)⟩
      obtain ⟨h1, h2, h3, h4, u, h5, h6⟩ := PI_iff.1 (PR_at h hk)
      have hw := wts_at hk
      have he := wt_eq t
      exact RI_iff.2 ⟨h1, h2, h3, h4, u, h5, ih (wts t.kids) (by omega) t.kids u (Nat.le_refl _) h6⟩
/-- The cells of items whose lists are these values. -/
def ic : List Tr → List Value → List Value
  | a :: r, v :: q => .string ⟨a.itm.tag.toArray⟩ :: .string ⟨a.itm.qual.toArray⟩ :: .string ⟨a.itm.text.toArray⟩ :: .string ⟨a.itm.name.toArray⟩ :: v :: ic r q
  | _, _ => []
theorem ic_snoc : ∀ (l : List Tr) (V : List Value) (a : Tr) (v : Value), l.length = V.length → ic (l ++ [a]) (V ++ [v]) = ic l V ++ (iC a.itm v).toList
  | [], [], a, v, _ => by simp [ic, iC]
  | b :: r, u :: q, a, v, h => by
    have := ic_snoc r q a v (by simpa using h)
    simp only [List.cons_append, ic, this]
theorem ic_len : ∀ (l : List Tr) (V : List Value), l.length = V.length → (ic l V).length = l.length * 5
  | [], [], _ => by simp [ic]
  | b :: r, u :: q, h => by
    have := ic_len r q (by simpa using h)
    simp only [ic, List.length_cons, this]; omega
theorem ic_at : ∀ (l : List Tr) (V : List Value) (k : Nat) (a : Tr) (v : Value), l[k]? = some a → V[k]? = some v → (ic l V)[k * 5]? = some (.string ⟨a.itm.tag.toArray⟩) ∧ (ic l V)[k * 5 + 1]? = some (.string ⟨a.itm.qual.toArray⟩) ∧ (ic l V)[k * 5 + 2]? = some (.string ⟨a.itm.text.toArray⟩) ∧ (ic l V)[k * 5 + 3]? = some (.string ⟨a.itm.name.toArray⟩) ∧ (ic l V)[k * 5 + 4]? = some v
  | b :: r, u :: q, 0, a, v, h1, h2 => by
    simp at h1 h2; subst h1; subst h2; exact ⟨rfl, rfl, rfl, rfl, rfl⟩
  | b :: r, u :: q, k + 1, a, v, h1, h2 => by
    have := ic_at r q k a v (by simpa using h1) (by simpa using h2)
    rw [show (k + 1) * 5 = k * 5 + 1 + 1 + 1 + 1 + 1 by omega]
    exact this
theorem own_set {w : World} {B : Nat} {e : TypeId} {s : Nat} {v : Value} {n : Nat} {xs : List Value} (h : w.ownsRow B e s v n xs) {g : Nat} (hg : v.ownBlock = some g) (i : Nat) (u : Value) : (w.setCell ⟨g, i, none⟩ u).ownsRow B e s v n (xs.set i u) := by
  obtain ⟨h1, h2⟩ := h
  refine ⟨by rw [List.length_set]; exact h1, ?_⟩
  rcases h2 with ⟨rfl, _⟩ | ⟨g', cap, cur, rfl, hb, hh, hn, hm, hc, ht⟩
  · simp [Value.ownBlock] at hg
  · simp [Value.ownBlock] at hg; subst hg
    refine .inr ⟨g', cap, cur.setIfInBounds i u, rfl, hb, ?_, hn, hm, by simpa using hc, ?_⟩
    · show (w.heap.modify g' _)[g']? = _
      have hlt := (Array.getElem?_eq_some_iff.1 hh).1
      have h' : w.heap[g'] = .cells cur e (0, 0) := by simpa [Array.getElem?_eq_getElem hlt] using hh
      rw [Array.getElem?_eq_getElem (by simpa using hlt), Array.getElem_modify_self, h']
      rfl
    · rw [← ht]; simp [List.take_set]
end Go.Proofs.YtbaideeiljeamaaGreatDoor.TG
namespace Go.Proofs.YtbaideeiljeamaaGreatDoor.TG
open Go.RowKit

mutual
def LI (w : World) : Tr → Nat → Nat → List Value → Prop
  | .mk _ l, b, off, o => ∃ a cap os, w.cell? ⟨b, off + 4, none⟩ = some (.slice a l.length cap) ∧ o = .slice a l.length cap :: os ∧ ((l = [] ∧ os = []) ∨ ∃ g, a = some ⟨g, 0, none⟩ ∧ LR w l g 0 os)
def LR (w : World) : List Tr → Nat → Nat → List Value → Prop
  | [], _, _, os => os = []
  | x :: r, b, off, os => ∃ o1 o2, os = o1 ++ o2 ∧ LI w x b off o1 ∧ LR w r b (off + 5) o2
end
/-- All lists of a message, itself first. -/
def LT (w : World) (v : Value) (l : List Tr) (o : List Value) : Prop := ∃ a cap os, v = .slice a l.length cap ∧ o = .slice a l.length cap :: os ∧ ((l = [] ∧ os = []) ∨ ∃ g, a = some ⟨g, 0, none⟩ ∧ LR w l g 0 os)
theorem LI_iff {w : World} {a : Tr} {b off : Nat} {o : List Value} : LI w a b off o ↔ ∃ u, w.cell? ⟨b, off + 4, none⟩ = some u ∧ LT w u a.kids o := by
  obtain ⟨i, l⟩ := a
  unfold LI LT Tr.kids
  constructor
  · rintro ⟨a, cap, os, h1, h2, h3⟩
    exact ⟨_, h1, a, cap, os, rfl, h2, h3⟩
  · rintro ⟨u, h1, a, cap, os, rfl, h2, h3⟩
    exact ⟨a, cap, os, h1, h2, h3⟩
theorem LR_cons {w : World} {a : Tr} {r : List Tr} {b off : Nat} {os : List Value} : LR w (a :: r) b off os ↔ ∃ o1 o2, os = o1 ++ o2 ∧ LI w a b off o1 ∧ LR w r b (off + 5) o2 := by rw [LR]
theorem LR_nil {w : World} {b off : Nat} {os : List Value} : LR w [] b off os ↔ os = [] := by rw [LR]
/-- A list's block is one of S. -/
def OW (w : World) (S : Nat → Prop) (u : Value) : Prop := (∃ n xs, w.ownsRow 0 58 5 u n xs) ∧ ∀ x, u.ownBlock = some x → S x
def Nd (o : List Value) : Prop := (o.filterMap Value.ownBlock).Nodup
/-- A message in memory of its own, in blocks of S. -/
def AP (w : World) (S : Nat → Prop) (v : Value) (l : List Tr) : Prop := ∃ o, LT w v l o ∧ Nd o ∧ ∀ u ∈ o, OW w S u
def PA (w : World) (S : Nat → Prop) (v : Value) (l : List Tr) : Prop := PT w S v l ∧ AP w S v l
theorem PA.nil (w : World) (S : Nat → Prop) : PA w S (.slice none 0 0) [] :=
  ⟨⟨none, 0, rfl, .inl rfl⟩, [.slice none 0 0], ⟨none, 0, [], rfl, rfl, .inl ⟨rfl, rfl⟩⟩, List.nodup_nil, fun u hu => by
    rw [List.mem_singleton] at hu
    subst hu
    exact ⟨⟨0, [], World.ownsRow_nil _ _ _ _⟩, fun x hx => by simp [Value.ownBlock] at hx⟩⟩
theorem OW.kept {w w' : World} {S S' : Nat → Prop} {u : Value} (h : OW w S u) (hb : ∀ g, S g → g < w.heap.size → w'.heap[g]? = w.heap[g]?) (hS : ∀ g, S g → g < w.heap.size → S' g) : OW w' S' u := by
  obtain ⟨⟨n, xs, hO⟩, h2⟩ := h
  exact ⟨⟨n, xs, owns_blkq hO (fun g hg => hb g (h2 g hg) (own_ltq hO g hg).2)⟩, fun x hx => hS x (h2 x hx) (own_ltq hO x hx).2⟩
theorem LR_kept {w w' : World} {g : Nat} (hg : w'.heap[g]? = w.heap[g]?) : ∀ (l : List Tr) (off : Nat) (os : List Value), (∀ x ∈ l, ∀ (u : Value) (o : List Value), LT w u x.kids o → (∀ y ∈ o, ∀ g, y.ownBlock = some g → w'.heap[g]? = w.heap[g]?) → LT w' u x.kids o) →
    LR w l g off os → (∀ u ∈ os, ∀ g, u.ownBlock = some g → w'.heap[g]? = w.heap[g]?) → LR w' l g off os
  | [], _, _, _, h, _ => LR_nil.2 (LR_nil.1 h)
  | x :: r, off, os, hx, h, hk => by
    obtain ⟨o1, o2, e, h1, h2⟩ := LR_cons.1 h
    obtain ⟨u, hu1, hu2⟩ := LI_iff.1 h1
    refine LR_cons.2 ⟨o1, o2, e, LI_iff.2 ⟨u, ?_, hx x (List.mem_cons_self ..) u o1 hu2 (fun y hy => hk y (by rw [e]; exact List.mem_append.2 (.inl hy)))⟩, LR_kept hg r (off + 5) o2 (fun y hy => hx y (List.mem_cons_of_mem _ hy)) h2 (fun y hy => hk y (by rw [e]; exact List.mem_append.2 (.inr hy)))⟩
    rw [World.cell?_of_block (w := w) (w' := w') (a := ⟨g, off + 4, none⟩) hg]; exact hu1
theorem wts_mem {l : List Tr} {x : Tr} (h : x ∈ l) : wts x.kids < wts l := by
  obtain ⟨k, hk⟩ := List.getElem?_of_mem h
  have h1 := wts_at hk
  have h2 := wt_eq x
  omega
/-- The lists stand where their blocks stand. -/
theorem LT_kept {w w' : World} : ∀ (d : Nat) (l : List Tr) (v : Value) (o : List Value), wts l ≤ d → LT w v l o → (∀ u ∈ o, ∀ g, u.ownBlock = some g → w'.heap[g]? = w.heap[g]?) → LT w' v l o := by
  intro d
  induction d using Nat.strongRecOn with
  | ind d ih =>
    intro l v o hd h hk
    obtain ⟨a, cap, os, h1, h2, h3⟩ := h
    refine ⟨a, cap, os, h1, h2, ?_⟩
    rcases h3 with h3 | ⟨g, hg, h3⟩
    · exact .inl h3
    · refine .inr ⟨g, hg, LR_kept (hk (.slice a l.length cap) (by rw [h2]; exact List.mem_cons_self ..) g (by rw [hg]; rfl)) l 0 os (fun x hx u o' hu hy => ih (wts x.kids) (by have := wts_mem hx; omega) x.kids u o' (Nat.le_refl _) hu hy) h3 (fun u hu => hk u (by rw [h2]; exact List.mem_cons_of_mem _ hu))⟩
theorem PA_kept {w w' : World} {S S' : Nat → Prop} (hb : ∀ g, S g → g < w.heap.size → w'.heap[g]? = w.heap[g]?) (hs : w.heap.size ≤ w'.heap.size) (hS : ∀ g, S g → g < w.heap.size → S' g) (d : Nat) (l : List Tr) (v : Value) (hd : wts l ≤ d) (h : PA w S v l) : PA w' S' v l := by
  obtain ⟨h1, o, h2, h3, h4⟩ := h
  refine ⟨PT_kept hb hs hS d l v hd h1, o, LT_kept d l v o hd h2 (fun u hu g hg => ?_), h3, fun u hu => (h4 u hu).kept hb hS⟩
  obtain ⟨⟨n, xs, hO⟩, h5⟩ := h4 u hu
  exact hb g (h5 g hg) (own_ltq hO g hg).2
end Go.Proofs.YtbaideeiljeamaaGreatDoor.TG
