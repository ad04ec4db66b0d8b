/-
  My own text: T17, T18 in one.
-/
import Derived.Test.YtpkgaidnpooahaaGreatDoorTKB
import Derived.Deep.DeepAppendWide
import Derived.Deep.DeepAppendRoom
import Derived.Deep.Onto
import Derived.ArgAppend
namespace Go.Proofs.YtpkgaidnpooahaaGreatDoor
open Go.RowKit

def fullS : List UInt8 := [35, 102, 117, 108, 108]
def endS : List UInt8 := [35, 101, 110, 100]
mutual
/-- The k-th of n items, its marks behind them, all of them in blocks of S. -/
def FI (w : World) (S : Nat → Prop) : Tr → Nat → Nat → Nat → Prop
  | .mk i l, g, k, n => ∃ ga ca, w.cell? ⟨g, k * 5, none⟩ = some (.string ⟨i.tag.toArray⟩) ∧ w.cell? ⟨g, k * 5 + 1, none⟩ = some (.string ⟨i.qual.toArray⟩) ∧ w.cell? ⟨g, k * 5 + 2, none⟩ = some (.string ⟨i.text.toArray⟩) ∧ w.cell? ⟨g, k * 5 + 3, none⟩ = some (.string ⟨i.name.toArray⟩) ∧ w.cell? ⟨g, k * 5 + 4, none⟩ = some (.slice (some ⟨ga, 0, none⟩) l.length ca) ∧ w.cell? ⟨g, (n + k) * 5, none⟩ = some (.string ⟨fullS.toArray⟩) ∧ w.cell? ⟨g, (n + k) * 5 + 4, none⟩ = some (.slice (some ⟨ga, 0, none⟩) (2 * l.length + 1) ca) ∧ (2 * l.length + 1 ≤ ca ∧ S ga ∧ ga < w.heap.size ∧ w.cell? ⟨ga, 2 * l.length * 5, none⟩ = some (.string ⟨endS.toArray⟩) ∧ FL w S l ga 0 l.length)
def FL (w : World) (S : Nat → Prop) : List Tr → Nat → Nat → Nat → Prop
  | [], _, _, _ => True
  | a :: r, g, k, n => FI w S a g k n ∧ FL w S r g (k + 1) n
end
/-- A list of items with marks behind. -/
def FU (w : World) (S : Nat → Prop) (g c : Nat) (l : List Tr) : Prop := 2 * l.length + 1 ≤ c ∧ S g ∧ g < w.heap.size ∧ w.cell? ⟨g, 2 * l.length * 5, none⟩ = some (.string ⟨endS.toArray⟩) ∧ FL w S l g 0 l.length
theorem FI_iff {w : World} {S : Nat → Prop} {a : Tr} {g k n : Nat} : FI w S a g k n ↔ ∃ ga ca, w.cell? ⟨g, k * 5, none⟩ = some (.string ⟨a.itm.tag.toArray⟩) ∧ w.cell? ⟨g, k * 5 + 1, none⟩ = some (.string ⟨a.itm.qual.toArray⟩) ∧ w.cell? ⟨g, k * 5 + 2, none⟩ = some (.string ⟨a.itm.text.toArray⟩) ∧ w.cell? ⟨g, k * 5 + 3, none⟩ = some (.string ⟨a.itm.name.toArray⟩) ∧ w.cell? ⟨g, k * 5 + 4, none⟩ = some (.slice (some ⟨ga, 0, none⟩) a.kids.length ca) ∧ w.cell? ⟨g, (n + k) * 5, none⟩ = some (.string ⟨fullS.toArray⟩) ∧ w.cell? ⟨g, (n + k) * 5 + 4, none⟩ = some (.slice (some ⟨ga, 0, none⟩) (2 * a.kids.length + 1) ca) ∧ FU w S ga ca a.kids := by
  obtain ⟨i, l⟩ := a
  unfold FI FU Tr.itm Tr.kids
  exact Iff.rfl
theorem FL_cons {w : World} {S : Nat → Prop} {a : Tr} {r : List Tr} {g k n : Nat} : FL w S (a :: r) g k n ↔ FI w S a g k n ∧ FL w S r g (k + 1) n := by rw [FL]
theorem FL_at {w : World} {S : Nat → Prop} : ∀ {l : List Tr} {g k n j : Nat} {a : Tr}, FL w S l g k n → l[j]? = some a → FI w S a g (k + j) n
  | c :: r, g, k, n, 0, a, h, hj => by simp at hj; subst hj; exact (FL_cons.1 h).1
  | c :: r, g, k, n, j + 1, a, h, hj => by
    have := FL_at (FL_cons.1 h).2 (j := j) (a := a) (by simpa using hj)
    rw [show k + (j + 1) = k + 1 + j by omega]; exact this
theorem FL_mk {w : World} {S : Nat → Prop} : ∀ {l : List Tr} {g k n : Nat}, (∀ j a, l[j]? = some a → FI w S a g (k + j) n) → FL w S l g k n
  | [], g, k, n, _ => by rw [FL]; trivial
  | c :: r, g, k, n, h => FL_cons.2 ⟨by have := h 0 c rfl; simpa using this, FL_mk (fun j a hj => by
      have := h (j + 1) a (by simpa using hj)
      rw [show k + (j + 1) = k + 1 + j by omega] at this; exact this)⟩
theorem FU_kept {w w' : World} {S S' : Nat → Prop} (hb : ∀ g, S g → g < w.heap.size → w'.heap[g]? = w.heap[g]?) (hs : w.heap.size ≤ w'.heap.size) (hS : ∀ g, S g → g < w.heap.size → S' g) : ∀ (d : Nat) (l : List Tr) (g c : Nat), wts l ≤ d → FU w S g c l → FU w' S' g c l := by
  have hc : ∀ {b o : Nat} {v : Value}, S b → b < w.heap.size → w.cell? ⟨b, o, none⟩ = some v → w'.cell? ⟨b, o, none⟩ = some v := by
    intro b o v h1 h2 h
    rw [← h]; unfold World.cell?; rw [hb b h1 h2]
  intro d
  induction d using Nat.strongRecOn with
  | ind d ih =>
    intro l g c hd h
    obtain ⟨h1, h2, h3, h4, h5⟩ := h
    refine ⟨h1, hS g h2 h3, Nat.lt_of_lt_of_le h3 hs, hc h2 h3 h4, FL_mk (fun j a hj => ?_)⟩
    obtain ⟨ga, ca, e0, e1, e2, e3, e4, e5, e6, e7⟩ := FI_iff.1 (FL_at h5 hj)
    have hw := wts_at hj
    have he := wt_eq a
    exact FI_iff.2 ⟨ga, ca, hc h2 h3 e0, hc h2 h3 e1, hc h2 h3 e2, hc h2 h3 e3, hc h2 h3 e4, hc h2 h3 e5, hc h2 h3 e6, ih (wts a.kids) (by omega) a.kids ga ca (Nat.le_refl _) e7⟩
theorem FU_rt {w : World} {S : Nat → Prop} : ∀ (d : Nat) (l : List Tr) (g c : Nat), wts l ≤ d → FU w S g c l → RT w (.slice (some ⟨g, 0, none⟩) l.length c) l := by
  intro d
  induction d using Nat.strongRecOn with
  | ind d ih =>
    intro l g c hd h
    obtain ⟨_, _, h3, _, h5⟩ := h
    refine ⟨_, _, rfl, .inr ⟨g, 0, rfl, h3, RR_mk (fun j a hj => ?_)⟩⟩
    obtain ⟨ga, ca, e0, e1, e2, e3, e4, _, _, e7⟩ := FI_iff.1 (FL_at h5 hj)
    have hw := wts_at hj
    have he := wt_eq a
    rw [Nat.zero_add] at e0 e1 e2 e3 e4
    rw [Nat.zero_add]
    exact RI_iff.2 ⟨e0, e1, e2, e3, _, e4, ih (wts a.kids) (by omega) a.kids ga ca (Nat.le_refl _) e7⟩
/-- The cells of items whose lists lie at these places. -/
def oc : List Tr → List (Nat × Nat) → List Value
  | a :: r, (g, c) :: q => .string ⟨a.itm.tag.toArray⟩ :: .string ⟨a.itm.qual.toArray⟩ :: .string ⟨a.itm.text.toArray⟩ :: .string ⟨a.itm.name.toArray⟩ :: .slice (some ⟨g, 0, none⟩) a.kids.length c :: oc r q
  | _, _ => []
/-- The cells of the marks behind them. -/
def fc : List Tr → List (Nat × Nat) → List Value
  | a :: r, (g, c) :: q => .string ⟨fullS.toArray⟩ :: .string ⟨#[]⟩ :: .string ⟨#[]⟩ :: .string ⟨#[]⟩ :: .slice (some ⟨g, 0, none⟩) (2 * a.kids.length + 1) c :: fc r q
  | _, _ => []
theorem oc_snoc : ∀ (l : List Tr) (G : List (Nat × Nat)) (a : Tr) (g c : Nat), l.length = G.length → oc (l ++ [a]) (G ++ [(g, c)]) = oc l G ++ [.string ⟨a.itm.tag.toArray⟩, .string ⟨a.itm.qual.toArray⟩, .string ⟨a.itm.text.toArray⟩, .string ⟨a.itm.name.toArray⟩, .slice (some ⟨g, 0, none⟩) a.kids.length c]
  | [], [], a, g, c, _ => by simp [oc]
  | b :: r, (g', c') :: q, a, g, c, h => by
    have := oc_snoc r q a g c (by simpa using h)
    simp only [List.cons_append, oc, this]
theorem fc_snoc : ∀ (l : List Tr) (G : List (Nat × Nat)) (a : Tr) (g c : Nat), l.length = G.length → fc (l ++ [a]) (G ++ [(g, c)]) = fc l G ++ [.string ⟨fullS.toArray⟩, .string ⟨#[]⟩, .string ⟨#[]⟩, .string ⟨#[]⟩, .slice (some ⟨g, 0, none⟩) (2 * a.kids.length + 1) c]
  | [], [], a, g, c, _ => by simp [fc]
  | b :: r, (g', c') :: q, a, g, c, h => by
    have := fc_snoc r q a g c (by simpa using h)
    simp only [List.cons_append, fc, this]
theorem oc_len : ∀ (l : List Tr) (G : List (Nat × Nat)), l.length = G.length → (oc l G).length = l.length * 5
  | [], [], _ => by simp [oc]
  | b :: r, (g', c') :: q, h => by
    have := oc_len r q (by simpa using h)
    simp only [oc, List.length_cons, this]; omega
theorem fc_len : ∀ (l : List Tr) (G : List (Nat × Nat)), l.length = G.length → (fc l G).length = l.length * 5
  | [], [], _ => by simp [fc]
  | b :: r, (g', c') :: q, h => by
    have := fc_len r q (by simpa using h)
    simp only [fc, List.length_cons, this]; omega
theorem oc_at : ∀ (l : List Tr) (G : List (Nat × Nat)) (k : Nat) (a : Tr) (g c : Nat), l[k]? = some a → G[k]? = some (g, c) → (oc l G)[k * 5]? = some (.string ⟨a.itm.tag.toArray⟩) ∧ (oc l G)[k * 5 + 1]? = some (.string ⟨a.itm.qual.toArray⟩) ∧ (oc l G)[k * 5 + 2]? = some (.string ⟨a.itm.text.toArray⟩) ∧ (oc l G)[k * 5 + 3]? = some (.string ⟨a.itm.name.toArray⟩) ∧ (oc l G)[k * 5 + 4]? = some (.slice (some ⟨g, 0, none⟩) a.kids.length c)
  | b :: r, (g', c') :: q, 0, a, g, c, h1, h2 => by
    simp at h1 h2; obtain ⟨rfl, rfl⟩ := h2; subst h1; exact ⟨rfl, rfl, rfl, rfl, rfl⟩
  | b :: r, (g', c') :: q, k + 1, a, g, c, h1, h2 => by
    have := oc_at r q k a g c (by simpa using h1) (by simpa using h2)
    rw [show (k + 1) * 5 = k * 5 + 1 + 1 + 1 + 1 + 1 by omega]
    exact this
theorem fc_at : ∀ (l : List Tr) (G : List (Nat × Nat)) (k : Nat) (a : Tr) (g c : Nat), l[k]? = some a → G[k]? = some (g, c) → (fc l G)[k * 5]? = some (.string ⟨fullS.toArray⟩) ∧ (fc l G)[k * 5 + 4]? = some (.slice (some ⟨g, 0, none⟩) (2 * a.kids.length + 1) c)
  | b :: r, (g', c') :: q, 0, a, g, c, h1, h2 => by
    simp at h1 h2; obtain ⟨rfl, rfl⟩ := h2; subst h1; exact ⟨rfl, rfl⟩
  | b :: r, (g', c') :: q, k + 1, a, g, c, h1, h2 => by
    have := fc_at r q k a g c (by simpa using h1) (by simpa using h2)
    rw [show (k + 1) * 5 = k * 5 + 1 + 1 + 1 + 1 + 1 by omega]
    exact this
end Go.Proofs.YtpkgaidnpooahaaGreatDoor
namespace Go.Proofs.YtpkgaidnpooahaaGreatDoor
open Go.RowKit

theorem Tryz.infoItm : (Tryz.prog.info? 25).map (fun i => (i.zero, i.size, i.bytes)) = some (some (.agg #[.string ⟨#[]⟩, .string ⟨#[]⟩, .string ⟨#[]⟩, .string ⟨#[]⟩, .slice none 0 0]), 5, 88) := by kernel_rfl
theorem owns_later {B : Nat} {e : TypeId} {k : Nat} {v : Value} {n : Nat} {xs : List Value} {w w' : World} (h : w.ownsRow B e k v n xs) (hb : Below w.heap.size w w') : w'.ownsRow B e k v n xs := by
  refine owns_blk h (fun g hg => ?_)
  rcases h.2 with ⟨rfl, _⟩ | ⟨g', cap, cur, rfl, _, hh, _⟩
  · simp [Value.ownBlock] at hg
  · simp [Value.ownBlock] at hg; subst hg; exact hb.block _ (Array.getElem?_eq_some_iff.1 hh).1
/-- The blocks that hold what items hold, while two rows grow beside them. -/
def SB (B : Nat) (W : World) (o f : Value) (g : Nat) : Prop := B ≤ g ∧ g < W.heap.size ∧ o.ownBlock ≠ some g ∧ f.ownBlock ≠ some g
def KF (w : World) (S : Nat → Prop) (l : List Tr) (G : List (Nat × Nat)) : Prop := ∀ (j : Nat) (a : Tr) (g c : Nat), l[j]? = some a → G[j]? = some (g, c) → FU w S g c a.kids
theorem KF_kept {w w' : World} {S S' : Nat → Prop} {l : List Tr} {G : List (Nat × Nat)} (h : KF w S l G) (hb : ∀ g, S g → g < w.heap.size → w'.heap[g]? = w.heap[g]?) (hs : w.heap.size ≤ w'.heap.size) (hS : ∀ g, S g → g < w.heap.size → S' g) : KF w' S' l G :=
  fun j a g c h1 h2 => FU_kept hb hs hS (wts a.kids) a.kids g c (Nat.le_refl _) (h j a g c h1 h2)
/-- Two rows that grow, and what the items hold. -/
structure FW (w : World) (B : Nat) (o f : Value) (k : Nat) (l : List Tr) (G : List (Nat × Nat)) : Prop where
  len : G.length = k
  out : w.ownsRow B 25 5 o k (oc (l.take k) G)
  full : w.ownsRow B 25 5 f k (fc (l.take k) G)
  ne : ∀ g, o.ownBlock = some g → f.ownBlock ≠ some g
  kids : KF w (SB B w o f) l G
theorem own_lt {w : World} {B : Nat} {e : TypeId} {s : Nat} {v : Value} {n : Nat} {xs : List Value} (h : w.ownsRow B e s v n xs) : ∀ g, v.ownBlock = some g → B ≤ g ∧ g < w.heap.size := by
  intro g hg
  rcases h.2 with ⟨rfl, _⟩ | ⟨g', cap, cur, rfl, h1, hh, _⟩
  · simp [Value.ownBlock] at hg
  · simp [Value.ownBlock] at hg; subst hg; exact ⟨h1, (Array.getElem?_eq_some_iff.1 hh).1⟩
theorem FW.later {w w' : World} {B : Nat} {o f : Value} {k : Nat} {l : List Tr} {G : List (Nat × Nat)} (h : FW w B o f k l G) (hb : Below w.heap.size w w') : FW w' B o f k l G :=
  ⟨h.len, owns_later h.out hb, owns_later h.full hb, h.ne, KF_kept h.kids (fun g _ hg => hb.block g hg) hb.size (fun _ hg _ => ⟨hg.1, Nat.lt_of_lt_of_le hg.2.1 hb.size, hg.2.2⟩)⟩
theorem zItm : (Value.agg #[.string ⟨#[]⟩, .string ⟨#[]⟩, .string ⟨#[]⟩, .string ⟨#[]⟩, .slice none 0 0]).cells.size = 5 := rfl
/-- Items behind an own row: the row lies where it lay, or in new memory. -/
theorem wp_append_items {w : World} {ops : Array Oper} {rest : List Oper} {o : Oper} {a : Act} {Q : Exit → Act → World → Prop} (hgd : o.guard = none) (s x : Operand)
    (ho : o.op = .call { callee := .builtin .append, args := #[s, x], argTypes := #[23, 23] }) (B : Nat) (v : Value) (n : Nat) (xs : List Value) (hs : a.eval s = v) (hown : w.ownsRow B 25 5 v n xs)
    (b m c : Nat) (news : List Value) (hx : a.eval x = .slice (some ⟨b, 0, none⟩) m c) (hl : news.length = m * 5) (hm : 0 < m) (hnews : ∀ j u, news[j]? = some u → w.cell? ((⟨b, 0, none⟩ : Addr).add j) = some u) (h1 : ∀ u ∈ news, u.oneCell' = true) (hB : B ≤ w.heap.size) (hsz : n + m ≤ 1099511627776)
    (h : ∀ v' w', w'.ownsRow B 25 5 v' (n + m) (xs ++ news) → w.grownBy w' v.ownBlock → (∀ g, v'.ownBlock = some g → v.ownBlock = some g ∨ w.heap.size ≤ g) → wpList Tryz.prog ops Q rest (a.put o.dst v') w') : wpList Tryz.prog ops Q (o :: rest) a w := by
  obtain ⟨i0, hi, hz0, hz1, hz2⟩ := info_parts Tryz.infoItm
  have hfull : ∀ (ao : Option Addr) (cap : Nat), v = .slice ao n cap → (ao = none → n = 0 ∧ cap = 0) → (∀ q, ao = some q → ∀ j u, xs[j]? = some u → w.cell? (q.add j) = some u) → cap < n + m → wpList Tryz.prog ops Q (o :: rest) a w := by
    intro ao cap hv hno hold hf
    refine wpList_append_grows w hgd s x 23 ho 25 i0 _ 5 88 Tryz.underlying23 hi hz0 hz1 hz2 zItm (by decide) ao n cap xs (hs.trans hv) hno hown.1 hold ⟨b, 0, none⟩ m c news hx hl hnews h1 hf (by unfold maxLen; omega) (by omega) ?_
    intro v' w' hown' hg
    refine h v' w' (World.ownsRow.mono hown' hB) ⟨hg.os, hg.tape, hg.output, hg.size, fun k hk _ => hg.block k hk (by intro e; cases e)⟩ (fun g hg' => .inr (own_lt hown' g hg').1)
  rcases hown.2 with ⟨hv, h0⟩ | ⟨g, cap, cur, hv, hb, hh, hn2, hn3⟩
  · refine hfull none 0 (by rw [hv, h0]) (fun _ => ⟨h0, rfl⟩) (fun q hq => by cases hq) (by omega)
  · by_cases hroom : n + m ≤ cap
    · have hown2 := hown
      rw [hv] at hown2
      refine wpList_append_own_spare w hgd s x 23 ho B 25 i0 5 Tryz.underlying23 hi hz1 g n cap xs (hs.trans hv) hown2 ⟨b, 0, none⟩ m c news hx hl hnews h1 hroom ?_
      intro w' hown' hg
      exact h _ w' hown' (by rw [hv]; exact hg) (fun g' hg' => .inl (by rw [hv]; exact hg'))
    · refine hfull (some ⟨g, 0, none⟩) cap hv (fun hq => by cases hq) (fun q hq => ?_) (by omega)
      cases hq
      exact World.ownsRow.cells hown (by rw [hv]; rfl)
theorem take_snoc {l : List Tr} {k : Nat} {a : Tr} (h : l[k]? = some a) : l.take (k + 1) = l.take k ++ [a] := by rw [List.take_add_one, h]; rfl
theorem FW_step {w1 w2 w3 : World} {B k lo g c : Nat} {o f o' f' : Value} {l : List Tr} {G : List (Nat × Nat)} {t : Tr} (hF : FW w1 B o f k l G) (ht : l[k]? = some t) (hlo : B ≤ lo) (ho : ∀ q, o.ownBlock = some q → q < lo) (hf : ∀ q, f.ownBlock = some q → q < lo) (hU : FU w1 (fun x => lo ≤ x ∧ x < w1.heap.size) g c t.kids)
    (O : w2.ownsRow B 25 5 o' (k + 1) (oc (l.take k) G ++ [.string ⟨t.itm.tag.toArray⟩, .string ⟨t.itm.qual.toArray⟩, .string ⟨t.itm.text.toArray⟩, .string ⟨t.itm.name.toArray⟩, .slice (some ⟨g, 0, none⟩) t.kids.length c])) (g2 : ∀ x, x < w1.heap.size → o.ownBlock ≠ some x → w2.heap[x]? = w1.heap[x]?) (s2 : w1.heap.size ≤ w2.heap.size) (r2 : ∀ q, o'.ownBlock = some q → o.ownBlock = some q ∨ w1.heap.size ≤ q)
    (L : w3.ownsRow B 25 5 f' (k + 1) (fc (l.take k) G ++ [.string ⟨fullS.toArray⟩, .string ⟨#[]⟩, .string ⟨#[]⟩, .string ⟨#[]⟩, .slice (some ⟨g, 0, none⟩) (2 * t.kids.length + 1) c])) (g3 : ∀ x, x < w2.heap.size → f.ownBlock ≠ some x → w3.heap[x]? = w2.heap[x]?) (s3 : w2.heap.size ≤ w3.heap.size) (r3 : ∀ q, f'.ownBlock = some q → f.ownBlock = some q ∨ w2.heap.size ≤ q) :
    FW w3 B o' f' (k + 1) l (G ++ [(g, c)]) := by
  have hkl : k < l.length := (List.getElem?_eq_some_iff.1 ht).1
  have htl : (l.take k).length = G.length := by rw [List.length_take, hF.len]; omega
  have hof : ∀ q, o'.ownBlock = some q → f.ownBlock ≠ some q := by
    intro q hq e
    rcases r2 q hq with h | h
    · exact hF.ne q h e
    · have := (own_lt hF.full q e).2; omega
  have both : ∀ x, x < w1.heap.size → o.ownBlock ≠ some x → f.ownBlock ≠ some x → w3.heap[x]? = w1.heap[x]? := fun x h1 h2 h3 => (g3 x (by omega) h3).trans (g2 x h1 h2)
  have new : ∀ x, B ≤ x → x < w1.heap.size → o.ownBlock ≠ some x → f.ownBlock ≠ some x → SB B w3 o' f' x := by
    intro x hB h1 h2 h3
    refine ⟨hB, by omega, fun e => ?_, fun e => ?_⟩
    · rcases r2 x e with h | h
      · exact h2 h
      · omega
    · rcases r3 x e with h | h
      · exact h3 h
      · omega
  refine ⟨by rw [List.length_append, hF.len]; rfl, ?_, ?_, ?_, ?_⟩
  · rw [take_snoc ht, oc_snoc _ _ _ _ _ htl]
    exact owns_blk O (fun q hq => g3 q (own_lt O q hq).2 (hof q hq))
  · rw [take_snoc ht, fc_snoc _ _ _ _ _ htl]; exact L
  · intro q hq e
    rcases r3 q e with h | h
    · exact hof q hq h
    · have := (own_lt O q hq).2; omega
  · intro j a x y h1 h2
    by_cases hj : j < k
    · rw [List.getElem?_append_left (by rw [hF.len]; exact hj)] at h2
      exact FU_kept (fun z hz hz2 => both z hz2 hz.2.2.1 hz.2.2.2) (by omega) (fun z hz hz2 => new z hz.1 hz2 hz.2.2.1 hz.2.2.2) (wts a.kids) a.kids x y (Nat.le_refl _) (hF.kids j a x y h1 h2)
    · have hjk : j = k := by
        have := (List.getElem?_eq_some_iff.1 h2).1
        rw [List.length_append, hF.len] at this
        simp at this; omega
      subst hjk
      rw [List.getElem?_append_right (by rw [hF.len]; omega), hF.len] at h2
      simp at h2
      obtain ⟨rfl, rfl⟩ := h2
      rw [ht] at h1
      cases h1
      have no : ∀ z, lo ≤ z → o.ownBlock ≠ some z ∧ f.ownBlock ≠ some z := fun z hz => ⟨fun e => by have := ho z e; omega, fun e => by have := hf z e; omega⟩
      exact FU_kept (fun z hz hz2 => both z hz2 (no z hz.1).1 (no z hz.1).2) (by omega) (fun z hz hz2 => new z (by have := hz.1; omega) hz2 (no z hz.1).1 (no z hz.1).2) (wts t.kids) t.kids _ _ (Nat.le_refl _) hU
theorem oc_one : ∀ (l : List Tr) (G : List (Nat × Nat)), ∀ u ∈ oc l G, u.oneCell' = true
  | [], _, u, hu => by simp [oc] at hu
  | _ :: _, [], u, hu => by simp [oc] at hu
  | b :: r, (g', c') :: q, u, hu => by
    simp only [oc, List.mem_cons] at hu
    rcases hu with rfl | rfl | rfl | rfl | rfl | hu
    · rfl
    · rfl
    · rfl
    · rfl
    · rfl
    · exact oc_one r q u hu
theorem fc_one : ∀ (l : List Tr) (G : List (Nat × Nat)), ∀ u ∈ fc l G, u.oneCell' = true
  | [], _, u, hu => by simp [fc] at hu
  | _ :: _, [], u, hu => by simp [fc] at hu
  | b :: r, (g', c') :: q, u, hu => by
    simp only [fc, List.mem_cons] at hu
    rcases hu with rfl | rfl | rfl | rfl | rfl | hu
    · rfl
    · rfl
    · rfl
    · rfl
    · rfl
    · exact fc_one r q u hu
/-- A row of items behind an own row, or nothing behind it. -/
theorem wp_append_rows {w : World} {ops : Array Oper} {rest : List Oper} {o : Oper} {a : Act} {Q : Exit → Act → World → Prop} (hgd : o.guard = none) (s x : Operand)
    (ho : o.op = .call { callee := .builtin .append, args := #[s, x], argTypes := #[23, 23] }) (B : Nat) (v : Value) (n : Nat) (xs : List Value) (hs : a.eval s = v) (hown : w.ownsRow B 25 5 v n xs)
    (f : Value) (m : Nat) (ys : List Value) (hx : a.eval x = f) (hf : w.ownsRow B 25 5 f m ys) (hm : m = 0 → f = .slice none 0 0) (h1 : ∀ u ∈ ys, u.oneCell' = true) (hB : B ≤ w.heap.size) (hsz : n + m ≤ 1099511627776)
    (h : ∀ v' w', w'.ownsRow B 25 5 v' (n + m) (xs ++ ys) → w.grownBy w' v.ownBlock → (∀ g, v'.ownBlock = some g → v.ownBlock = some g ∨ w.heap.size ≤ g) → wpList Tryz.prog ops Q rest (a.put o.dst v') w') : wpList Tryz.prog ops Q (o :: rest) a w := by
  obtain ⟨i0, hi, hz0, hz1, hz2⟩ := info_parts Tryz.infoItm
  by_cases h0 : m = 0
  · subst h0
    have hf2 := hm rfl
    subst hf2
    have hy : ys = [] := List.eq_nil_of_length_eq_zero (by simpa using hf.1)
    subst hy
    refine wpList_plain hgd fun K hK' => ?_
    have hrun := run_append_owned_none (P := Tryz.prog) w B 23 o.type 25 i0 5 Tryz.underlying23 hi v n xs hown
    unfold Oper.wp
    simp [execOp, ho, resolve, invoke, builtin, hs, hx, hrun, Result.andThen]
    exact hK' _ _ (h v w (by simpa using hown) (World.grownBy.refl _ _) (fun g hg => .inl hg))
  · rcases hf.2 with ⟨_, h2⟩ | ⟨g, cap, cur, hv, _, hh, hn2, hn3⟩
    · exact absurd h2 h0
    · exact wp_append_items hgd s x ho B v n xs hs hown g m cap ys (hx.trans hv) hf.1 (by omega) (World.ownsRow.cells hf (by rw [hv]; rfl)) h1 hB hsz h
/-- When all is laid, the last row holds the message and its marks. -/
theorem FW_done {w w2 : World} {B : Nat} {o f v : Value} {l : List Tr} {G : List (Nat × Nat)} (hF : FW w B o f l.length l G) (hk : ∀ x, x < w.heap.size → o.ownBlock ≠ some x → w2.heap[x]? = w.heap[x]?) (hs : w.heap.size ≤ w2.heap.size) (hr : ∀ q, v.ownBlock = some q → o.ownBlock = some q ∨ w.heap.size ≤ q)
    (hO : w2.ownsRow B 25 5 v (l.length + l.length + 1) (oc l G ++ (fc l G ++ [.string ⟨endS.toArray⟩, .string ⟨#[]⟩, .string ⟨#[]⟩, .string ⟨#[]⟩, .slice none 0 0]))) :
    ∃ g c, v = .slice (some ⟨g, 0, none⟩) (2 * l.length + 1) c ∧ FU w2 (fun x => B ≤ x ∧ x < w2.heap.size) g c l := by
  rw [← List.append_assoc] at hO
  have h1 := oc_len l G hF.len.symm
  have h2 := fc_len l G hF.len.symm
  rcases hO.2 with ⟨_, h0⟩ | ⟨g, cap, cur, rfl, hb, hh, hn2, hn3⟩
  · omega
  · have hlt : g < w2.heap.size := (Array.getElem?_eq_some_iff.1 hh).1
    have hcell : ∀ j u, (oc l G ++ fc l G ++ [.string ⟨endS.toArray⟩, .string ⟨#[]⟩, .string ⟨#[]⟩, .string ⟨#[]⟩, .slice none 0 0])[j]? = some u → w2.cell? ⟨g, j, none⟩ = some u := by
      intro j u hj
      have := World.ownsRow.cells hO rfl j u hj
      rw [Addr.add_lit, Nat.zero_add] at this; exact this
    have co : ∀ j u, (oc l G)[j]? = some u → w2.cell? ⟨g, j, none⟩ = some u := fun j u hj => hcell j u (by
      have hj2 := (List.getElem?_eq_some_iff.1 hj).1
      rw [List.append_assoc, List.getElem?_append_left hj2]; exact hj)
    have cf : ∀ j u, (fc l G)[j]? = some u → w2.cell? ⟨g, l.length * 5 + j, none⟩ = some u := fun j u hj => hcell _ u (by
      have hj2 := (List.getElem?_eq_some_iff.1 hj).1
      rw [List.getElem?_append_left (by rw [List.length_append]; omega), List.getElem?_append_right (by omega), h1, Nat.add_sub_cancel_left]; exact hj)
    refine ⟨g, cap, by rw [Nat.two_mul], by omega, ⟨hb, hlt⟩, hlt, ?_, FL_mk (fun j a hj => ?_)⟩
    · refine hcell _ _ ?_
      rw [List.getElem?_append_right (by rw [List.length_append]; omega), List.length_append, h1, h2, show 2 * l.length * 5 - (l.length * 5 + l.length * 5) = 0 by omega]
      rfl
    · rw [Nat.zero_add]
      have hjl := (List.getElem?_eq_some_iff.1 hj).1
      obtain ⟨⟨ga, ca⟩, hg⟩ : ∃ p, G[j]? = some p := ⟨_, List.getElem?_eq_getElem (by rw [hF.len]; exact hjl)⟩
      obtain ⟨e0, e1, e2, e3, e4⟩ := oc_at l G j a ga ca hj hg
      obtain ⟨e5, e6⟩ := fc_at l G j a ga ca hj hg
      refine FI_iff.2 ⟨ga, ca, co _ _ e0, co _ _ e1, co _ _ e2, co _ _ e3, co _ _ e4, ?_, ?_, ?_⟩
      · rw [Nat.add_mul]; exact cf _ _ e5
      · rw [Nat.add_mul, Nat.add_assoc]; exact cf _ _ e6
      · exact FU_kept (fun z hz hz2 => hk z hz2 hz.2.2.1) hs (fun z hz hz2 => ⟨hz.1, by omega⟩) (wts a.kids) a.kids ga ca (Nat.le_refl _) (hF.kids j a ga ca hj hg)
set_option maxRecDepth 100000 in
set_option maxHeartbeats 8000000 in
theorem fullItems_any : ∀ (D : Nat) (l : List Tr) (v : Value) (w : World), wts l ≤ D → D ≤ 1073741824 → RT w v l →
    Calls Tryz.prog 58 #[v] w fun e w' => ∃ g c, e = .returned (.slice (some ⟨g, 0, none⟩) (2 * l.length + 1) c) ∧ FU w' (fun x => w.heap.size ≤ x ∧ x < w'.heap.size) g c l ∧ Below w.heap.size w w' := by
  intro D
  induction D using Nat.strongRecOn with
  | ind D ih =>
    intro l v w hD hD2 hv
    have IH := hide ih
    obtain ⟨i0, hi, hz0, hz1, hz2⟩ := info_parts Tryz.infoItm
    obtain ⟨a, cap, rfl, hr⟩ := hv
    have HR := hide hr
    clear hr ih
    have hll : l.length ≤ 1073741824 := by have := wts_len l; omega
    go_enter Tryz.func58, Tryz.ntmps58
    go_wp2_with fail
    go_loopw [3, 4, 5] (fun o f i wr => ∃ (k : Nat) (G : List (Nat × Nat)), k ≤ l.length ∧ i = .int .i64 k ∧ Hid (k = 0 → f = .slice none 0 0) ∧ Hid (FW wr w.heap.size o f k l G) ∧ Hid (Below w.heap.size w wr)) (fun _ _ i _ => l.length - (intOf i).toNat)
    case atStart => exact ⟨0, [], Nat.zero_le _, rfl, hide (fun _ => rfl), hide ⟨rfl, World.ownsRow_nil _ _ _ _, World.ownsRow_nil _ _ _ _, (fun g hg => by cases hg), (fun j a g c _ h2 => by simp at h2)⟩, hide (Below.refl _ _)⟩
    case round =>
      obtain ⟨k, G, hk, rfl, HN, HF, HB⟩ := hrel
      by_cases hlt : k < l.length
      · obtain ⟨t, ht⟩ : ∃ t, l[k]? = some t := ⟨_, List.getElem?_eq_getElem hlt⟩
        have HTT := hide ht
        have HWE := hide (wt_eq t)
        have HWA := hide (wts_at ht)
        obtain ⟨b, off, kv, ha, hbl, c0, c1, c2, c3, c4, hkv⟩ := RT_at HR.out ht
        have HC0 := hide c0
        have HC1 := hide c1
        have HC2 := hide c2
        have HC3 := hide c3
        have HC4 := hide c4
        have HBL := hide hbl
        subst ha
        obtain ⟨ka, kcap, rfl, hkr⟩ := hkv
        have HKV : Hid (RT w (.slice ka t.kids.length kcap) t.kids) := hide ⟨ka, kcap, rfl, hkr⟩
        clear hkr ht c0 c1 c2 c3 c4 hbl
        have c4 := (HB.out.cell (p := ⟨b, _, none⟩) HBL.out).trans HC4.out
        have HIH := hide (IH.out (wts t.kids) (by have := HWE.out; have := HWA.out; omega) t.kids (.slice ka t.kids.length kcap) wr (Nat.le_refl _) (by have := HWE.out; have := HWA.out; omega) (RT_later HKV.out HB.out))
        have hkl : t.kids.length ≤ 1073741824 := by have := wts_len t.kids; have := HWE.out; have := HWA.out; omega
        go_wp2_with fail
        refine HIH.out.mono ?_
        rintro e w1 ⟨g, c, rfl, hfu, hb1⟩
        have HFU := hide hfu
        have HB1 := hide hb1
        have HF1 := hide (HF.out.later hb1)
        have HOL := hide (fun q hq => (own_lt HF.out.out q hq).2)
        have HFLL := hide (fun q hq => (own_lt HF.out.full q hq).2)
        have HLO : Hid (w.heap.size ≤ wr.heap.size) := hide HB.out.size
        have B1 := hide (HB.out.trans (hb1.mono HB.out.size))
        obtain ⟨hc1, _⟩ := hfu
        have hcne : ¬ c = t.kids.length := by omega
        have hcle : (t.kids.length : Int) ≤ (c : Int) := by omega
        clear hb1 HF HB HIH c4 HN
        have BA := hide (B1.out.alloc B1.out.size (.cells (iC t.itm (.slice ka t.kids.length kcap)) 25))
        have c0 := (B1.out.cell (p := ⟨b, _, none⟩) HBL.out).trans HC0.out
        have c1 := (B1.out.cell (p := ⟨b, _, none⟩) HBL.out).trans HC1.out
        have c2 := (B1.out.cell (p := ⟨b, _, none⟩) HBL.out).trans HC2.out
        have c3 := (B1.out.cell (p := ⟨b, _, none⟩) HBL.out).trans HC3.out
        have c4 := (B1.out.cell (p := ⟨b, _, none⟩) HBL.out).trans HC4.out
        have d4 := (BA.out.cell (p := ⟨b, _, none⟩) HBL.out).trans HC4.out
        unfold iC at d4
        go_wp2_with (at_builtin; refine wp_append_items rfl _ _ rfl w.heap.size _ k _ rfl ((HF1.out.out.alloc _).alloc _) _ 1 1 [.string ⟨t.itm.tag.toArray⟩, .string ⟨t.itm.qual.toArray⟩, .string ⟨t.itm.text.toArray⟩, .string ⟨t.itm.name.toArray⟩, .slice (some ⟨g, 0, none⟩) t.kids.length c] rfl rfl (by decide) ?c1 ?c2 ?c3 ?c4 ?_)
        case c1 =>
          intro j u hj
          match j, hj with
          | 0, hj => simp at hj; subst hj; simp [Addr.add]
          | 1, hj => simp at hj; subst hj; simp [Addr.add]
          | 2, hj => simp at hj; subst hj; simp [Addr.add]
          | 3, hj => simp at hj; subst hj; simp [Addr.add]
          | 4, hj => simp at hj; subst hj; simp [Addr.add]
        case c2 => intro u hu; simp at hu; rcases hu with rfl | rfl | rfl | rfl | rfl <;> rfl
        case c3 => have := B1.out.size; simp; omega
        case c4 => omega
        intro v' w2 hown' hgrow hfresh
        have HO2 := hide hown'
        have HFR2 : Hid (∀ q, v'.ownBlock = some q → u3.ownBlock = some q ∨ w1.heap.size ≤ q) := hide (fun q hq => (hfresh q hq).imp id (fun h => by (try simp at h); omega))
        have HS2 : Hid (w1.heap.size ≤ w2.heap.size) := by show _ ≤ _; have := hgrow.size; (try simp at this); omega
        have HG2 : Hid (∀ x, x < w1.heap.size → u3.ownBlock ≠ some x → w2.heap[x]? = w1.heap[x]?) := hide (fun x hx hne => by
          rw [hgrow.block x (by simp; omega) (fun e => hne e.symm), (((Below.refl w1.heap.size w1).alloc (Nat.le_refl _) _).alloc (by simp) _).block x hx])
        have B2 : Hid (Below w.heap.size w w2) := hide (((B1.out.alloc B1.out.size _).alloc (by have := B1.out.size; simp; omega) _).grown hgrow (by have := B1.out.size; simp; omega) (fun q hq => (own_lt HF1.out.out q hq).1))
        have HF2 : Hid (w2.ownsRow w.heap.size 25 5 u4 k (fc (l.take k) G)) := hide (owns_blk HF1.out.full (fun q hq => HG2.out q (own_lt HF1.out.full q hq).2 (fun e => HF1.out.ne q e hq)))
        clear hown' hgrow hfresh c0 c1 c2 c3 c4 d4 BA
        go_wp2_with (at_builtin; refine wp_append_items rfl _ _ rfl w.heap.size _ k _ rfl (HF2.out.alloc _) _ 1 1 [.string ⟨#[35, 102, 117, 108, 108]⟩, .string ⟨#[]⟩, .string ⟨#[]⟩, .string ⟨#[]⟩, .slice (some ⟨g, 0, none⟩) (2 * t.kids.length + 1) c] rfl rfl (by decide) ?d1 ?d2 ?d3 ?d4 ?_)
        case d1 =>
          intro j u hj
          match j, hj with
          | 0, hj => simp at hj; subst hj; simp [Addr.add]
          | 1, hj => simp at hj; subst hj; simp [Addr.add]
          | 2, hj => simp at hj; subst hj; simp [Addr.add]
          | 3, hj => simp at hj; subst hj; simp [Addr.add]
          | 4, hj => simp at hj; subst hj; simp [Addr.add]
        case d2 => intro u hu; simp at hu; rcases hu with rfl | rfl | rfl | rfl | rfl <;> rfl
        case d3 => have := B2.out.size; simp; omega
        case d4 => omega
        intro v'' w3 hown'' hgrow hfresh
        have HFW := hide (FW_step HF1.out HTT.out HLO.out HOL.out HFLL.out HFU.out HO2.out HG2.out HS2.out HFR2.out hown'' (fun x hx hne => by
          rw [hgrow.block x (by simp; omega) (fun e => hne e.symm), ((Below.refl w2.heap.size w2).alloc (Nat.le_refl _) _).block x hx]) (by have := hgrow.size; (try simp at this); omega) (fun q hq => (hfresh q hq).imp id (fun h => by (try simp at h); omega)))
        have B3 : Hid (Below w.heap.size w w3) := hide ((B2.out.alloc B2.out.size _).grown hgrow (by have := B2.out.size; simp; omega) (fun q hq => (own_lt HF2.out q hq).1))
        clear hown'' hgrow hfresh
        go_wp2_with fail
        go_roundw
        case rel => exact ⟨k + 1, _, by omega, by go_num, hide (fun h => absurd h (Nat.succ_ne_zero k)), HFW, B3⟩
        case measure => simp [intOf]; omega
      · have hk' : k = l.length := by omega
        subst hk'
        go_wp2_with (at_builtin; refine wp_append_rows rfl _ _ rfl w.heap.size _ l.length _ rfl HF.out.out _ l.length _ rfl HF.out.full HN.out (fc_one _ _) ?e1 ?e2 ?_)
        case e1 => exact HB.out.size
        case e2 => omega
        intro v1 w1 hown1 hgrow hfresh
        have HO1 := hide hown1
        have B1 : Hid (Below w.heap.size w w1) := hide (HB.out.grown hgrow HB.out.size (fun q hq => (own_lt HF.out.out q hq).1))
        have HK1 : Hid (∀ x, x < wr.heap.size → u3.ownBlock ≠ some x → w1.heap[x]? = wr.heap[x]?) := hide (fun x hx hne => hgrow.block x hx (fun e => hne e.symm))
        have HS1 : Hid (wr.heap.size ≤ w1.heap.size) := hide hgrow.size
        have HR1 : Hid (∀ q, v1.ownBlock = some q → u3.ownBlock = some q ∨ wr.heap.size ≤ q) := hide hfresh
        clear hown1 hgrow hfresh
        go_wp2_with (at_builtin; refine wp_append_items rfl _ _ rfl w.heap.size _ _ _ rfl (HO1.out.alloc _) _ 1 1 [.string ⟨#[35, 101, 110, 100]⟩, .string ⟨#[]⟩, .string ⟨#[]⟩, .string ⟨#[]⟩, .slice none 0 0] rfl rfl (by decide) ?f1 ?f2 ?f3 ?f4 ?_)
        case f1 =>
          intro j u hj
          match j, hj with
          | 0, hj => simp at hj; subst hj; simp [Addr.add]
          | 1, hj => simp at hj; subst hj; simp [Addr.add]
          | 2, hj => simp at hj; subst hj; simp [Addr.add]
          | 3, hj => simp at hj; subst hj; simp [Addr.add]
          | 4, hj => simp at hj; subst hj; simp [Addr.add]
        case f2 => intro u hu; simp at hu; rcases hu with rfl | rfl | rfl | rfl | rfl <;> rfl
        case f3 => have := B1.out.size; simp; omega
        case f4 => omega
        intro v2 w2 hown2 hgrow hfresh
        have hk1 : ∀ x, x < w1.heap.size → v1.ownBlock ≠ some x → w2.heap[x]? = w1.heap[x]? := fun x hx hne => by
          rw [hgrow.block x (by simp; omega) (fun e => hne e.symm), ((Below.refl w1.heap.size w1).alloc (Nat.le_refl _) _).block x hx]
        have hs1 : w1.heap.size ≤ w2.heap.size := by have := hgrow.size; (try simp at this); omega
        have B2 : Hid (Below w.heap.size w w2) := hide ((B1.out.alloc B1.out.size _).grown hgrow (by have := B1.out.size; simp; omega) (fun q hq => (own_lt HO1.out q hq).1))
        have hd := FW_done (w2 := w2) HF.out (fun x hx hne => (hk1 x (by have := HS1.out; omega) (fun e => by
          rcases HR1.out x e with h | h
          · exact hne h
          · omega)).trans (HK1.out x hx hne)) (by have := HS1.out; omega) (fun q hq => by
          rcases hfresh q hq with h | h
          · exact HR1.out q h
          · right; have := HS1.out; (try simp at h); omega) hown2
        obtain ⟨g, c, rfl, hfu⟩ := hd
        have HFU := hide hfu
        clear hk1 hs1 hfu hown2 hgrow hfresh
        go_wp2_with fail
        go_ret
        exact ⟨g, c, rfl, HFU.out, B2.out⟩
end Go.Proofs.YtpkgaidnpooahaaGreatDoor
