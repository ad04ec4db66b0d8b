/-
  My own text: VW2, VW4 in one.
-/
import Derived.Test.YtdjhbecbbmdimaaGreatDoorVS18
import Derived.Test.YtdjhbecbbmdimaaGreatDoorBK1
import Derived.Test.YtdjhbecbbmdimaaGreatDoorGLL
import Derived.Test.YtdjhbecbbmdimaaGreatDoorVWS
import Derived.Maps.AppendAt
import Derived.Test.YtdjhbecbbmdimaaGreatDoorVW3
import Derived.Test.YtdjhbecbbmdimaaGreatDoorGAM
namespace Go.Proofs.YtdjhbecbbmdimaaGreatDoor
open Go.RowKit

/-- A row: the type of its elements, their size, its value, its length, its cells. -/
structure Rw where
  t : TypeId
  k : Nat
  v : Value
  n : Nat
  xs : List Value
def rwZ : Rw := ⟨39, 2, .slice none 0 0, 0, []⟩
def upR (r : Nat → Rw) (i : Nat) (x : Rw) : Nat → Rw := fun j => if j = i then x else r j
/-- The blocks that a view changes. -/
def Chg (g : Nat) (r : Nat → Rw) (b : Nat) : Prop := b = g ∨ ∃ i, (r i).v.ownBlock = some b
structure VV (g : Nat) (w : World) (r : Nat → Rw) (n : Nat) : Prop where
  blk : w.heap[g]? = some (.cells #[(r 0).v, (r 1).v, (r 2).v, (r 3).v, (r 4).v, .int .i64 (n : Int), (r 6).v, (r 7).v] 51 (0, 0))
  own : ∀ i, w.ownsRow 0 (r i).t (r i).k (r i).v (r i).n (r i).xs
  ap : ∀ i j, i ≠ j → ∀ b, (r i).v.ownBlock = some b → (r j).v.ownBlock ≠ some b
  ng : ∀ i, (r i).v.ownBlock ≠ some g
theorem VV.lt {g : Nat} {w : World} {r : Nat → Rw} {n : Nat} (h : VV g w r n) {b : Nat} (hb : Chg g r b) : b < w.heap.size := by
  rcases hb with rfl | ⟨i, hi⟩
  · exact (Array.getElem?_eq_some_iff.1 h.blk).1
  · exact (World.ownsRow.lt (h.own i) b hi).2
theorem VV.kept {g : Nat} {w w' : World} {r : Nat → Rw} {n : Nat} (h : VV g w r n) (hb : ∀ b, Chg g r b → w'.heap[b]? = w.heap[b]?) : VV g w' r n :=
  ⟨(hb g (.inl rfl)).trans h.blk, fun i => owns_blk (h.own i) (fun b k => hb b (.inr ⟨i, k⟩)), h.ap, h.ng⟩
theorem VV.later {g : Nat} {w w' : World} {r : Nat → Rw} {n : Nat} (h : VV g w r n) (hb : Below w.heap.size w w') : VV g w' r n := h.kept (fun b k => hb.block b (h.lt k))
theorem upR_same (r : Nat → Rw) (i : Nat) (x : Rw) : upR r i x i = x := if_pos rfl
theorem upR_ne (r : Nat → Rw) {i j : Nat} (x : Rw) (h : j ≠ i) : upR r i x j = r j := if_neg h
theorem VV.push {g : Nat} {W W2 : World} {r : Nat → Rw} {n : Nat} (h : VV g W r n) (i : Nat) (hi : i < 8) (h5 : i ≠ 5) (x : Rw) (ho : W2.ownsRow 0 x.t x.k x.v x.n x.xs) (hg : W.grownBy W2 (r i).v.ownBlock) (hl : ∀ b, x.v.ownBlock = some b → (r i).v.ownBlock = some b ∨ W.heap.size ≤ b) :
    VV g (W2.setCell ⟨g, i, none⟩ x.v) (upR r i x) n := by
  have hgl : g < W.heap.size := h.lt (.inl rfl)
  have hgb := (hg.block g hgl (fun e => h.ng i e.symm)).trans h.blk
  have hxg : x.v.ownBlock ≠ some g := fun e => by
    rcases hl g e with k | k
    · exact h.ng i k
    · omega
  have hs : ∀ b, b ≠ g → (W2.setCell ⟨g, i, none⟩ x.v).heap[b]? = W2.heap[b]? := fun b hb => Below.heap_setCell W2 ⟨g, i, none⟩ x.v b hb
  refine ⟨?_, fun j => ?_, fun j1 j2 hj b hb => ?_, fun j => ?_⟩
  · refine setB hgb i x.v ?_
    match i, hi, h5 with
    | 0, _, _ => rfl
    | 1, _, _ => rfl
    | 2, _, _ => rfl
    | 3, _, _ => rfl
    | 4, _, _ => rfl
    | 6, _, _ => rfl
    | 7, _, _ => rfl
  · by_cases e : j = i
    · subst e
      rw [upR_same]
      exact owns_blk ho (fun b hb => hs b (fun e => hxg (by rw [← e]; exact hb)))
    · rw [upR_ne r x e]
      refine owns_blk (h.own j) (fun b hb => (hs b (fun e2 => h.ng j (by rw [← e2]; exact hb))).trans (hg.block b (h.lt (.inr ⟨j, hb⟩)) (fun e2 => h.ap j i e b hb e2.symm)))
  · by_cases e1 : j1 = i
    · subst e1
      rw [upR_same] at hb
      rw [upR_ne r x (Ne.symm hj)]
      intro k
      rcases hl b hb with k2 | k2
      · exact h.ap j1 j2 hj b k2 k
      · have := h.lt (.inr ⟨j2, k⟩); omega
    · rw [upR_ne r x e1] at hb
      by_cases e2 : j2 = i
      · subst e2
        rw [upR_same]
        intro k
        rcases hl b k with k2 | k2
        · exact h.ap j1 j2 hj b hb k2
        · have := h.lt (.inr ⟨j1, hb⟩); omega
      · rw [upR_ne r x e2]
        exact h.ap j1 j2 hj b hb
  · by_cases e : j = i
    · subst e; rw [upR_same]; exact hxg
    · rw [upR_ne r x e]; exact h.ng j
theorem VV.set {g : Nat} {W W2 : World} {r : Nat → Rw} {n : Nat} (h : VV g W r n) (i : Nat) (x : Rw) (hv : x.v = (r i).v) (ho : W2.ownsRow 0 x.t x.k x.v x.n x.xs) (hg : W.grownBy W2 (r i).v.ownBlock) : VV g W2 (upR r i x) n := by
  have hvv : ∀ j, (upR r i x j).v = (r j).v := fun j => by
    by_cases e : j = i
    · subst e; rw [upR_same]; exact hv
    · rw [upR_ne r x e]
  have hgl : g < W.heap.size := h.lt (.inl rfl)
  refine ⟨?_, fun j => ?_, fun j1 j2 hj b hb => ?_, fun j => ?_⟩
  · rw [hvv, hvv, hvv, hvv, hvv, hvv, hvv]
    exact (hg.block g hgl (fun e => h.ng i e.symm)).trans h.blk
  · by_cases e : j = i
    · subst e; rw [upR_same]; exact ho
    · rw [upR_ne r x e]
      exact owns_blk (h.own j) (fun b hb => hg.block b (h.lt (.inr ⟨j, hb⟩)) (fun e2 => h.ap j i e b hb e2.symm))
  · rw [hvv] at hb ⊢
    exact h.ap j1 j2 hj b hb
  · rw [hvv]; exact h.ng j
theorem VV.puts {g : Nat} {W : World} {r : Nat → Rw} {n : Nat} (h : VV g W r n) (m : Nat) : VV g (W.setCell ⟨g, 5, none⟩ (.int .i64 (m : Int))) r m := by
  have hs : ∀ b, b ≠ g → (W.setCell ⟨g, 5, none⟩ (.int .i64 (m : Int))).heap[b]? = W.heap[b]? := fun b hb => Below.heap_setCell W ⟨g, 5, none⟩ _ b hb
  exact ⟨setB h.blk 5 _ rfl, fun j => owns_blk (h.own j) (fun b hb => hs b (fun e => h.ng j (by rw [← e]; exact hb))), h.ap, h.ng⟩
theorem chg_push {g : Nat} {r : Nat → Rw} {i : Nat} {x : Rw} {N b : Nat} (hl : ∀ b, x.v.ownBlock = some b → (r i).v.ownBlock = some b ∨ N ≤ b) (h : Chg g (upR r i x) b) : Chg g r b ∨ N ≤ b := by
  rcases h with h | ⟨j, hj⟩
  · exact .inl (.inl h)
  · by_cases e : j = i
    · subst e
      rw [upR_same] at hj
      rcases hl b hj with k | k
      · exact .inl (.inr ⟨j, k⟩)
      · exact .inr k
    · rw [upR_ne r x e] at hj
      exact .inl (.inr ⟨j, hj⟩)
theorem FrB.setC {F : Nat → Prop} {w W : World} (h : FrB F w W) {g : Nat} (i : Nat) (v : Value) (hg : F g ∨ w.heap.size ≤ g) : FrB F w (W.setCell ⟨g, i, none⟩ v) := by
  have hb : Below g W (W.setCell ⟨g, i, none⟩ v) := (Below.refl g W).setCell (p := ⟨g, i, none⟩) (Nat.le_refl _) v
  refine ⟨hb.os.trans h.os, hb.tape.trans h.tape, hb.output.trans h.output, Nat.le_trans h.size hb.size, fun b hlt hn => ?_⟩
  have hne : b ≠ g := fun e => by
    subst e
    rcases hg with k | k
    · exact hn k
    · omega
  exact (Below.heap_setCell W ⟨g, i, none⟩ v b hne).trans (h.block b hlt hn)
theorem FrB.row {F : Nat → Prop} {w W : World} {o : Option Nat} (h : w.grownBy W o) (ho : ∀ b, o = some b → F b ∨ w.heap.size ≤ b) : FrB F w W :=
  ⟨h.os, h.tape, h.output, h.size, fun b hlt hn => h.block b hlt (fun e => by
    rcases ho b e.symm with k | k
    · exact hn k
    · omega)⟩
/-- A cell's four values. -/
def Cl.vs (c : Cl) : List Value := [.int .i64 c.av, c.mv, .int .i64 c.st, c.lv]
def cc : List Cl → List Value
  | [] => []
  | c :: t => c.vs ++ cc t
theorem cc_len (L : List Cl) : (cc L).length = L.length * 4 := by
  induction L with
  | nil => rfl
  | cons c t ih => show (c.vs ++ cc t).length = (t.length + 1) * 4; rw [List.length_append, ih]; show 4 + t.length * 4 = _; omega
theorem cc_app (a b : List Cl) : cc (a ++ b) = cc a ++ cc b := by
  induction a with
  | nil => rfl
  | cons c t ih => show c.vs ++ cc (t ++ b) = (c.vs ++ cc t) ++ cc b; rw [ih, List.append_assoc]
theorem cc_at : ∀ {L : List Cl} {j : Nat} {c : Cl}, L[j]? = some c → ∀ {i : Nat}, i < 4 → (cc L)[j * 4 + i]? = c.vs[i]?
  | q :: t, 0, c, h, i, hi => by
    simp at h
    subst h
    show (q.vs ++ cc t)[0 * 4 + i]? = _
    rw [Nat.zero_mul, Nat.zero_add, List.getElem?_append_left (by show i < 4; exact hi)]
  | q :: t, j + 1, c, h, i, hi => by
    have h' : t[j]? = some c := by simpa using h
    have ih := cc_at h' hi
    show (q.vs ++ cc t)[(j + 1) * 4 + i]? = _
    rw [List.getElem?_append_right (by show 4 ≤ _; omega), ← ih]
    congr 1
    show (j + 1) * 4 + i - 4 = _
    omega
theorem cc_one (L : List Cl) (h : ∀ c ∈ L, c.mv.oneCell' = true ∧ c.lv.oneCell' = true) : ∀ u ∈ cc L, u.oneCell' = true := by
  induction L with
  | nil => intro u hu; cases hu
  | cons c t ih =>
    intro u hu
    rcases List.mem_append.1 hu with k | k
    · have := h c (by simp)
      rcases List.mem_cons.1 k with e | k
      · rw [e]; rfl
      · rcases List.mem_cons.1 k with e | k
        · rw [e]; exact this.1
        · rcases List.mem_cons.1 k with e | k
          · rw [e]; rfl
          · rw [List.mem_singleton.1 k]; exact this.2
    · exact ih (fun c hc => h c (List.mem_cons_of_mem _ hc)) u k
/-- Told and was: the same, lent and copied. -/
structure TWp (w : World) (t u : Cl) : Prop where
  same : t.av = u.av ∧ t.ml = u.ml ∧ t.st = u.st ∧ t.ll = u.ll
  cp : CR w u
  lm : ∃ gm cm, t.mv = .slice (some ⟨gm, 0, none⟩) t.ml.length cm ∧ BL.LentM w 0 gm cm t.ml
  lg : ∃ gl cl, t.lv = .slice (some ⟨gl, 0, none⟩) t.ll.length cl ∧ LG.LentM w 0 gl cl t.ll
def own2 (c : Cl) (b : Nat) : Prop := c.mv.ownBlock = some b ∨ c.lv.ownBlock = some b
theorem TWp.kept {w w' : World} {t u : Cl} (h : TWp w t u) (hs : w.heap.size ≤ w'.heap.size) (hb : ∀ b, own2 t b ∨ own2 u b → w'.heap[b]? = w.heap[b]?) : TWp w' t u := by
  obtain ⟨gm, cm, hm, hm2⟩ := h.lm
  obtain ⟨gl, cl, hl, hl2⟩ := h.lg
  refine ⟨h.same, h.cp.kept hs (fun b k _ => hb b (.inr k)), ⟨gm, cm, hm, hm2.base, owns_blk hm2.own (fun b k => hb b (.inl (.inl ?_)))⟩, ⟨gl, cl, hl, hl2.base, owns_blk hl2.own (fun b k => hb b (.inl (.inr ?_)))⟩⟩
  · rw [hm]; exact k
  · rw [hl]; exact k
/-- The lists that a view reads. -/
structure VC (g : Nat) (w : World) (H : Nat → Prop) (C TL WL : List Cl) (r : Nat → Rw) : Prop where
  cl : ∀ c ∈ C, CR w c ∧ c.ml.length ≤ 1000000 ∧ c.ll.length ≤ 1000000
  tw : ∀ (i : Nat) (t u : Cl), TL[i]? = some t → WL[i]? = some u → TWp w t u
  ch : ∀ c, (c ∈ C ∨ c ∈ TL ∨ c ∈ WL) → ∀ b, own2 c b → ¬ Chg g r b ∧ H b
theorem VC.step {g : Nat} {W W' : World} {H H' : Nat → Prop} {C TL WL : List Cl} {r r' : Nat → Rw} (h : VC g W H C TL WL r) (hf : FrB (Chg g r) W W') (hr : ∀ b, Chg g r' b → Chg g r b ∨ W.heap.size ≤ b) (hl : ∀ b, H b → b < W.heap.size) (hH : ∀ b, H b → H' b) : VC g W' H' C TL WL r' := by
  have hk : ∀ c, (c ∈ C ∨ c ∈ TL ∨ c ∈ WL) → ∀ b, own2 c b → W'.heap[b]? = W.heap[b]? := fun c hc b hb => by
    have h1 := h.ch c hc b hb
    exact hf.block b (hl b h1.2) h1.1
  refine ⟨fun c hc => ⟨(h.cl c hc).1.kept hf.size (fun b hb _ => hk c (.inl hc) b hb), (h.cl c hc).2⟩, fun i t u ht hu => (h.tw i t u ht hu).kept hf.size (fun b hb => ?_), fun c hc b hb => ?_⟩
  · rcases hb with k | k
    · exact hk t (.inr (.inl (List.mem_of_getElem? ht))) b k
    · exact hk u (.inr (.inr (List.mem_of_getElem? hu))) b k
  · have h1 := h.ch c hc b hb
    refine ⟨fun k => ?_, hH b h1.2⟩
    rcases hr b k with k | k
    · exact h1.1 k
    · have := hl b h1.2; omega
theorem VC.later {g : Nat} {W W' : World} {H H' : Nat → Prop} {C TL WL : List Cl} {r : Nat → Rw} (h : VC g W H C TL WL r) (hb : Below W.heap.size W W') (hl : ∀ b, H b → b < W.heap.size) (hH : ∀ b, H b → H' b) : VC g W' H' C TL WL r := h.step (FrB.ofBelow hb) (fun _ k => .inl k) hl hH
theorem VC.addT {g : Nat} {W : World} {H : Nat → Prop} {C TL WL : List Cl} {r : Nat → Rw} (h : VC g W H C TL WL r) (hw : WL.length = TL.length) (t : Cl) (ht : ∀ b, own2 t b → ¬ Chg g r b ∧ H b) : VC g W H C (TL ++ [t]) WL r := by
  refine ⟨h.cl, fun i a u ha hu => h.tw i a u ?_ hu, fun c hc b hb => ?_⟩
  · have hi := (List.getElem?_eq_some_iff.1 hu).1
    rw [List.getElem?_append_left (by omega)] at ha
    exact ha
  · rcases hc with k | k | k
    · exact h.ch c (.inl k) b hb
    · rcases List.mem_append.1 k with k | k
      · exact h.ch c (.inr (.inl k)) b hb
      · rw [List.mem_singleton.1 k] at hb; exact ht b hb
    · exact h.ch c (.inr (.inr k)) b hb
theorem VC.addW {g : Nat} {W : World} {H : Nat → Prop} {C TL WL : List Cl} {r : Nat → Rw} {t : Cl} (h : VC g W H C (TL ++ [t]) WL r) (hw : WL.length = TL.length) (u : Cl) (hu : ∀ b, own2 u b → ¬ Chg g r b ∧ H b) (htu : TWp W t u) : VC g W H C (TL ++ [t]) (WL ++ [u]) r := by
  refine ⟨h.cl, fun i a c ha hc => ?_, fun c hc b hb => ?_⟩
  · by_cases e : i < WL.length
    · rw [List.getElem?_append_left e] at hc
      exact h.tw i a c ha hc
    · have hi := (List.getElem?_eq_some_iff.1 hc).1
      rw [List.length_append] at hi
      have hi2 : i = WL.length := by simp at hi; omega
      subst hi2
      rw [List.getElem?_append_right (Nat.le_refl _), Nat.sub_self] at hc
      rw [hw, List.getElem?_append_right (Nat.le_refl _), Nat.sub_self] at ha
      simp at ha hc
      subst ha
      subst hc
      exact htu
  · rcases hc with k | k | k
    · exact h.ch c (.inl k) b hb
    · exact h.ch c (.inr (.inl k)) b hb
    · rcases List.mem_append.1 k with k | k
      · exact h.ch c (.inr (.inr k)) b hb
      · rw [List.mem_singleton.1 k] at hb; exact hu b hb
theorem VC.turnC {g : Nat} {W : World} {H : Nat → Prop} {C C' TL WL : List Cl} {r : Nat → Rw} (h : VC g W H C TL WL r) (c : Cl) (hc : CR W c ∧ c.ml.length ≤ 1000000 ∧ c.ll.length ≤ 1000000) (hb : ∀ b, own2 c b → ¬ Chg g r b ∧ H b) (hC : ∀ x ∈ C', x ∈ C ∨ x = c) : VC g W H C' TL WL r := by
  refine ⟨fun x hx => ?_, h.tw, fun x hx b k => ?_⟩
  · rcases hC x hx with e | e
    · exact h.cl x e
    · rw [e]; exact hc
  · rcases hx with e | e
    · rcases hC x e with e | e
      · exact h.ch x (.inl e) b k
      · rw [e] at k; exact hb b k
    · exact h.ch x (.inr e) b k
theorem nF_nF {F : Nat → Prop} {w W1 W2 : World} (h1 : w.heap.size ≤ W1.heap.size) (h2 : W1.heap.size ≤ W2.heap.size) : nF (nF F w W1) W1 W2 = nF F w W2 := by
  funext b
  refine propext ⟨fun h => ?_, fun h => ?_⟩
  · rcases h with (h | h) | h
    · exact .inl h
    · exact .inr ⟨h.1, Nat.lt_of_lt_of_le h.2 h2⟩
    · exact .inr ⟨Nat.le_trans h1 h.1, h.2⟩
  · rcases h with h | h
    · exact .inl (.inl h)
    · by_cases e : b < W1.heap.size
      · exact .inl (.inr ⟨h.1, e⟩)
      · exact .inr ⟨by omega, h.2⟩
theorem nF_self (F : Nat → Prop) (w : World) : nF F w w = F := by
  funext b
  exact propext ⟨fun h => h.elim id (fun k => by have := k.1; have := k.2; omega), .inl⟩
end Go.Proofs.YtdjhbecbbmdimaaGreatDoor
namespace Go.Proofs.YtdjhbecbbmdimaaGreatDoor
open Go.RowKit

theorem Tryz.infoC17 : (Tryz.prog.info? 64).map (fun i => (i.zero, i.size, i.bytes)) = some (some (.agg #[.int .i64 0, .slice none 0 0, .int .i64 0, .slice none 0 0]), 4, 64) := by kernel_rfl
theorem Tryz.infoM17 : (Tryz.prog.info? 58).map (fun i => (i.zero, i.size, i.bytes)) = some (some (.slice none 0 0), 1, 24) := by kernel_rfl
theorem Tryz.infoL17 : (Tryz.prog.info? 22).map (fun i => (i.zero, i.size, i.bytes)) = some (some (.slice none 0 0), 1, 24) := by kernel_rfl
/-- What a view holds: keys, cells, what it was asked, puts, what was put, and how many calls there were. -/
structure VX where
  K : List Ky
  C : List Cl
  A : List Ky
  n : Nat
  M : List Value
  G : List Value
  k : Nat
/-- Where a key stands first. -/
def ix : List Ky → Ky → Nat
  | [], _ => 0
  | a :: t, q => if a = q then 0 else ix t q + 1
theorem ix_at : ∀ {K : List Ky} {q : Ky} {i : Nat}, (∀ j, j < i → K[j]? ≠ some q) → K[i]? = some q → ix K q = i
  | [], _, _, _, h => by simp at h
  | a :: t, q, 0, _, h => by simp at h; rw [ix, if_pos h]
  | a :: t, q, i + 1, hn, h => by
    have h0 : ¬ a = q := fun e => hn 0 (by omega) (by simp [e])
    rw [ix, if_neg h0, ix_at (K := t) (q := q) (i := i) (fun j hj => by have := hn (j + 1) (by omega); simpa using this) (by simpa using h)]
theorem ix_no : ∀ {K : List Ky} {q : Ky}, (∀ j, j < K.length → K[j]? ≠ some q) → ix K q = K.length
  | [], _, _ => rfl
  | a :: t, q, hn => by
    have h0 : ¬ a = q := fun e => hn 0 (by simp) (by simp [e])
    rw [ix, if_neg h0, ix_no (K := t) (q := q) (fun j hj => by have := hn (j + 1) (by simp; omega); simpa using this)]
    rfl
def vbk (x : VX) (q : Ky) : CX := ((x.C[ix x.K q]?).map Cl.cx).getD cxZ
def vgx (x : VX) (q : Ky) : VX := { x with A := x.A ++ [q], k := x.k + 1 }
def vpx (x : VX) (q : Ky) (c : Cl) : VX := if ix x.K q < x.K.length then { x with A := x.A ++ [q], n := x.n + 1, M := x.M ++ [c.mv], G := x.G ++ [c.lv], C := x.C.set (ix x.K q) c, k := x.k + 1 } else { x with A := x.A ++ [q], n := x.n + 1, M := x.M ++ [c.mv], G := x.G ++ [c.lv], K := x.K ++ [q], C := x.C ++ [c], k := x.k + 1 }
def shp (y : Rw) (t : TypeId) (k n : Nat) (xs : List Value) : Prop := y.t = t ∧ y.k = k ∧ y.n = n ∧ y.xs = xs
structure RS (x : VX) (TL WL : List Cl) (r : Nat → Rw) : Prop where
  s0 : shp (r 0) 39 2 x.K.length (KY.mc x.K)
  s1 : shp (r 1) 64 4 x.C.length (cc x.C)
  s2 : shp (r 2) 64 4 TL.length (cc TL)
  s3 : shp (r 3) 64 4 WL.length (cc WL)
  s4 : shp (r 4) 39 2 x.A.length (KY.mc x.A)
  s6 : shp (r 6) 58 1 x.M.length x.M
  s7 : shp (r 7) 22 1 x.G.length x.G
def LNx (x : VX) (TL WL : List Cl) : Prop := x.C.length = x.K.length ∧ x.K.length ≤ 1000000 + x.k ∧ x.A.length ≤ 1000000 + x.k ∧ TL.length ≤ 1000000 + x.k ∧ WL.length ≤ 1000000 + x.k ∧ x.M.length ≤ 1000000 + x.k ∧ x.G.length ≤ 1000000 + x.k ∧ x.n ≤ 1000000 + x.k
/-- A view that is asked: w is the world ahead of the call, W the world at hand. -/
structure VR (g : Nat) (w W : World) (F H : Nat → Prop) (n : Nat) (C TL WL : List Cl) (r : Nat → Rw) : Prop where
  vv : VV g W r n
  vc : VC g W (nF H w W) C TL WL r
  inF : ∀ b, Chg g r b → nF F w W b
  sub : ∀ b, F b → H b
  low : ∀ b, H b → b < w.heap.size
  fr : FrB F w W
theorem nF_mono {F : Nat → Prop} {w W W' : World} (h : W.heap.size ≤ W'.heap.size) {b : Nat} (k : nF F w W b) : nF F w W' b := k.imp id (fun k => ⟨k.1, Nat.lt_of_lt_of_le k.2 h⟩)
theorem VR.lo {g : Nat} {w W : World} {F H : Nat → Prop} {n : Nat} {C TL WL : List Cl} {r : Nat → Rw} (h : VR g w W F H n C TL WL r) {b : Nat} (k : nF H w W b) : b < W.heap.size := by
  rcases k with k | k
  · exact Nat.lt_of_lt_of_le (h.low b k) h.fr.size
  · exact k.2
theorem VR.below {g : Nat} {w W W' : World} {F H : Nat → Prop} {n : Nat} {C TL WL : List Cl} {r : Nat → Rw} (h : VR g w W F H n C TL WL r) (hb : Below W.heap.size W W') : VR g w W' F H n C TL WL r :=
  ⟨h.vv.later hb, h.vc.later hb (fun _ k => h.lo k) (fun _ k => nF_mono hb.size k), fun b k => nF_mono hb.size (h.inF b k), h.sub, h.low, h.fr.trans (FrB.ofBelow (F := F) hb) (fun _ _ k => k)⟩
theorem VR.app {g : Nat} {w W : World} {F H : Nat → Prop} {n : Nat} {C TL WL C' TL' WL' : List Cl} {r : Nat → Rw} (h : VR g w W F H n C TL WL r) (i : Nat) (hi : i < 8) (h5 : i ≠ 5) {e : TypeId} {sz m : Nat} {xs : List Value} (hsh : shp (r i) e sz m xs)
    (t ty : TypeId) (inf : TypeInfo) (z : Value) (by_ : Nat) (ht : Tryz.prog.underlying t = some (.slice e)) (hinf : Tryz.prog.info? e = some inf) (hz : inf.zero = some z) (hs : inf.size = sz) (hby : inf.bytes = by_) (hzs : z.cells.size = sz) (hk : 0 < sz) (hb1 : by_ ≤ 64)
    (vs : List Value) (hl : vs.length = sz) (h1 : ∀ u ∈ vs, u.oneCell' = true) (hm : m ≤ 100000000) (o : Obj) (ho : o = .cells vs.toArray e (0, 0)) (hvc : VC g W (nF H w W) C' TL' WL' r) :
    ∃ v' w', (Builtin.append_ #[t, t] ty #[(r i).v, .slice (some ⟨W.heap.size, 0, none⟩) 1 1]).run Tryz.prog (W.alloc o) = .ok v' w' ∧ (∀ b, b < W.heap.size → (r i).v.ownBlock ≠ some b → w'.heap[b]? = W.heap[b]?) ∧ FrB (Chg g r) W (w'.setCell ⟨g, i, none⟩ v') ∧ (∀ b, Chg g (upR r i ⟨e, sz, v', m + 1, xs ++ vs⟩) b → Chg g r b ∨ W.heap.size ≤ b) ∧ VR g w (w'.setCell ⟨g, i, none⟩ v') F H n C' TL' WL' (upR r i ⟨e, sz, v', m + 1, xs ++ vs⟩) := by
  obtain ⟨q1, q2, q3, q4⟩ := hsh
  have hB : Below W.heap.size W (W.alloc o) := (Below.refl _ _).alloc (Nat.le_refl _) o
  have hown := h.vv.own i
  rw [q1, q2, q3, q4] at hown
  have hnews : ∀ j u, vs[j]? = some u → (W.alloc o).cell? ((⟨W.heap.size, 0, none⟩ : Addr).add j) = some u := fun j u hj => by
    have hn := alloc_new W o
    rw [ho] at hn
    have hc := cell_of_row _ _ j _ _ _ hn
    have ha : (⟨W.heap.size, 0, none⟩ : Addr).add j = ⟨W.heap.size, j, none⟩ := by
      simp only [Addr.add, Nat.zero_add]
      split
      · next e => rw [e]
      · rfl
    rw [ha, ho, hc]
    simpa using hj
  obtain ⟨v', w', hrun, h2, h3, _, h4⟩ := Go.run_append_own_at (P := Tryz.prog) (W.alloc o) 0 t ty e inf z sz by_ ht hinf hz hs hby hzs hk (r i).v m xs (owns_lat hown hB) ⟨W.heap.size, 0, none⟩ 1 1 vs (by rw [hl, Nat.one_mul]) hnews h1 (by unfold maxLen; omega) (by have : (m + 1) * by_ ≤ 100000001 * 64 := Nat.mul_le_mul (by omega) hb1; omega) (Nat.zero_le _)
  have hl4 : ∀ b, v'.ownBlock = some b → (r i).v.ownBlock = some b ∨ W.heap.size ≤ b := fun b k => by
    rcases h4 with h4 | h4
    · exact .inl (h4 ▸ k)
    · right
      rw [h4] at k
      injection k with k
      have := hB.size
      omega
  have hg : W.grownBy w' (r i).v.ownBlock := ⟨h3.os.trans hB.os, h3.tape.trans hB.tape, h3.output.trans hB.output, Nat.le_trans hB.size h3.size, fun b hb hne => (h3.block b (Nat.lt_of_lt_of_le hb hB.size) hne).trans (hB.block b hb)⟩
  have hf : FrB (Chg g r) W w' := FrB.row hg (fun b k => .inl (.inr ⟨i, k⟩))
  have hf2 : FrB (Chg g r) W (w'.setCell ⟨g, i, none⟩ v') := hf.setC i v' (.inl (.inl rfl))
  have hch : ∀ b, Chg g (upR r i ⟨e, sz, v', m + 1, xs ++ vs⟩) b → Chg g r b ∨ W.heap.size ≤ b := fun b k => chg_push (x := ⟨e, sz, v', m + 1, xs ++ vs⟩) hl4 k
  have hvv := h.vv.push i hi h5 ⟨e, sz, v', m + 1, xs ++ vs⟩ h2 hg hl4
  refine ⟨v', w', hrun, fun b hb hne => hg.block b hb (fun k => hne k.symm), hf2, hch, hvv, hvc.step hf2 hch (fun _ k => h.lo k) (fun _ k => nF_mono hf2.size k), fun b k => ?_, h.sub, h.low, h.fr.trans hf2 (fun b hb k => ?_)⟩
  · rcases hch b k with k2 | k2
    · exact nF_mono hf2.size (h.inF b k2)
    · exact .inr ⟨Nat.le_trans h.fr.size k2, hvv.lt k⟩
  · rcases h.inF b k with k2 | k2
    · exact k2
    · have := k2.1; omega
theorem owns_sl {B : Nat} {e : TypeId} {k : Nat} {v : Value} {n : Nat} {xs : List Value} {w : World} (h : w.ownsRow B e k v n xs) : ∃ a c, v = .slice a n c := by
  rcases h.2 with ⟨h0, hn⟩ | ⟨g, cap, cur, hv, _⟩
  · exact ⟨none, 0, by rw [h0, hn]⟩
  · exact ⟨_, _, hv⟩
/-- A view, as the law's V says. -/
def VSt (g : Nat) (w : World) (F H : Nat → Prop) (x : VX) : Prop := ∃ r TL WL, VR g w w F H x.n x.C TL WL r ∧ RS x TL WL r ∧ WL.length = TL.length ∧ LNx x TL WL
theorem VSt.keep {g : Nat} {w w' : World} {F H : Nat → Prop} {x : VX} (h : VSt g w F H x) (hs : w.heap.size ≤ w'.heap.size) (hb : ∀ b, H b → w'.heap[b]? = w.heap[b]?) : VSt g w' F H x := by
  obtain ⟨r, TL, WL, hr, hR, h1, h2⟩ := h
  have e1 := nF_self H w
  have e2 := nF_self F w
  have e3 := nF_self H w'
  have e4 := nF_self F w'
  have hF : ∀ b, Chg g r b → F b := fun b k => by have := hr.inF b k; rw [e2] at this; exact this
  have hvc := hr.vc
  rw [e1] at hvc
  refine ⟨r, TL, WL, ⟨hr.vv.kept (fun b k => hb b (hr.sub b (hF b k))), ?_, fun b k => by rw [e4]; exact hF b k, hr.sub, fun b k => Nat.lt_of_lt_of_le (hr.low b k) hs, FrB.refl _ _⟩, hR, h1, h2⟩
  rw [e3]
  have hk : ∀ c, (c ∈ x.C ∨ c ∈ TL ∨ c ∈ WL) → ∀ b, own2 c b → w'.heap[b]? = w.heap[b]? := fun c hc b k => hb b (hvc.ch c hc b k).2
  exact ⟨fun c hc => ⟨(hvc.cl c hc).1.kept hs (fun b k _ => hk c (.inl hc) b k), (hvc.cl c hc).2⟩, fun i t u ht hu => (hvc.tw i t u ht hu).kept hs (fun b k => k.elim (hk t (.inr (.inl (List.mem_of_getElem? ht))) b) (hk u (.inr (.inr (List.mem_of_getElem? hu))) b)), hvc.ch⟩
theorem VR.ended {g : Nat} {w W : World} {F H : Nat → Prop} {n : Nat} {C TL WL : List Cl} {r : Nat → Rw} (h : VR g w W F H n C TL WL r) (H' : Nat → Prop) (hH : ∀ b, nF H w W b → H' b) (hl : ∀ b, H' b → b < W.heap.size) : VR g W W (nF F w W) H' n C TL WL r := by
  refine ⟨h.vv, ?_, fun b k => by rw [nF_self]; exact h.inF b k, fun b k => hH b (k.imp (h.sub b) id), hl, FrB.refl _ _⟩
  rw [nF_self]
  exact ⟨h.vc.cl, h.vc.tw, fun c hc b k => ⟨(h.vc.ch c hc b k).1, hH b (h.vc.ch c hc b k).2⟩⟩
theorem RS.pA {x : VX} {TL WL : List Cl} {r : Nat → Rw} (h : RS x TL WL r) (q0 q1 : Int) (v : Value) (k : Nat) : RS { x with A := x.A ++ [(q0, q1)], k := k } TL WL (upR r 4 ⟨39, 2, v, x.A.length + 1, KY.mc x.A ++ [.int .i64 q0, .int .i64 q1]⟩) :=
  ⟨by rw [upR_ne r _ (by decide)]; exact h.s0, by rw [upR_ne r _ (by decide)]; exact h.s1, by rw [upR_ne r _ (by decide)]; exact h.s2, by rw [upR_ne r _ (by decide)]; exact h.s3, by rw [upR_same]; exact ⟨rfl, rfl, by simp, by rw [KY.mc_app]; rfl⟩, by rw [upR_ne r _ (by decide)]; exact h.s6, by rw [upR_ne r _ (by decide)]; exact h.s7⟩
theorem RS.pT {x : VX} {TL WL : List Cl} {r : Nat → Rw} (h : RS x TL WL r) (c : Cl) (v : Value) : RS x (TL ++ [c]) WL (upR r 2 ⟨64, 4, v, TL.length + 1, cc TL ++ c.vs⟩) :=
  ⟨by rw [upR_ne r _ (by decide)]; exact h.s0, by rw [upR_ne r _ (by decide)]; exact h.s1, by rw [upR_same]; exact ⟨rfl, rfl, by simp, by rw [cc_app]; simp [cc]⟩, by rw [upR_ne r _ (by decide)]; exact h.s3, by rw [upR_ne r _ (by decide)]; exact h.s4, by rw [upR_ne r _ (by decide)]; exact h.s6, by rw [upR_ne r _ (by decide)]; exact h.s7⟩
theorem RS.pW {x : VX} {TL WL : List Cl} {r : Nat → Rw} (h : RS x TL WL r) (c : Cl) (v : Value) : RS x TL (WL ++ [c]) (upR r 3 ⟨64, 4, v, WL.length + 1, cc WL ++ c.vs⟩) :=
  ⟨by rw [upR_ne r _ (by decide)]; exact h.s0, by rw [upR_ne r _ (by decide)]; exact h.s1, by rw [upR_ne r _ (by decide)]; exact h.s2, by rw [upR_same]; exact ⟨rfl, rfl, by simp, by rw [cc_app]; simp [cc]⟩, by rw [upR_ne r _ (by decide)]; exact h.s4, by rw [upR_ne r _ (by decide)]; exact h.s6, by rw [upR_ne r _ (by decide)]; exact h.s7⟩
theorem RS.pM {x : VX} {TL WL : List Cl} {r : Nat → Rw} (h : RS x TL WL r) (u v : Value) : RS { x with M := x.M ++ [u] } TL WL (upR r 6 ⟨58, 1, v, x.M.length + 1, x.M ++ [u]⟩) :=
  ⟨by rw [upR_ne r _ (by decide)]; exact h.s0, by rw [upR_ne r _ (by decide)]; exact h.s1, by rw [upR_ne r _ (by decide)]; exact h.s2, by rw [upR_ne r _ (by decide)]; exact h.s3, by rw [upR_ne r _ (by decide)]; exact h.s4, by rw [upR_same]; exact ⟨rfl, rfl, by simp, rfl⟩, by rw [upR_ne r _ (by decide)]; exact h.s7⟩
theorem RS.pG {x : VX} {TL WL : List Cl} {r : Nat → Rw} (h : RS x TL WL r) (u v : Value) : RS { x with G := x.G ++ [u] } TL WL (upR r 7 ⟨22, 1, v, x.G.length + 1, x.G ++ [u]⟩) :=
  ⟨by rw [upR_ne r _ (by decide)]; exact h.s0, by rw [upR_ne r _ (by decide)]; exact h.s1, by rw [upR_ne r _ (by decide)]; exact h.s2, by rw [upR_ne r _ (by decide)]; exact h.s3, by rw [upR_ne r _ (by decide)]; exact h.s4, by rw [upR_ne r _ (by decide)]; exact h.s6, by rw [upR_same]; exact ⟨rfl, rfl, by simp, rfl⟩⟩
theorem RS.pK {x : VX} {TL WL : List Cl} {r : Nat → Rw} (h : RS x TL WL r) (q0 q1 : Int) (v : Value) : RS { x with K := x.K ++ [(q0, q1)] } TL WL (upR r 0 ⟨39, 2, v, x.K.length + 1, KY.mc x.K ++ [.int .i64 q0, .int .i64 q1]⟩) :=
  ⟨by rw [upR_same]; exact ⟨rfl, rfl, by simp, by rw [KY.mc_app]; rfl⟩, by rw [upR_ne r _ (by decide)]; exact h.s1, by rw [upR_ne r _ (by decide)]; exact h.s2, by rw [upR_ne r _ (by decide)]; exact h.s3, by rw [upR_ne r _ (by decide)]; exact h.s4, by rw [upR_ne r _ (by decide)]; exact h.s6, by rw [upR_ne r _ (by decide)]; exact h.s7⟩
theorem RS.pC {x : VX} {TL WL : List Cl} {r : Nat → Rw} (h : RS x TL WL r) (c : Cl) (v : Value) : RS { x with C := x.C ++ [c] } TL WL (upR r 1 ⟨64, 4, v, x.C.length + 1, cc x.C ++ c.vs⟩) :=
  ⟨by rw [upR_ne r _ (by decide)]; exact h.s0, by rw [upR_same]; exact ⟨rfl, rfl, by simp, by rw [cc_app]; simp [cc]⟩, by rw [upR_ne r _ (by decide)]; exact h.s2, by rw [upR_ne r _ (by decide)]; exact h.s3, by rw [upR_ne r _ (by decide)]; exact h.s4, by rw [upR_ne r _ (by decide)]; exact h.s6, by rw [upR_ne r _ (by decide)]; exact h.s7⟩
theorem RS.sC {x : VX} {TL WL : List Cl} {r : Nat → Rw} (h : RS x TL WL r) (i : Nat) (c : Cl) (v : Value) : RS { x with C := x.C.set i c } TL WL (upR r 1 ⟨64, 4, v, x.C.length, cc (x.C.set i c)⟩) :=
  ⟨by rw [upR_ne r _ (by decide)]; exact h.s0, by rw [upR_same]; exact ⟨rfl, rfl, by simp, rfl⟩, by rw [upR_ne r _ (by decide)]; exact h.s2, by rw [upR_ne r _ (by decide)]; exact h.s3, by rw [upR_ne r _ (by decide)]; exact h.s4, by rw [upR_ne r _ (by decide)]; exact h.s6, by rw [upR_ne r _ (by decide)]; exact h.s7⟩
/-- A box that is not the view's is written. -/
theorem VR.box {g : Nat} {w W W' : World} {F H : Nat → Prop} {n : Nat} {C TL WL : List Cl} {r : Nat → Rw} (h : VR g w W F H n C TL WL r) {b0 : Nat} (hb : Below b0 W W') (hE : ∀ b, b ≠ b0 → W'.heap[b]? = W.heap[b]?) (h0 : w.heap.size ≤ b0) (hn : ¬ Chg g r b0) (hl : ∀ c, (c ∈ C ∨ c ∈ TL ∨ c ∈ WL) → ∀ b, own2 c b → b ≠ b0) : VR g w W' F H n C TL WL r := by
  have hk : ∀ b, Chg g r b → W'.heap[b]? = W.heap[b]? := fun b k => hE b (fun e => hn (by rw [← e]; exact k))
  refine ⟨h.vv.kept hk, ⟨fun c hc => ⟨(h.vc.cl c hc).1.kept hb.size (fun b k _ => hE b (hl c (.inl hc) b k)), (h.vc.cl c hc).2⟩, fun i t u ht hu => (h.vc.tw i t u ht hu).kept hb.size (fun b k => ?_), fun c hc b k => ⟨(h.vc.ch c hc b k).1, nF_mono hb.size (h.vc.ch c hc b k).2⟩⟩, fun b k => nF_mono hb.size (h.inF b k), h.sub, h.low, h.fr.trans (G := fun b => b = b0) ⟨hb.os, hb.tape, hb.output, hb.size, fun b _ hne => hE b hne⟩ (fun b hlt e => by omega)⟩
  · rcases k with k | k
    · exact hE b (hl t (.inr (.inl (List.mem_of_getElem? ht))) b k)
    · exact hE b (hl u (.inr (.inr (List.mem_of_getElem? hu))) b k)
theorem VR.start {g : Nat} {w : World} {F H : Nat → Prop} {x : VX} (h : VSt g w F H x) : ∃ r TL WL, VR g w w F H x.n x.C TL WL r ∧ RS x TL WL r ∧ WL.length = TL.length ∧ LNx x TL WL := h
end Go.Proofs.YtdjhbecbbmdimaaGreatDoor
