/-
  My own text: two writers, what they should have written, what was told (printed by mkwz2.py).
-/
import Derived.Test.YthalmfbcdkihgaaDoorWZ1
import Derived.Test.YthalmfbcdkihgaaDoorWApart2
namespace Go.Proofs.YthalmfbcdkihgaaDoor
open Go.RowKit Go.Extern

/-- Rows of bytes, each in a block of its own. -/
structure Rk (W : World) (B : Nat) (L : List (Value × List UInt8)) : Prop where
  own : ∀ (i : Nat) (x : Value × List UInt8), L[i]? = some x → Own W B x.1 x.2
  apart : ∀ (i j : Nat) (x y : Value × List UInt8) (g : Nat), L[i]? = some x → L[j]? = some y → x.1.ownBlock = some g → y.1.ownBlock = some g → i = j
def IsB (W : World) (k : Nat) : Prop := ∃ c fz, W.heap[k]? = some (.cells c 5 fz)
theorem IsB.ne {W : World} {k q : Nat} {cs : Array Value} {t : TypeId} (h : IsB W k) (hq : Blk W q cs t) (ht : t ≠ 5) : k ≠ q := by
  intro e
  obtain ⟨c, fz, hc⟩ := h
  unfold Blk at hq
  rw [e, hq] at hc; cases hc; exact ht rfl
theorem blk_ne {W : World} {p q : Nat} {cs ds : Array Value} {t u : TypeId} (h : Blk W p cs t) (hq : Blk W q ds u) (ht : t ≠ u) : p ≠ q := by
  intro e
  unfold Blk at h hq
  rw [e, hq] at h; cases h; exact ht rfl
theorem own_of_block {W W' : World} {B : Nat} {v : Value} {l : List UInt8} (h : Own W B v l) (hb : ∀ g, v.ownBlock = some g → W'.heap[g]? = W.heap[g]?) : Own W' B v l := by
  refine ⟨h.1, ?_⟩
  rcases h.2 with h2 | ⟨g, cap, cur, hv, hg, hh, h3⟩
  · exact .inl h2
  · exact .inr ⟨g, cap, cur, hv, hg, (hb g (by rw [hv]; rfl)).trans hh, h3⟩
theorem row_of_block {W W' : World} {B n : Nat} {e : TypeId} {v : Value} {xs : List Value} (h : W.ownsRow B e 1 v n xs) (hb : ∀ g, v.ownBlock = some g → W'.heap[g]? = W.heap[g]?) : W'.ownsRow B e 1 v n xs := by
  refine ⟨h.1, ?_⟩
  rcases h.2 with h2 | ⟨g, cap, cur, hv, hg, hh, h3⟩
  · exact .inl h2
  · exact .inr ⟨g, cap, cur, hv, hg, (hb g (by rw [hv]; rfl)).trans hh, h3⟩
theorem Rk.upd {W W' : World} {B i : Nat} {L : List (Value × List UInt8)} {v v' : Value} {l l' : List UInt8} (h : Rk W B L) (hi : L[i]? = some (v, l)) (ho : Own W' B v' l') (hblk : ∀ k, k < W.heap.size → some k ≠ v.ownBlock → IsB W k → W'.heap[k]? = W.heap[k]?)
    (hl : ∀ g, v'.ownBlock = some g → v.ownBlock = some g ∨ W.heap.size ≤ g) : Rk W' B (L.set i (v', l')) := by
  have hlt : i < L.length := (List.getElem?_eq_some_iff.1 hi).1
  have hold : ∀ (j : Nat) (x : Value × List UInt8), j ≠ i → (L.set i (v', l'))[j]? = some x → L[j]? = some x := fun j x hj hx => by rwa [List.getElem?_set_ne (fun e => hj e.symm)] at hx
  have hself : ∀ x : Value × List UInt8, (L.set i (v', l'))[i]? = some x → x = (v', l') := fun x hx => by rw [List.getElem?_set_self hlt] at hx; exact (Option.some.inj hx).symm
  have hcross : ∀ (j : Nat) (x : Value × List UInt8) (g : Nat), j ≠ i → L[j]? = some x → x.1.ownBlock = some g → v'.ownBlock ≠ some g := fun j x g hj hx hg e => by
    rcases hl g e with h1 | h1
    · exact hj (h.apart j i x _ g hx hi hg h1)
    · have := (World.ownsRow.lt (h.own j x hx) g hg).2; omega
  refine ⟨fun j x hx => ?_, fun j k x y g hx hy hgx hgy => ?_⟩
  · by_cases e : j = i
    · subst e; rw [hself x hx]; exact ho
    · have hx2 := hold j x e hx
      refine own_of_block (h.own j x hx2) (fun g hg => hblk g (World.ownsRow.lt (h.own j x hx2) g hg).2 (fun e2 => ?_) ((h.own j x hx2).kind g hg))
      exact e (h.apart j i x _ g hx2 hi hg e2.symm)
  · by_cases e : j = i
    · by_cases e2 : k = i
      · rw [e, e2]
      · exfalso
        subst e
        rw [hself x hx] at hgx
        exact hcross k y g e2 (hold k y e2 hy) hgy hgx
    · by_cases e2 : k = i
      · exfalso
        subst e2
        rw [hself y hy] at hgy
        exact hcross j x g e (hold j x e hx) hgx hgy
      · exact h.apart j k x y g (hold j x e hx) (hold k y e2 hy) hgx hgy
theorem Rk.keep {W W' : World} {B : Nat} {L : List (Value × List UInt8)} (h : Rk W B L) (hblk : ∀ k, k < W.heap.size → IsB W k → W'.heap[k]? = W.heap[k]?) : Rk W' B L :=
  ⟨fun j x hx => own_of_block (h.own j x hx) (fun g hg => hblk g (World.ownsRow.lt (h.own j x hx) g hg).2 ((h.own j x hx).kind g hg)), h.apart⟩
theorem Rk.fresh {W W' : World} {B : Nat} {L : List (Value × List UInt8)} {a : Value} {l : List UInt8} (h : Rk W B L) (hb : Below W.heap.size W W') (ho : Own W' W.heap.size a l) (hB : B ≤ W.heap.size) : Rk W' B (L ++ [(a, l)]) := by
  have h' : Rk W' B L := h.keep (fun k hk _ => hb.block k hk)
  have hcross : ∀ (j : Nat) (x : Value × List UInt8) (g : Nat), L[j]? = some x → x.1.ownBlock = some g → a.ownBlock ≠ some g := fun j x g hx hg e => by
    have h1 := (World.ownsRow.lt (h.own j x hx) g hg).2
    have h2 := (World.ownsRow.lt ho g e).1
    omega
  have hcase : ∀ (j : Nat) (x : Value × List UInt8), (L ++ [(a, l)])[j]? = some x → (L[j]? = some x) ∨ (j = L.length ∧ x = (a, l)) := fun j x hx => by
    by_cases hj : j < L.length
    · rw [List.getElem?_append_left hj] at hx; exact .inl hx
    · rw [List.getElem?_append_right (by omega)] at hx
      have hj0 : j - L.length = 0 := by have := (List.getElem?_eq_some_iff.1 hx).1; simp at this; omega
      rw [hj0] at hx
      exact .inr ⟨by omega, (Option.some.inj hx).symm⟩
  refine ⟨fun j x hx => ?_, fun j k x y g hx hy hgx hgy => ?_⟩
  · rcases hcase j x hx with h1 | ⟨_, rfl⟩
    · exact h'.own j x h1
    · exact ho.base (fun g hg => Nat.le_trans hB (World.ownsRow.lt ho g hg).1)
  · rcases hcase j x hx with h1 | ⟨e1, rfl⟩
    · rcases hcase k y hy with h2 | ⟨e2, rfl⟩
      · exact h.apart j k x y g h1 h2 hgx hgy
      · exact absurd hgy (hcross j x g h1 hgx)
    · rcases hcase k y hy with h2 | ⟨e2, rfl⟩
      · exact absurd hgx (hcross k y g h2 hgy)
      · rw [e1, e2]
/-- Two writers, what they should have written, what was told. -/
structure Zs (w W : World) (R Q q0 q1 : Nat) (v0 v1 u0 u1 : Value) (l0 l1 m0 m1 : List UInt8) (T : List (Value × List UInt8)) (tv : Value) : Prop where
  b : Below w.heap.size w W
  bR : Blk W R #[.pointer (some ⟨q0, 0, none⟩), .pointer (some ⟨q1, 0, none⟩)] 81
  b0 : Blk W q0 #[v0] 64
  b1 : Blk W q1 #[v1] 64
  bQ : Blk W Q #[u0, u1] 82
  rk : Rk W w.heap.size ((v0, l0) :: (v1, l1) :: (u0, m0) :: (u1, m1) :: T)
  tk : W.ownsRow w.heap.size 29 1 tv T.length (T.map (·.1))
  tn : T = [] → tv = .slice none 0 0
  q01 : q0 ≠ q1
  wR : w.heap.size ≤ R
  w0 : w.heap.size ≤ q0
  w1 : w.heap.size ≤ q1
  wQ : w.heap.size ≤ Q
theorem told_ne {W : World} {B n q : Nat} {tv : Value} {xs : List Value} {cs : Array Value} {t : TypeId} (h : W.ownsRow B 29 1 tv n xs) (hq : Blk W q cs t) (ht : t ≠ 29) : ∀ g, tv.ownBlock = some g → g ≠ q := by
  intro g hg e
  obtain ⟨c, fz, hc⟩ := ownsRow_kind h g hg
  unfold Blk at hq
  rw [e, hq] at hc; cases hc; exact ht rfl
theorem told_own {W : World} {B B' n : Nat} {tv v : Value} {xs : List Value} {l : List UInt8} (h : W.ownsRow B 29 1 tv n xs) (hv : Own W B' v l) : ∀ g, tv.ownBlock = some g → v.ownBlock ≠ some g := by
  intro g hg e
  obtain ⟨c, fz, hc⟩ := ownsRow_kind h g hg
  obtain ⟨c2, fz2, hc2⟩ := hv.kind g e
  rw [hc] at hc2
  injection hc2 with h3
  injection h3 with _ h4 _
  exact absurd h4 (by decide)
theorem Zs.later {w W : World} {R Q q0 q1 : Nat} {v0 v1 u0 u1 : Value} {l0 l1 m0 m1 : List UInt8} {T : List (Value × List UInt8)} {tv : Value} {W' : World} (h : Zs w W R Q q0 q1 v0 v1 u0 u1 l0 l1 m0 m1 T tv) (hb : Below W.heap.size W W') : Zs w W' R Q q0 q1 v0 v1 u0 u1 l0 l1 m0 m1 T tv :=
  { h with b := h.b.trans (hb.mono h.b.size), bR := h.bR.later hb, b0 := h.b0.later hb, b1 := h.b1.later hb, bQ := h.bQ.later hb, rk := h.rk.keep (fun k hk _ => hb.block k hk), tk := row_of_block h.tk (fun g hg => hb.block g (World.ownsRow.lt h.tk g hg).2) }
theorem Zs.drew {w W : World} {R Q q0 q1 : Nat} {v0 v1 u0 u1 : Value} {l0 l1 m0 m1 : List UInt8} {T : List (Value × List UInt8)} {tv : Value} (h : Zs w W R Q q0 q1 v0 v1 u0 u1 l0 l1 m0 m1 T tv) : Zs w W.drew R Q q0 q1 v0 v1 u0 u1 l0 l1 m0 m1 T tv := h.later ((Below.refl _ _).drew)
theorem Zs.wr0 {w W : World} {R Q q0 q1 : Nat} {v0 v1 u0 u1 : Value} {l0 l1 m0 m1 : List UInt8} {T : List (Value × List UInt8)} {tv : Value} (h : Zs w W R Q q0 q1 v0 v1 u0 u1 l0 l1 m0 m1 T tv) : Wr W w.heap.size q0 v0 l0 := ⟨h.b0, h.rk.own 0 _ rfl, h.w0⟩
theorem Zs.lay0 {w W : World} {R Q q0 q1 : Nat} {v0 v1 u0 u1 : Value} {l0 l1 m0 m1 : List UInt8} {T : List (Value × List UInt8)} {tv : Value} {W' : World} {vn : Value} {ln : List UInt8} (h : Zs w W R Q q0 q1 v0 v1 u0 u1 l0 l1 m0 m1 T tv) (hw : Wr W' w.heap.size q0 vn ln) (hm : Moved W W' q0 v0 vn) : Zs w W' R Q q0 q1 vn v1 u0 u1 ln l1 m0 m1 T tv := by
  have hv := h.rk.own 0 _ rfl
  have blk : ∀ p cs t, Blk W p cs t → p ≠ q0 → t ≠ 5 → Blk W' p cs t := fun p cs t hp hne ht => (hm.block p hp.lt hne (fun e => hv.apart hp ht e.symm)).trans hp
  have hrk := h.rk.upd (i := 0) (v := v0) (l := l0) rfl hw.2.1 (fun k hk hne hB => hm.block k hk (hB.ne h.b0 (by decide)) hne) hm.lies
  exact { h with b := h.wr0.toBelow hm h.b, bR := blk _ _ _ h.bR (blk_ne h.bR h.b0 (by decide)) (by decide), b0 := hw.1, b1 := blk _ _ _ h.b1 h.q01.symm (by decide), bQ := blk _ _ _ h.bQ (blk_ne h.bQ h.b0 (by decide)) (by decide), rk := hrk, tk := row_of_block h.tk (fun g hg => hm.block g (World.ownsRow.lt h.tk g hg).2 (told_ne h.tk h.b0 (by decide) g hg) (fun e => told_own h.tk hv g hg e.symm)) }
theorem Zs.put0 {w W : World} {R Q q0 q1 : Nat} {v0 v1 u0 u1 : Value} {l0 l1 m0 m1 : List UInt8} {T : List (Value × List UInt8)} {tv : Value} {W' : World} {un : Value} {mn : List UInt8} (h : Zs w W R Q q0 q1 v0 v1 u0 u1 l0 l1 m0 m1 T tv) (ho : Own W' w.heap.size un mn) (hg : Grew W u0 W' un) : Zs w (W'.setCell ⟨Q, 0, none⟩ un) R Q q0 q1 v0 v1 un u1 l0 l1 mn m1 T tv := by
  have hv := h.rk.own 2 _ rfl
  have hs : W.heap.size ≤ W'.heap.size := hg.grown.size
  have hbw : Below w.heap.size w W' := hg.toBelow h.b h.b.size (fun g e => hv.at g e)
  have blk : ∀ p cs t, Blk W p cs t → t ≠ 5 → Blk W' p cs t := fun p cs t hp ht => (hg.grown.block p hp.lt (fun e => hv.apart hp ht e.symm)).trans hp
  have hrk := h.rk.upd (i := 2) (v := u0) (l := m0) rfl ho (fun k hk hne _ => hg.grown.block k hk hne) hg.lies
  have hQ' := blk _ _ _ h.bQ (by decide)
  exact { h with b := hbw.setCell (p := ⟨Q, 0, none⟩) h.wQ _, bR := (blk _ _ _ h.bR (by decide)).other _ _ (blk_ne h.bR h.bQ (by decide)), b0 := (blk _ _ _ h.b0 (by decide)).other _ _ (blk_ne h.b0 h.bQ (by decide)), b1 := (blk _ _ _ h.b1 (by decide)).other _ _ (blk_ne h.b1 h.bQ (by decide)), bQ := hQ'.set 0 un, rk := hrk.keep (fun k hk hB => Below.heap_setCell _ _ _ _ (hB.ne hQ' (by decide))), tk := row_of_block h.tk (fun g e => (Below.heap_setCell _ _ _ _ (told_ne h.tk h.bQ (by decide) g e)).trans (hg.grown.block g (World.ownsRow.lt h.tk g e).2 (fun e2 => told_own h.tk hv g e e2.symm))) }
theorem Zs.wr1 {w W : World} {R Q q0 q1 : Nat} {v0 v1 u0 u1 : Value} {l0 l1 m0 m1 : List UInt8} {T : List (Value × List UInt8)} {tv : Value} (h : Zs w W R Q q0 q1 v0 v1 u0 u1 l0 l1 m0 m1 T tv) : Wr W w.heap.size q1 v1 l1 := ⟨h.b1, h.rk.own 1 _ rfl, h.w1⟩
theorem Zs.lay1 {w W : World} {R Q q0 q1 : Nat} {v0 v1 u0 u1 : Value} {l0 l1 m0 m1 : List UInt8} {T : List (Value × List UInt8)} {tv : Value} {W' : World} {vn : Value} {ln : List UInt8} (h : Zs w W R Q q0 q1 v0 v1 u0 u1 l0 l1 m0 m1 T tv) (hw : Wr W' w.heap.size q1 vn ln) (hm : Moved W W' q1 v1 vn) : Zs w W' R Q q0 q1 v0 vn u0 u1 l0 ln m0 m1 T tv := by
  have hv := h.rk.own 1 _ rfl
  have blk : ∀ p cs t, Blk W p cs t → p ≠ q1 → t ≠ 5 → Blk W' p cs t := fun p cs t hp hne ht => (hm.block p hp.lt hne (fun e => hv.apart hp ht e.symm)).trans hp
  have hrk := h.rk.upd (i := 1) (v := v1) (l := l1) rfl hw.2.1 (fun k hk hne hB => hm.block k hk (hB.ne h.b1 (by decide)) hne) hm.lies
  exact { h with b := h.wr1.toBelow hm h.b, bR := blk _ _ _ h.bR (blk_ne h.bR h.b1 (by decide)) (by decide), b1 := hw.1, b0 := blk _ _ _ h.b0 h.q01 (by decide), bQ := blk _ _ _ h.bQ (blk_ne h.bQ h.b1 (by decide)) (by decide), rk := hrk, tk := row_of_block h.tk (fun g hg => hm.block g (World.ownsRow.lt h.tk g hg).2 (told_ne h.tk h.b1 (by decide) g hg) (fun e => told_own h.tk hv g hg e.symm)) }
theorem Zs.put1 {w W : World} {R Q q0 q1 : Nat} {v0 v1 u0 u1 : Value} {l0 l1 m0 m1 : List UInt8} {T : List (Value × List UInt8)} {tv : Value} {W' : World} {un : Value} {mn : List UInt8} (h : Zs w W R Q q0 q1 v0 v1 u0 u1 l0 l1 m0 m1 T tv) (ho : Own W' w.heap.size un mn) (hg : Grew W u1 W' un) : Zs w (W'.setCell ⟨Q, 1, none⟩ un) R Q q0 q1 v0 v1 u0 un l0 l1 m0 mn T tv := by
  have hv := h.rk.own 3 _ rfl
  have hs : W.heap.size ≤ W'.heap.size := hg.grown.size
  have hbw : Below w.heap.size w W' := hg.toBelow h.b h.b.size (fun g e => hv.at g e)
  have blk : ∀ p cs t, Blk W p cs t → t ≠ 5 → Blk W' p cs t := fun p cs t hp ht => (hg.grown.block p hp.lt (fun e => hv.apart hp ht e.symm)).trans hp
  have hrk := h.rk.upd (i := 3) (v := u1) (l := m1) rfl ho (fun k hk hne _ => hg.grown.block k hk hne) hg.lies
  have hQ' := blk _ _ _ h.bQ (by decide)
  exact { h with b := hbw.setCell (p := ⟨Q, 1, none⟩) h.wQ _, bR := (blk _ _ _ h.bR (by decide)).other _ _ (blk_ne h.bR h.bQ (by decide)), b0 := (blk _ _ _ h.b0 (by decide)).other _ _ (blk_ne h.b0 h.bQ (by decide)), b1 := (blk _ _ _ h.b1 (by decide)).other _ _ (blk_ne h.b1 h.bQ (by decide)), bQ := hQ'.set 1 un, rk := hrk.keep (fun k hk hB => Below.heap_setCell _ _ _ _ (hB.ne hQ' (by decide))), tk := row_of_block h.tk (fun g e => (Below.heap_setCell _ _ _ _ (told_ne h.tk h.bQ (by decide) g e)).trans (hg.grown.block g (World.ownsRow.lt h.tk g e).2 (fun e2 => told_own h.tk hv g e e2.symm))) }
theorem Zs.told {w W : World} {R Q q0 q1 : Nat} {v0 v1 u0 u1 : Value} {l0 l1 m0 m1 : List UInt8} {T : List (Value × List UInt8)} {tv : Value} {W' : World} {o : Obj} {a c tn : Value} {la lc : List UInt8} (h : Zs w W R Q q0 q1 v0 v1 u0 u1 l0 l1 m0 m1 T tv) (hrk : Rk W w.heap.size ((v0, l0) :: (v1, l1) :: (u0, m0) :: (u1, m1) :: (T ++ [(a, la), (c, lc)])))
    (ho : W'.ownsRow w.heap.size 29 1 tn (T.length + 2) (T.map (·.1) ++ [a, c])) (hg : (W.alloc o).grownBy W' tv.ownBlock) : Zs w W' R Q q0 q1 v0 v1 u0 u1 l0 l1 m0 m1 (T ++ [(a, la), (c, lc)]) tn := by
  have hkind : ∀ g, tv.ownBlock = some g → ¬ IsB W g := fun g e hB => by
    obtain ⟨c1, f1, h1⟩ := ownsRow_kind h.tk g e
    obtain ⟨c2, f2, h2⟩ := hB
    rw [h1] at h2
    injection h2 with h3
    injection h3 with _ h4 _
    exact absurd h4 (by decide)
  have e1 : ∀ k, k < W.heap.size → (W.alloc o).heap[k]? = W.heap[k]? := fun k hk => Below.heap_alloc _ _ _ hk
  have hsz : W.heap.size ≤ (W.alloc o).heap.size := by simp
  have blk : ∀ p cs t, Blk W p cs t → t ≠ 29 → Blk W' p cs t := fun p cs t hp ht => ((hg.block p (Nat.lt_of_lt_of_le hp.lt hsz) (fun e => told_ne h.tk hp ht p e.symm rfl)).trans (e1 p hp.lt)).trans hp
  have hB0 := h.b.size
  exact { h with b := (h.b.alloc h.b.size o).grown hg (by omega) (fun g e => (World.ownsRow.lt h.tk g e).1), bR := blk _ _ _ h.bR (by decide), b0 := blk _ _ _ h.b0 (by decide), b1 := blk _ _ _ h.b1 (by decide), bQ := blk _ _ _ h.bQ (by decide), rk := hrk.keep (fun k hk hB => (hg.block k (Nat.lt_of_lt_of_le hk hsz) (fun e => hkind k e.symm hB)).trans (e1 k hk)), tk := by rw [List.length_append, List.map_append]; exact ho, tn := fun e => by simp at e }
def sA : Value → Option Addr
  | .slice a _ _ => a
  | _ => none
def sN : Value → Nat
  | .slice _ n _ => n
  | _ => 0
def sC : Value → Nat
  | .slice _ _ c => c
  | _ => 0
theorem own_sl {W : World} {B : Nat} {v : Value} {l : List UInt8} (h : Own W B v l) : v = .slice (sA v) (sN v) (sC v) ∧ sN v = l.length := by
  obtain ⟨a, c, rfl⟩ := h.slice
  exact ⟨rfl, rfl⟩
/-- What was told, by its place. -/
def tAt (T : List (Value × List UInt8)) (k : Nat) : Value × List UInt8 := T.getD k (.slice none 0 0, [])
theorem tAt_some {T : List (Value × List UInt8)} {k : Nat} (h : k < T.length) : T[k]? = some (tAt T k) := by
  unfold tAt
  rw [List.getD_eq_getElem?_getD, List.getElem?_eq_getElem h]; rfl
theorem tAt4 {T : List (Value × List UInt8)} {a b c d : Value × List UInt8} {k : Nat} (h : k < T.length) : (a :: b :: c :: d :: T)[k + 4]? = some (tAt T k) := by
  rw [← tAt_some h]; simp
theorem Zs.row {w W : World} {R Q q0 q1 : Nat} {v0 v1 u0 u1 : Value} {l0 l1 m0 m1 : List UInt8} {T : List (Value × List UInt8)} {tv : Value} (h : Zs w W R Q q0 q1 v0 v1 u0 u1 l0 l1 m0 m1 T tv) {k : Nat} (hk : k < T.length) : Own W w.heap.size (tAt T k).1 (tAt T k).2 := h.rk.own (k + 4) _ (tAt4 hk)
theorem Zs.all {w W : World} {R Q q0 q1 : Nat} {v0 v1 u0 u1 : Value} {l0 l1 m0 m1 : List UInt8} {T : List (Value × List UInt8)} {tv : Value} {g cap : Nat} (h : Zs w W R Q q0 q1 v0 v1 u0 u1 l0 l1 m0 m1 T tv) (hv : tv = .slice (some ⟨g, 0, none⟩) T.length cap) : AllB W w.heap.size g T.length (fun k => sA (tAt T k).1) (fun k => sN (tAt T k).1) (fun k => sC (tAt T k).1) (fun k => (tAt T k).2) := by
  have htk := h.tk
  rw [hv] at htk
  have hsl : ∀ k, k < T.length → Value.slice (sA (tAt T k).1) (sN (tAt T k).1) (sC (tAt T k).1) = (tAt T k).1 := fun k hk => (own_sl (h.row hk)).1.symm
  refine ⟨(World.ownsRow.lt htk g rfl).2, fun k hk => ?_, fun k hk => ?_, fun k hk => ?_, fun j k b hj hk hb1 hb2 => ?_⟩
  · show W.cell? ⟨g, k, none⟩ = some (Value.slice (sA (tAt T k).1) (sN (tAt T k).1) (sC (tAt T k).1))
    rw [World.ownsRow.cellAt htk k (by omega), List.getElem?_map, tAt_some hk, hsl k hk]; rfl
  · show Own W w.heap.size (Value.slice (sA (tAt T k).1) (sN (tAt T k).1) (sC (tAt T k).1)) (tAt T k).2
    rw [hsl k hk]; exact h.row hk
  · show (Value.slice (sA (tAt T k).1) (sN (tAt T k).1) (sC (tAt T k).1)).ownBlock ≠ some g
    rw [hsl k hk]; exact told_own htk (h.row hk) g rfl
  · have hb1' : (tAt T j).1.ownBlock = some b := by rw [← hsl j hj]; exact hb1
    have hb2' : (tAt T k).1.ownBlock = some b := by rw [← hsl k hk]; exact hb2
    have := h.rk.apart (j + 4) (k + 4) _ _ b (tAt4 hj) (tAt4 hk) hb1' hb2'
    omega
theorem Zs.spared {w W : World} {R Q q0 q1 : Nat} {v0 v1 u0 u1 : Value} {l0 l1 m0 m1 : List UInt8} {T : List (Value × List UInt8)} {tv : Value} {W' : World} (h : Zs w W R Q q0 q1 v0 v1 u0 u1 l0 l1 m0 m1 T tv) (hs : Sp T.length (fun k => sA (tAt T k).1) (fun k => sN (tAt T k).1) (fun k => sC (tAt T k).1) W W') : Zs w W' R Q q0 q1 v0 v1 u0 u1 l0 l1 m0 m1 [] (.slice none 0 0) := by
  have hsl : ∀ k, k < T.length → Value.slice (sA (tAt T k).1) (sN (tAt T k).1) (sC (tAt T k).1) = (tAt T k).1 := fun k hk => (own_sl (h.row hk)).1.symm
  have blk : ∀ p cs t, Blk W p cs t → t ≠ 5 → Blk W' p cs t := fun p cs t hp ht => (hs.block p hp.lt (fun k hk e => (h.row hk).apart hp ht (by rw [← hsl k hk]; exact e))).trans hp
  have row : ∀ (i : Nat) (x : Value × List UInt8), i < 4 → ((v0, l0) :: (v1, l1) :: (u0, m0) :: (u1, m1) :: T)[i]? = some x → Own W' w.heap.size x.1 x.2 := fun i x hi hx => by
    refine own_of_block (h.rk.own i x hx) (fun g hg => hs.block g (World.ownsRow.lt (h.rk.own i x hx) g hg).2 (fun k hk e => ?_))
    have := h.rk.apart i (k + 4) x _ g hx (tAt4 hk) hg (by rw [← hsl k hk]; exact e)
    omega
  have hget : ∀ (i : Nat) (x : Value × List UInt8), [(v0, l0), (v1, l1), (u0, m0), (u1, m1)][i]? = some x → i < 4 ∧ ((v0, l0) :: (v1, l1) :: (u0, m0) :: (u1, m1) :: T)[i]? = some x := fun i x hx => by
    match i, hx with
    | 0, hx => exact ⟨by decide, hx⟩
    | 1, hx => exact ⟨by decide, hx⟩
    | 2, hx => exact ⟨by decide, hx⟩
    | 3, hx => exact ⟨by decide, hx⟩
  have hbw : Below w.heap.size w W' := h.b.trans ⟨hs.os, hs.tape, hs.output, hs.size, fun b hb => hs.block b (Nat.lt_of_lt_of_le hb h.b.size) (fun k hk e => by
    have e' : (Value.slice (sA (tAt T k).1) (sN (tAt T k).1) (sC (tAt T k).1)).ownBlock = some b := e
    rw [hsl k hk] at e'
    have := (World.ownsRow.lt (h.row hk) b e').1
    omega)⟩
  exact { h with b := hbw, bR := blk _ _ _ h.bR (by decide), b0 := blk _ _ _ h.b0 (by decide), b1 := blk _ _ _ h.b1 (by decide), bQ := blk _ _ _ h.bQ (by decide), rk := ⟨fun i x hx => row i x (hget i x hx).1 (hget i x hx).2, fun i j x y g hx hy => h.rk.apart i j x y g (hget i x hx).2 (hget j y hy).2⟩, tk := World.ownsRow_nil _ _ _ _, tn := fun _ => rfl }
end Go.Proofs.YthalmfbcdkihgaaDoor
