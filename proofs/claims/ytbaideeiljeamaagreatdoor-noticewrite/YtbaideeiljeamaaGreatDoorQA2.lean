/-
  My own text: Q9, QA2 in one.
-/
import Derived.Test.YtbaideeiljeamaaGreatDoorQ8
import Derived.Test.YtbaideeiljeamaaGreatDoorQA
namespace Go.Proofs.YtbaideeiljeamaaGreatDoor.TG
open Go.RowKit

def Tr.withText (a : Tr) (t : List UInt8) : Tr := .mk { a.itm with text := t } a.kids
theorem IW.text {w : World} {B g cap : Nat} {l : List Tr} {a : Tr} {V : List Value} {u : Value} (h : IW w B (.slice (some ⟨g, 0, none⟩) (l.length + 1) cap) (l ++ [a]) (V ++ [u])) (t : List UInt8) :
    IW (w.setCell ⟨g, l.length * 5 + 2, none⟩ (.string ⟨t.toArray⟩)) B (.slice (some ⟨g, 0, none⟩) (l.length + 1) cap) (l ++ [a.withText t]) (V ++ [u]) := by
  have hl : l.length = V.length := by have := h.len; simp at this; omega
  have hO := own_set h.row (g := g) rfl (l.length * 5 + 2) (.string ⟨t.toArray⟩)
  have he : (ic (l ++ [a]) (V ++ [u])).set (l.length * 5 + 2) (.string ⟨t.toArray⟩) = ic (l ++ [a.withText t]) (V ++ [u]) := by
    rw [ic_snoc _ _ _ _ hl, ic_snoc _ _ _ _ hl, List.set_append_right _ _ (by rw [ic_len _ _ hl]; omega), ic_len _ _ hl, Nat.add_sub_cancel_left]
    rfl
  rw [he] at hO
  refine ⟨by simp [h.len, hl], by simpa using hO, fun j b x h1 h2 => ?_⟩
  have key : ∀ (c : Tr), (l ++ [a])[j]? = some c → c.kids = b.kids → PT (w.setCell ⟨g, l.length * 5 + 2, none⟩ (.string ⟨t.toArray⟩)) (SQ B (w.setCell ⟨g, l.length * 5 + 2, none⟩ (.string ⟨t.toArray⟩)) (.slice (some ⟨g, 0, none⟩) (l.length + 1) cap)) x b.kids := fun c hc hk => by
    rw [← hk]
    exact PT_kept (fun k hk' _ => Below.heap_setCell w _ _ k (fun e => hk'.2.2 (by rw [e]; rfl))) (by simp [World.setCell]) (fun k hk' _ => ⟨hk'.1, by simpa [World.setCell] using hk'.2.1, hk'.2.2⟩) _ _ _ (Nat.le_refl _) (h.kids j c x hc h2)
  by_cases hj : j < l.length
  · rw [List.getElem?_append_left hj] at h1
    exact key b (by rw [List.getElem?_append_left hj]; exact h1) rfl
  · rw [List.getElem?_append_right (by omega)] at h1
    have hj0 : j - l.length = 0 := by have := (List.getElem?_eq_some_iff.1 h1).1; simp at this; omega
    rw [hj0] at h1; simp at h1; subst h1
    exact key a (by rw [List.getElem?_append_right (by omega), hj0]; rfl) rfl
/-- What a reading comes to: items, and where it stands; or a fault. -/
inductive Res where
  | ok (l : List Tr) (n b : Nat)
  | bad (no n at_ : Int)
/-- The reading of a text in so many blocks, the innermost of this name. -/
def rd (T : List UInt8) : Nat → Nat → List UInt8 → List Tr → Nat → Nat → Res
  | 0, _, _, _, _, _ => .bad 0 0 0
  | f + 1, d, nm, l, n, b =>
    if b = T.length then (if 0 < d then .bad 2 n 1 else .ok l n b)
    else match chkE ⟨n, b, ownL T b, endL T b⟩ with
      | some (no, at_) => .bad no n at_
      | none =>
        if (ownL T b).getD 0 0 ≠ 58 then
          (if (ownL T b).getD 0 0 = 45 then .bad 4 n 1
           else match l.getLast? with
             | none => .bad 4 n 1
             | some a => if a.itm.tag.isEmpty then .bad 4 n 1 else rd T f d nm (l.dropLast ++ [a.withText (a.itm.text ++ 10 :: ownL T b)]) (n + 1) (nxtB T b))
        else if !(Lib.cut ((ownL T b).drop 1) [58]).2.2 then .bad 4 n ((ownL T b).length + 1)
        else if (Lib.cut ((ownL T b).drop 1) [58]).1 = r16 then
          (if 8 ≤ d then .bad 5 n 1
           else if !nameB (Lib.cut ((ownL T b).drop 1) [58]).2.1 then .bad 4 n ((ownL T b).length - (Lib.cut ((ownL T b).drop 1) [58]).2.1.length + 1)
           else match rd T f (d + 1) (Lib.cut ((ownL T b).drop 1) [58]).2.1 [] (n + 1) (nxtB T b) with
             | .bad no m at_ => .bad no m at_
             | .ok k n' b' => rd T f d nm (l ++ [.mk ⟨[], [], [], (Lib.cut ((ownL T b).drop 1) [58]).2.1⟩ k]) n' b')
        else if (Lib.cut ((ownL T b).drop 1) [58]).1 = s16 then
          (if d = 0 then .bad 10 n 1
           else if (Lib.cut ((ownL T b).drop 1) [58]).2.1 ≠ nm then .bad 4 n ((ownL T b).length - (Lib.cut ((ownL T b).drop 1) [58]).2.1.length + 1)
           else .ok l (n + 1) (nxtB T b))
        else match fldO (Lib.cut ((ownL T b).drop 1) [58]).1 (Lib.cut ((ownL T b).drop 1) [58]).2.1 (ownL T b).length with
          | some (no, at_) => .bad no n at_
          | none => rd T f d nm (l ++ [.mk (fldI (Lib.cut ((ownL T b).drop 1) [58]).1 (Lib.cut ((ownL T b).drop 1) [58]).2.1) []]) (n + 1) (nxtB T b)
end Go.Proofs.YtbaideeiljeamaaGreatDoor.TG
namespace Go.Proofs.YtbaideeiljeamaaGreatDoor.TG
open Go.RowKit

def KO (w : World) (l : List Tr) (V : List Value) (O : List (List Value)) : Prop := O.length = l.length ∧ ∀ (j : Nat) (a : Tr) (u : Value) (o : List Value), l[j]? = some a → V[j]? = some u → O[j]? = some o → LT w u a.kids o
structure IWA (w : World) (B : Nat) (v : Value) (l : List Tr) (V : List Value) : Prop where
  iw : IW w B v l V
  ap : ∃ O, KO w l V O ∧ Nd O.flatten ∧ ∀ u ∈ O.flatten, OW w (SQ B w v) u
theorem IWA.len {w : World} {B : Nat} {v : Value} {l : List Tr} {V : List Value} (h : IWA w B v l V) : V.length = l.length := h.iw.len
theorem IWA.row {w : World} {B : Nat} {v : Value} {l : List Tr} {V : List Value} (h : IWA w B v l V) : w.ownsRow B 58 5 v l.length (ic l V) := h.iw.row
theorem IWA.kids {w : World} {B : Nat} {v : Value} {l : List Tr} {V : List Value} (h : IWA w B v l V) : ∀ (j : Nat) (a : Tr) (u : Value), l[j]? = some a → V[j]? = some u → PT w (SQ B w v) u a.kids := h.iw.kids
theorem IWA.nil (w : World) (B : Nat) : IWA w B (.slice none 0 0) [] [] := ⟨IW.nil w B, [], ⟨rfl, fun j a u o h => by simp at h⟩, List.nodup_nil, fun u hu => by simp at hu⟩
theorem KO.kept {w w' : World} {l : List Tr} {V : List Value} {O : List (List Value)} (h : KO w l V O) (hk : ∀ u ∈ O.flatten, ∀ g, u.ownBlock = some g → w'.heap[g]? = w.heap[g]?) : KO w' l V O :=
  ⟨h.1, fun j a u o h1 h2 h3 => LT_kept _ a.kids u o (Nat.le_refl _) (h.2 j a u o h1 h2 h3) (fun y hy => hk y (List.mem_flatten.2 ⟨o, List.mem_of_getElem? h3, hy⟩))⟩
theorem OW.lt {w : World} {S : Nat → Prop} {u : Value} (h : OW w S u) {g : Nat} (hg : u.ownBlock = some g) : S g ∧ g < w.heap.size := by
  obtain ⟨⟨n, xs, hO⟩, h2⟩ := h
  exact ⟨h2 g hg, (own_ltq hO g hg).2⟩
theorem IWA.move {w w' : World} {B : Nat} {v : Value} {l : List Tr} {V : List Value} (h : IWA w B v l V) (hs : w.heap.size ≤ w'.heap.size) (hb : ∀ g, B ≤ g → g < w.heap.size → w'.heap[g]? = w.heap[g]?) : IWA w' B v l V := by
  obtain ⟨O, h1, h2, h3⟩ := h.ap
  refine ⟨h.iw.move hs hb, O, h1.kept (fun u hu g hg => ?_), h2, fun u hu => (h3 u hu).kept (fun g hg hl => hb g hg.1 hl) (fun g hg _ => ⟨hg.1, Nat.lt_of_lt_of_le hg.2.1 hs, hg.2.2⟩)⟩
  have := (h3 u hu).lt hg
  exact hb g this.1.1 this.2
theorem IWA.later {w w' : World} {B : Nat} {v : Value} {l : List Tr} {V : List Value} (h : IWA w B v l V) (hb : Below w.heap.size w w') : IWA w' B v l V := h.move hb.size (fun g _ hg => hb.block g hg)
theorem IWA.mv {w w' : World} {B p q : Nat} {v : Value} {l : List Tr} {V : List Value} (h : IWA w B v l V) (hm : Mv p q w w') (hp : p < B) (hq : q < B) : IWA w' B v l V := h.move hm.size (fun g hB hg => hm.block g hg (by omega) (by omega))
theorem nd_append {a b : List Value} (ha : Nd a) (hb : Nd b) (hd : ∀ u ∈ a, ∀ v ∈ b, ∀ x, u.ownBlock = some x → v.ownBlock ≠ some x) : Nd (a ++ b) := by
  unfold Nd at *
  rw [List.filterMap_append, List.nodup_append]
  refine ⟨ha, hb, fun x hx y hy e => ?_⟩
  obtain ⟨u, hu, hu2⟩ := List.mem_filterMap.1 hx
  obtain ⟨v, hv, hv2⟩ := List.mem_filterMap.1 hy
  exact hd u hu v hv x hu2 (by rw [e]; exact hv2)
theorem IWA.snoc {w0 w w1 : World} {B lo : Nat} {v v' u : Value} {l : List Tr} {V : List Value} {a : Tr} (h : IWA w B v l V) (h0 : IWA w0 B v l V) (hk0 : ∀ g, B ≤ g → g < w0.heap.size → w.heap[g]? = w0.heap[g]?) (hs0 : w0.heap.size ≤ w.heap.size) (hw0 : w0.heap.size ≤ lo)
    (hO : w1.ownsRow B 58 5 v' (l.length + 1) (ic l V ++ (iC a.itm u).toList)) (hg : ∀ x, x < w.heap.size → v.ownBlock ≠ some x → w1.heap[x]? = w.heap[x]?) (hs : w.heap.size ≤ w1.heap.size) (hr : ∀ x, v'.ownBlock = some x → v.ownBlock = some x ∨ w.heap.size ≤ x)
    (hlo : B ≤ lo) (hv : ∀ x, v.ownBlock = some x → x < lo) (hu : PA w (fun x => lo ≤ x ∧ x < w.heap.size) u a.kids) : IWA w1 B v' (l ++ [a]) (V ++ [u]) := by
  refine ⟨h.iw.snoc hO hg hs hr hlo hv hu.1, ?_⟩
  obtain ⟨O, h1, h2, h3⟩ := h0.ap
  obtain ⟨o, g1, g2, g3⟩ := hu.2
  have new : ∀ x, B ≤ x → x < w.heap.size → v.ownBlock ≠ some x → SQ B w1 v' x := fun x h1 h2 h3 => ⟨h1, by omega, fun e => by
    rcases hr x e with h | h
    · exact h3 h
    · omega⟩
  have kold : ∀ u ∈ O.flatten, ∀ g, u.ownBlock = some g → w1.heap[g]? = w0.heap[g]? := fun u hu g hg' => by
    have := (h3 u hu).lt hg'
    exact (hg g (by omega) this.1.2.2).trans (hk0 g this.1.1 this.2)
  have knew : ∀ y ∈ o, ∀ g, y.ownBlock = some g → w1.heap[g]? = w.heap[g]? := fun y hy g hg' => by
    have := (g3 y hy).lt hg'
    exact hg g this.2 (fun e => by have := hv g e; omega)
  have hVl := h.len
  refine ⟨O ++ [o], ⟨by simp [h1.1], fun j b x p e1 e2 e3 => ?_⟩, ?_, fun y hy => ?_⟩
  · by_cases hj : j < l.length
    · rw [List.getElem?_append_left hj] at e1
      rw [List.getElem?_append_left (by omega)] at e2
      rw [List.getElem?_append_left (by rw [h1.1]; exact hj)] at e3
      exact (h1.kept kold).2 j b x p e1 e2 e3
    · have hj0 : j - l.length = 0 := by rw [List.getElem?_append_right (by omega)] at e1; have := (List.getElem?_eq_some_iff.1 e1).1; simp at this; omega
      rw [List.getElem?_append_right (by omega), hj0] at e1
      rw [List.getElem?_append_right (by omega), hVl, hj0] at e2
      rw [List.getElem?_append_right (by rw [h1.1]; omega), h1.1, hj0] at e3
      simp at e1 e2 e3; subst e1; subst e2; subst e3
      exact LT_kept _ _ _ _ (Nat.le_refl _) g1 knew
  · rw [List.flatten_append, List.flatten_singleton]
    refine nd_append h2 g2 (fun u hu y hy x e1 e2 => ?_)
    have a1 := ((h3 u hu).lt e1).2
    have a2 := ((g3 y hy).lt e2).1.1
    omega
  · rw [List.flatten_append, List.flatten_singleton] at hy
    rcases List.mem_append.1 hy with hy | hy
    · have h4 := h3 y hy
      obtain ⟨⟨n, xs, hO'⟩, h5⟩ := h4
      exact ⟨⟨n, xs, owns_blkq hO' (fun g e => kold y hy g e)⟩, fun x hx => by
        have := ((h3 y hy).lt hx)
        exact new x this.1.1 (by omega) this.1.2.2⟩
    · obtain ⟨⟨n, xs, hO'⟩, h5⟩ := g3 y hy
      exact ⟨⟨n, xs, owns_blkq hO' (fun g e => knew y hy g e)⟩, fun x hx => by
        have := ((g3 y hy).lt hx)
        exact new x (by omega) this.2 (fun e => by have := hv x e; omega)⟩
theorem LR_mk {w : World} {g : Nat} : ∀ (l : List Tr) (V : List Value) (O : List (List Value)) (off : Nat), V.length = l.length → O.length = l.length → (∀ (j : Nat) (a : Tr) (u : Value) (o : List Value), l[j]? = some a → V[j]? = some u → O[j]? = some o → w.cell? ⟨g, off + j * 5 + 4, none⟩ = some u ∧ LT w u a.kids o) → LR w l g off O.flatten
  | [], _, [], _, _, _, _ => LR_nil.2 rfl
  | x :: r, u :: V, o :: O, off, h1, h2, h => by
    obtain ⟨e1, e2⟩ := h 0 x u o rfl rfl rfl
    refine LR_cons.2 ⟨o, O.flatten, by simp, LI_iff.2 ⟨u, by simpa using e1, e2⟩, LR_mk r V O (off + 5) (by simpa using h1) (by simpa using h2) (fun j a y p q1 q2 q3 => ?_)⟩
    obtain ⟨e3, e4⟩ := h (j + 1) a y p (by simpa using q1) (by simpa using q2) (by simpa using q3)
    exact ⟨by rw [show off + 5 + j * 5 + 4 = off + (j + 1) * 5 + 4 by omega]; exact e3, e4⟩
/-- What a reading ends with. -/
theorem IWA.done {w : World} {B : Nat} {v : Value} {l : List Tr} {V : List Value} (h : IWA w B v l V) : PA w (fun x => B ≤ x ∧ x < w.heap.size) v l := by
  refine ⟨h.iw.done, ?_⟩
  obtain ⟨O, h1, h2, h3⟩ := h.ap
  have hv : OW w (fun x => B ≤ x ∧ x < w.heap.size) v := ⟨⟨_, _, World.ownsRow.mono h.row (Nat.zero_le _)⟩, fun x hx => own_ltq h.row x hx⟩
  have hlen := h.len
  refine ⟨v :: O.flatten, ?_, ?_, fun u hu => ?_⟩
  · rcases h.row.2 with ⟨rfl, h0⟩ | ⟨g, cap, cur, rfl, hb, hh, _⟩
    · have : l = [] := List.length_eq_zero_iff.1 h0
      subst this
      have : O = [] := List.length_eq_zero_iff.1 h1.1
      subst this
      exact ⟨none, 0, [], rfl, rfl, .inl ⟨rfl, rfl⟩⟩
    · refine ⟨_, cap, O.flatten, rfl, rfl, .inr ⟨g, rfl, LR_mk l V O 0 hlen h1.1 (fun j a u o e1 e2 e3 => ⟨?_, h1.2 j a u o e1 e2 e3⟩)⟩⟩
      have := World.ownsRow.cells h.row rfl (j * 5 + 4) u (ic_at l V j a u e1 e2).2.2.2.2
      rw [Addr.add_lit, Nat.zero_add] at this
      rw [Nat.zero_add]; exact this
  · have e : v :: O.flatten = [v] ++ O.flatten := rfl
    rw [e]
    refine nd_append ?_ h2 (fun u hu y hy x e1 e2 => ?_)
    · unfold Nd
      cases hq : v.ownBlock with
      | none => rw [show List.filterMap Value.ownBlock [v] = [] by simp [hq]]; exact List.nodup_nil
      | some x => rw [show List.filterMap Value.ownBlock [v] = [x] by simp [hq]]; simp
    · rw [List.mem_singleton] at hu
      subst hu
      exact ((h3 y hy).lt e2).1.2.2 e1
  · rcases List.mem_cons.1 hu with rfl | hu
    · exact hv
    · obtain ⟨⟨n, xs, hO'⟩, h5⟩ := h3 u hu
      exact ⟨⟨n, xs, hO'⟩, fun x hx => ⟨(h5 x hx).1, (h5 x hx).2.1⟩⟩
theorem IWA.text {w : World} {B g cap : Nat} {l : List Tr} {a : Tr} {V : List Value} {u : Value} (h : IWA w B (.slice (some ⟨g, 0, none⟩) (l.length + 1) cap) (l ++ [a]) (V ++ [u])) (t : List UInt8) :
    IWA (w.setCell ⟨g, l.length * 5 + 2, none⟩ (.string ⟨t.toArray⟩)) B (.slice (some ⟨g, 0, none⟩) (l.length + 1) cap) (l ++ [a.withText t]) (V ++ [u]) := by
  refine ⟨h.iw.text t, ?_⟩
  obtain ⟨O, h1, h2, h3⟩ := h.ap
  have kk : ∀ y ∈ O.flatten, ∀ x, y.ownBlock = some x → (w.setCell ⟨g, l.length * 5 + 2, none⟩ (.string ⟨t.toArray⟩)).heap[x]? = w.heap[x]? := fun y hy x hx => Below.heap_setCell w _ _ x (fun e => ((h3 y hy).lt hx).1.2.2 (by rw [e]; rfl))
  have hko := h1.kept kk
  refine ⟨O, ⟨by rw [hko.1]; simp, fun j b x o e1 e2 e3 => ?_⟩, h2, fun y hy => ?_⟩
  · by_cases hj : j < l.length
    · rw [List.getElem?_append_left hj] at e1
      exact hko.2 j b x o (by rw [List.getElem?_append_left hj]; exact e1) e2 e3
    · have hj0 : j - l.length = 0 := by rw [List.getElem?_append_right (by omega)] at e1; have := (List.getElem?_eq_some_iff.1 e1).1; simp at this; omega
      rw [List.getElem?_append_right (by omega), hj0] at e1
      simp at e1; subst e1
      exact hko.2 j a x o (by rw [List.getElem?_append_right (by omega), hj0]; rfl) e2 e3
  · obtain ⟨⟨n, xs, hO'⟩, h5⟩ := h3 y hy
    exact ⟨⟨n, xs, owns_blkq hO' (fun x e => kk y hy x e)⟩, fun x hx => ⟨(h5 x hx).1, by simpa [World.setCell] using (h5 x hx).2.1, (h5 x hx).2.2⟩⟩
end Go.Proofs.YtbaideeiljeamaaGreatDoor.TG
