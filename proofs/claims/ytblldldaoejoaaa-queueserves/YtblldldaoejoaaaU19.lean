/-
  My own text: layer 19: QueueLoses: what the law knows, held against the queue.
-/
import Derived.Test.YtblldldaoejoaaaU18
import Derived.Test.YtblldldaoejoaaaUPick
namespace Go.Proofs.Ytblldldaoejoaaa
open Go.RowKit Go.Extern Go.MapKept Go.ChangeMaps

/-- Two lists, place by place. -/
structure Rel (R : Nat → Kn → Prop) (A : List Nat) (L : List Kn) : Prop where
  len : A.length = L.length
  at' : ∀ (j x : Nat) (p : Kn), A[j]? = some x → L[j]? = some p → R x p
theorem Rel.tail {R : Nat → Kn → Prop} {x : Nat} {p : Kn} {A : List Nat} {L : List Kn} (h : Rel R (x :: A) (p :: L)) : R x p ∧ Rel R A L :=
  ⟨h.at' 0 x p rfl rfl, ⟨by have := h.len; simpa using this, fun j y r hy hr => h.at' (j + 1) y r hy hr⟩⟩
theorem Rel.maps {R : Nat → Kn → Prop} {f : Nat → Int} (hf : ∀ x p, R x p → f x = p.id) : ∀ {A : List Nat} {L : List Kn}, Rel R A L → A.map f = L.map (·.id)
  | [], [], _ => rfl
  | [], p :: L, h => by have := h.len; simp at this
  | x :: A, [], h => by have := h.len; simp at this
  | x :: A, p :: L, h => by
    obtain ⟨h1, h2⟩ := h.tail
    rw [List.map_cons, List.map_cons, hf x p h1, h2.maps hf]
theorem Rel.filters {R : Nat → Kn → Prop} {f : Nat → Int} {P : Nat → Bool} (hf : ∀ x p, R x p → f x = p.id) (hP : ∀ x p, R x p → P x = kid p) : ∀ {A : List Nat} {L : List Kn}, Rel R A L → (A.filter P).map f = (L.filter kid).map (·.id)
  | [], [], _ => rfl
  | [], p :: L, h => by have := h.len; simp at this
  | x :: A, [], h => by have := h.len; simp at this
  | x :: A, p :: L, h => by
    obtain ⟨h1, h2⟩ := h.tail
    have e := hP x p h1
    cases hk : kid p with
    | true =>
      rw [List.filter_cons_of_pos (by rw [e, hk]), List.filter_cons_of_pos hk, List.map_cons, List.map_cons, hf x p h1, h2.filters hf hP]
    | false =>
      rw [List.filter_cons_of_neg (by rw [e, hk]; decide), List.filter_cons_of_neg (by rw [hk]; decide), h2.filters hf hP]
theorem Rel.get {R : Nat → Kn → Prop} {A : List Nat} {L : List Kn} (h : Rel R A L) {j : Nat} {x : Nat} (hx : A[j]? = some x) : ∃ p, L[j]? = some p ∧ R x p := by
  have hl := (List.getElem?_eq_some_iff.1 hx).1
  have hl2 : j < L.length := by rw [← h.len]; exact hl
  exact ⟨L[j], List.getElem?_eq_getElem hl2, h.at' j x _ hx (List.getElem?_eq_getElem hl2)⟩
theorem Rel.got {R : Nat → Kn → Prop} {A : List Nat} {L : List Kn} (h : Rel R A L) {j : Nat} {p : Kn} (hp : L[j]? = some p) : ∃ x, A[j]? = some x ∧ R x p := by
  have hl := (List.getElem?_eq_some_iff.1 hp).1
  have hl2 : j < A.length := by rw [h.len]; exact hl
  exact ⟨A[j], List.getElem?_eq_getElem hl2, h.at' j _ p (List.getElem?_eq_getElem hl2) hp⟩
/-- An entry, and what the law knows of it. -/
structure Rl (e : Et) (p : Kn) : Prop where
  id : e.id = p.id
  ks : ∀ k, k ∈ e.keys ↔ k ∈ p.ks
  o : p.o = decide (e.st = 2)
  d : p.d = (decide (e.st = 1) || (decide (e.st = 2) && e.tch))
theorem Rl.kid {e : Et} {p : Kn} (h : Rl e p) (hs : e.st = 0 ∨ e.st = 1 ∨ e.st = 2) : (e.st == 0) = kid p := by
  unfold Go.Proofs.Ytblldldaoejoaaa.kid
  rw [h.o, h.d]
  rcases hs with h0 | h1 | h2
  · simp [h0]
  · simp [h1]
  · simp [h2]
abbrev RZ (Z : Qx) : Nat → Kn → Prop := fun x p => x ∈ Z.A ∧ Rl (Z.T x) p
/-- The law's state. -/
structure LL (w0 wr : World) (q : Nat) (room : Int) (O : Nat → Prop) (Z : Qx) (v : Value) (L : List Kn) (n : Nat) : Prop where
  qs : QS O wr q Z
  on : ON wr w0.heap.size v L
  ob : ∀ g, O g → w0.heap.size ≤ g
  vo : ∀ g, v.ownBlock = some g → ¬ O g
  bl : Below w0.heap.size w0 wr
  rel : Rel (RZ Z) Z.A L
  nn : Z.n ≤ (n : Int)
  rm : Z.room = max room 0
  ar : (Z.A.length : Int) ≤ Z.room
  kn : ∀ p ∈ L, KY.RM w0 p.kv p.ks ∧ p.ks.length ≤ 8796093022000
theorem LL.len {w0 wr : World} {q n : Nat} {room : Int} {O : Nat → Prop} {Z : Qx} {v : Value} {L : List Kn} (h : LL w0 wr q room O Z v L n) : L.length ≤ n := by
  have h1 := h.rel.len
  have h2 := h.qs.ok.an
  have h3 := h.nn
  omega
theorem on_kept {w w' : World} {B : Nat} {v : Value} {L : List Kn} (h : ON w B v L) (hb : ∀ g, v.ownBlock = some g → w'.heap[g]? = w.heap[g]?) : ON w' B v L := owns_blk h hb
theorem LL.later {w0 wr w' : World} {q n : Nat} {room : Int} {O : Nat → Prop} {Z : Qx} {v : Value} {L : List Kn} (h : LL w0 wr q room O Z v L n) (hb : Below wr.heap.size wr w') : LL w0 w' q room O Z v L n :=
  ⟨h.qs.later hb, owns_lat h.on hb, h.ob, h.vo, h.bl.trans (hb.mono h.bl.size), h.rel, h.nn, h.rm, h.ar, h.kn⟩
theorem LL.up {w0 wr : World} {q n m : Nat} {room : Int} {O : Nat → Prop} {Z : Qx} {v : Value} {L : List Kn} (h : LL w0 wr q room O Z v L n) (hm : n ≤ m) : LL w0 wr q room O Z v L m :=
  ⟨h.qs, h.on, h.ob, h.vo, h.bl, h.rel, by have := h.nn; omega, h.rm, h.ar, h.kn⟩
/-- The law's own row lies where the queue doesn't. -/
theorem LL.row {w0 wr w' : World} {q n : Nat} {room : Int} {O : Nat → Prop} {Z : Qx} {v : Value} {L : List Kn} (h : LL w0 wr q room O Z v L n) (hf : Fw O wr w') : ON w' w0.heap.size v L :=
  on_kept h.on (fun g hg => hf.block g (World.ownsRow.lt h.on g hg).2 (h.vo g hg))
/-- Behind a call of the queue. -/
theorem LL.call {w0 wr w' : World} {q n : Nat} {room : Int} {O : Nat → Prop} {Z Z' : Qx} {v : Value} {L : List Kn} (h : LL w0 wr q room O Z v L n) (hq : QTo O wr w' q Z') (hr : Rel (RZ Z') Z'.A L) (hn : Z'.n ≤ (n : Int)) (hrm : Z'.room = Z.room) (har : (Z'.A.length : Int) ≤ Z'.room) : ∃ O', LL w0 w' q room O' Z' v L n := by
  obtain ⟨O', q1, q2, q3⟩ := hq
  exact ⟨O', q1, h.row q3, fun g hg => (q2 g hg).elim (h.ob g) (fun e => Nat.le_trans h.bl.size e), fun g hg hO => (q2 g hO).elim (h.vo g hg) (fun e => by have := (World.ownsRow.lt h.on g hg).2; omega), fo_below h.bl q3 h.ob, hr, hn, by rw [hrm]; exact h.rm, har, h.kn⟩
/-- The law's list is another, of its own. -/
theorem LL.list {w0 wr w' : World} {q n : Nat} {room : Int} {O : Nat → Prop} {Z : Qx} {v v' : Value} {L L' : List Kn} (h : LL w0 wr q room O Z v L n) (hb : Below wr.heap.size wr w') (ho : ON w' wr.heap.size v' L') (hr : Rel (RZ Z) Z.A L') (hk : ∀ p ∈ L', KY.RM w0 p.kv p.ks ∧ p.ks.length ≤ 8796093022000) : LL w0 w' q room O Z v' L' n := by
  refine ⟨h.qs.later hb, ?_, h.ob, fun g hg hO => ?_, h.bl.trans (hb.mono h.bl.size), hr, h.nn, h.rm, h.ar, hk⟩
  · have := h.bl.size
    refine ⟨ho.1, ?_⟩
    rcases ho.2 with h2 | ⟨g, cap, cur, hv, hg, h3⟩
    · exact .inl h2
    · exact .inr ⟨g, cap, cur, hv, Nat.le_trans this hg, h3⟩
  · have h1 := (World.ownsRow.lt ho g hg).1
    have h2 := h.qs.lt g hO
    omega
theorem nc_setd {L : List Kn} {j : Nat} {p : Kn} (h : L[j]? = some p) (b : Bool) : nc (L.set j { p with d := b }) = (nc L).set (j * 4 + 2) (.bool b) := by
  induction L generalizing j with
  | nil => simp at h
  | cons q t ih =>
    cases j with
    | zero => obtain rfl := Option.some.inj h; rfl
    | succ j =>
      have := ih (j := j) h
      rw [List.set_cons_succ, show (j + 1) * 4 + 2 = j * 4 + 2 + 1 + 1 + 1 + 1 by omega]
      show _ :: _ :: _ :: _ :: nc _ = _
      rw [this]; rfl
theorem nc_seto {L : List Kn} {j : Nat} {p : Kn} (h : L[j]? = some p) (b : Bool) : nc (L.set j { p with o := b }) = (nc L).set (j * 4 + 3) (.bool b) := by
  induction L generalizing j with
  | nil => simp at h
  | cons q t ih =>
    cases j with
    | zero => obtain rfl := Option.some.inj h; rfl
    | succ j =>
      have := ih (j := j) h
      rw [List.set_cons_succ, show (j + 1) * 4 + 3 = j * 4 + 3 + 1 + 1 + 1 + 1 by omega]
      show _ :: _ :: _ :: _ :: nc _ = _
      rw [this]; rfl
/-- The law's state, without what its list says of the entries. -/
structure LM (w0 wr : World) (q : Nat) (room : Int) (O : Nat → Prop) (Z : Qx) (v : Value) (L : List Kn) (n : Nat) : Prop where
  qs : QS O wr q Z
  on : ON wr w0.heap.size v L
  ob : ∀ g, O g → w0.heap.size ≤ g
  vo : ∀ g, v.ownBlock = some g → ¬ O g
  bl : Below w0.heap.size w0 wr
  nn : Z.n ≤ (n : Int)
  rm : Z.room = max room 0
  ar : (Z.A.length : Int) ≤ Z.room
  kn : ∀ p ∈ L, KY.RM w0 p.kv p.ks ∧ p.ks.length ≤ 8796093022000
theorem LL.lm {w0 wr : World} {q n : Nat} {room : Int} {O : Nat → Prop} {Z : Qx} {v : Value} {L : List Kn} (h : LL w0 wr q room O Z v L n) : LM w0 wr q room O Z v L n := ⟨h.qs, h.on, h.ob, h.vo, h.bl, h.nn, h.rm, h.ar, h.kn⟩
theorem LM.ll {w0 wr : World} {q n : Nat} {room : Int} {O : Nat → Prop} {Z : Qx} {v : Value} {L : List Kn} (h : LM w0 wr q room O Z v L n) (hr : Rel (RZ Z) Z.A L) : LL w0 wr q room O Z v L n := ⟨h.qs, h.on, h.ob, h.vo, h.bl, hr, h.nn, h.rm, h.ar, h.kn⟩
theorem LM.later {w0 wr w' : World} {q n : Nat} {room : Int} {O : Nat → Prop} {Z : Qx} {v : Value} {L : List Kn} (h : LM w0 wr q room O Z v L n) (hb : Below wr.heap.size wr w') : LM w0 w' q room O Z v L n :=
  ⟨h.qs.later hb, owns_lat h.on hb, h.ob, h.vo, h.bl.trans (hb.mono h.bl.size), h.nn, h.rm, h.ar, h.kn⟩
/-- A cell of the law's list is set. -/
theorem LM.set {w0 wr : World} {q n g cap : Nat} {room : Int} {O : Nat → Prop} {Z : Qx} {L L' : List Kn} (h : LM w0 wr q room O Z (.slice (some ⟨g, 0, none⟩) L.length cap) L n) (o : Nat) (u : Value) (hl : L'.length = L.length) (hn : nc L' = (nc L).set o u) (hk : ∀ p ∈ L', KY.RM w0 p.kv p.ks ∧ p.ks.length ≤ 8796093022000) :
    LM w0 (wr.setCell ⟨g, o, none⟩ u) q room O Z (.slice (some ⟨g, 0, none⟩) L'.length cap) L' n := by
  obtain ⟨s1, s2⟩ := World.ownsRow.stored h.on o u
  have hg : w0.heap.size ≤ g := (World.ownsRow.lt h.on g rfl).1
  have hne : ∀ y, y ≠ g → (wr.setCell ⟨g, o, none⟩ u).heap[y]? = wr.heap[y]? := fun y hy => Below.heap_setCell _ _ _ y hy
  refine ⟨h.qs.kept (fun y hy => hne y (fun e => h.vo g rfl (by rw [← e]; exact hy))) (by simp [World.setCell]), ?_, h.ob, fun y hy => h.vo y (by rw [← hy]; rfl), ⟨h.bl.os, h.bl.tape, h.bl.output, Nat.le_trans h.bl.size (by simp [World.setCell]), fun y hy => (hne y (by omega)).trans (h.bl.block y hy)⟩, h.nn, h.rm, h.ar, hk⟩
  unfold ON
  rw [hl, hn]
  exact s1
end Go.Proofs.Ytblldldaoejoaaa
