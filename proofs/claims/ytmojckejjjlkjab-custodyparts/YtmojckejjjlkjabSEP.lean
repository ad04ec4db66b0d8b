/-
  My own text: things in memory that lie apart: each has blocks of its own, and changes there alone.
-/
import Derived.Test.YtmojckejjjlkjabG0
import Derived.Maps.AppendAt
import Derived.Laws.Tables
namespace Go.Proofs.Ytmojckejjjlkjab
open Go.RowKit Go.Extern

/-- Something in memory: its blocks, and what is known of it. -/
structure Cp where
  O : Nat → Prop
  P : World → Prop
structure Cp.Ok (c : Cp) : Prop where
  keep : ∀ w w', c.P w → w.heap.size ≤ w'.heap.size → (∀ g, c.O g → w'.heap[g]? = w.heap[g]?) → c.P w'
  lt : ∀ w, c.P w → ∀ g, c.O g → g < w.heap.size
/-- Blocks of O alone have changed. -/
structure FS (O : Nat → Prop) (w w' : World) : Prop where
  os : w'.os = w.os
  tape : w'.tape = w.tape
  output : w'.output = w.output
  size : w.heap.size ≤ w'.heap.size
  block : ∀ y, y < w.heap.size → ¬ O y → w'.heap[y]? = w.heap[y]?
theorem FS.of_gb {w w' : World} {v : Value} {O : Nat → Prop} (h : w.grownBy w' v.ownBlock) (h2 : ∀ g, v.ownBlock = some g → O g) : FS O w w' := by
  obtain ⟨e1, e2, e3, e4, e5⟩ := h
  exact ⟨e1, e2, e3, e4, fun g hg hn => e5 g hg (fun e => hn (h2 g (by first | exact e | exact e.symm)))⟩
theorem FS.row {w : World} {b : Nat} {cs : Array Value} {O : Nat → Prop} (h : O b) : FS O w (w.setRow b cs) :=
  ⟨rfl, rfl, rfl, by simp [World.setRow], fun y _ hn => setRow_other w b y cs (fun e => hn (e ▸ h))⟩
/-- All of them, apart from one another and from what was there. -/
structure Sep (w0 w : World) (cs : List Cp) : Prop where
  bl : Below w0.heap.size w0 w
  ok : ∀ (i : Nat) (c : Cp), cs[i]? = some c → c.Ok
  is : ∀ (i : Nat) (c : Cp), cs[i]? = some c → c.P w
  lo : ∀ (i : Nat) (c : Cp), cs[i]? = some c → ∀ g, c.O g → w0.heap.size ≤ g
  dj : ∀ (i j : Nat) (c d : Cp), cs[i]? = some c → cs[j]? = some d → i ≠ j → ∀ g, c.O g → d.O g → False
theorem Sep.later {w0 w w' : World} {cs : List Cp} (h : Sep w0 w cs) (hb : Below w.heap.size w w') : Sep w0 w' cs :=
  ⟨h.bl.trans (hb.mono h.bl.size), h.ok, fun i c hi => (h.ok i c hi).keep w w' (h.is i c hi) hb.size (fun g hg => hb.block g ((h.ok i c hi).lt w (h.is i c hi) g hg)), h.lo, h.dj⟩
theorem Sep.nil {w0 w : World} (hb : Below w0.heap.size w0 w) : Sep w0 w [] := ⟨hb, fun i c h => by simp at h, fun i c h => by simp at h, fun i c h => by simp at h, fun i j c d h => by simp at h⟩
theorem Sep.front {w0 w : World} {cs ds : List Cp} (h : Sep w0 w (cs ++ ds)) : Sep w0 w cs := by
  have e : ∀ (i : Nat) (c : Cp), cs[i]? = some c → (cs ++ ds)[i]? = some c := fun i c hi => by rw [List.getElem?_append_left (List.getElem?_eq_some_iff.1 hi).1]; exact hi
  exact ⟨h.bl, fun i c hi => h.ok i c (e i c hi), fun i c hi => h.is i c (e i c hi), fun i c hi => h.lo i c (e i c hi), fun i j c d hi hj => h.dj i j c d (e i c hi) (e j d hj)⟩
theorem set_cases {cs : List Cp} {i j : Nat} {c c' d : Cp} (hi : cs[i]? = some c) (h : (cs.set i c')[j]? = some d) : (j = i ∧ d = c') ∨ (j ≠ i ∧ cs[j]? = some d) := by
  have hl := (List.getElem?_eq_some_iff.1 hi).1
  by_cases e : j = i
  · subst e
    rw [List.getElem?_set_self hl] at h
    exact .inl ⟨rfl, (Option.some.inj h).symm⟩
  · rw [List.getElem?_set_ne (fun q => e q.symm)] at h
    exact .inr ⟨e, h⟩
/-- One has changed; others that it has taken in go. -/
theorem Sep.merges {w0 w w' : World} {cs ds : List Cp} {i : Nat} {c c' : Cp} (h : Sep w0 w (cs ++ ds)) (hi : cs[i]? = some c) (hf : FS c.O w w') (hok : c'.Ok) (hp : c'.P w') (hn : ∀ g, c'.O g → c.O g ∨ (∃ d ∈ ds, d.O g) ∨ w.heap.size ≤ g) : Sep w0 w' (cs.set i c') := by
  have e : ∀ (i : Nat) (c : Cp), cs[i]? = some c → (cs ++ ds)[i]? = some c := fun i c hi => by rw [List.getElem?_append_left (List.getElem?_eq_some_iff.1 hi).1]; exact hi
  have ed : ∀ d ∈ ds, ∃ m, (cs ++ ds)[cs.length + m]? = some d := fun d hd => by
    obtain ⟨m, hm⟩ := List.getElem?_of_mem hd
    exact ⟨m, by rw [List.getElem?_append_right (by omega), Nat.add_sub_cancel_left]; exact hm⟩
  have hic := e i c hi
  have hb : Below w0.heap.size w0 w' := ⟨hf.os.trans h.bl.os, hf.tape.trans h.bl.tape, hf.output.trans h.bl.output, Nat.le_trans h.bl.size hf.size, fun y hy => (hf.block y (Nat.lt_of_lt_of_le hy h.bl.size) (fun q => by have := h.lo i c hic y q; omega)).trans (h.bl.block y hy)⟩
  refine ⟨hb, fun j x hj => ?_, fun j x hj => ?_, fun j x hj g hg => ?_, fun j k x y hj hk hjk g hx hy => ?_⟩
  · rcases set_cases hi hj with ⟨_, rfl⟩ | ⟨_, hj⟩
    · exact hok
    · exact h.ok j x (e j x hj)
  · rcases set_cases hi hj with ⟨_, rfl⟩ | ⟨hne, hj⟩
    · exact hp
    · have hx := e j x hj
      exact (h.ok j x hx).keep w w' (h.is j x hx) hf.size (fun g hg => hf.block g ((h.ok j x hx).lt w (h.is j x hx) g hg) (fun q => h.dj i j c x hic hx (fun q => hne q.symm) g q hg))
  · rcases set_cases hi hj with ⟨_, rfl⟩ | ⟨_, hj⟩
    · rcases hn g hg with q | ⟨d, hd, q⟩ | q
      · exact h.lo i c hic g q
      · obtain ⟨m, hm⟩ := ed d hd
        exact h.lo _ d hm g q
      · exact Nat.le_trans h.bl.size q
    · exact h.lo j x (e j x hj) g hg
  · have key : ∀ (j : Nat) (x : Cp), j ≠ i → cs[j]? = some x → ∀ g, c'.O g → x.O g → False := fun j x hne hj g h1 h2 => by
      have hx := e j x hj
      have hlt := (h.ok j x hx).lt w (h.is j x hx) g h2
      rcases hn g h1 with q | ⟨d, hd, q⟩ | q
      · exact h.dj i j c x hic hx (fun q => hne q.symm) g q h2
      · obtain ⟨m, hm⟩ := ed d hd
        exact h.dj _ j d x hm hx (fun q => by have := (List.getElem?_eq_some_iff.1 hj).1; omega) g q h2
      · omega
    rcases set_cases hi hj with ⟨e1, q1⟩ | ⟨n1, hj'⟩
    · rcases set_cases hi hk with ⟨e2, q2⟩ | ⟨n2, hk'⟩
      · omega
      · exact key k y n2 hk' g (q1 ▸ hx) hy
    · rcases set_cases hi hk with ⟨e2, q2⟩ | ⟨n2, hk'⟩
      · exact key j x n1 hj' g (q2 ▸ hy) hx
      · exact h.dj j k x y (e j x hj') (e k y hk') hjk g hx hy
theorem Sep.merge {w0 w w' : World} {cs : List Cp} {i : Nat} {c c' d : Cp} (h : Sep w0 w (cs ++ [d])) (hi : cs[i]? = some c) (hf : FS c.O w w') (hok : c'.Ok) (hp : c'.P w') (hn : ∀ g, c'.O g → c.O g ∨ d.O g ∨ w.heap.size ≤ g) : Sep w0 w' (cs.set i c') :=
  h.merges hi hf hok hp (fun g hg => (hn g hg).elim .inl (fun q => .inr (q.elim (fun q => .inl ⟨d, by simp, q⟩) .inr)))
def noCp : Cp := ⟨fun _ => False, fun _ => True⟩
theorem noCp_ok : noCp.Ok := ⟨fun _ _ _ _ _ => trivial, fun _ _ _ h => h.elim⟩
/-- Something is added. -/
theorem Sep.add {w0 w : World} {cs : List Cp} {c : Cp} (h : Sep w0 w cs) (hok : c.Ok) (hp : c.P w) (hlo : ∀ g, c.O g → w0.heap.size ≤ g) (hn : ∀ (i : Nat) (d : Cp), cs[i]? = some d → ∀ g, c.O g → d.O g → False) : Sep w0 w (cs ++ [c]) := by
  have e : ∀ (i : Nat) (x : Cp), (cs ++ [c])[i]? = some x → cs[i]? = some x ∨ (i = cs.length ∧ x = c) := fun i x hi => by
    by_cases hl : i < cs.length
    · rw [List.getElem?_append_left hl] at hi; exact .inl hi
    · have := (List.getElem?_eq_some_iff.1 hi).1
      have e : i = cs.length := by simp at this; omega
      subst e
      simp at hi
      exact .inr ⟨rfl, hi.symm⟩
  refine ⟨h.bl, fun j x hj => ?_, fun j x hj => ?_, fun j x hj => ?_, fun j k x y hj hk hjk g hx hy => ?_⟩
  · rcases e j x hj with hj | ⟨_, rfl⟩
    · exact h.ok j x hj
    · exact hok
  · rcases e j x hj with hj | ⟨_, rfl⟩
    · exact h.is j x hj
    · exact hp
  · rcases e j x hj with hj | ⟨_, rfl⟩
    · exact h.lo j x hj
    · exact hlo
  · rcases e j x hj with hj' | ⟨e1, q1⟩
    · rcases e k y hk with hk' | ⟨e2, q2⟩
      · exact h.dj j k x y hj' hk' hjk g hx hy
      · exact hn j x hj' g (q2 ▸ hy) hx
    · rcases e k y hk with hk' | ⟨e2, q2⟩
      · exact hn k y hk' g (q1 ▸ hx) hy
      · omega
/-- Something new is added behind a call. -/
theorem Sep.new {w0 w w' : World} {cs : List Cp} {c : Cp} (h : Sep w0 w cs) (hb : Below w.heap.size w w') (hok : c.Ok) (hp : c.P w') (hn : ∀ g, c.O g → w.heap.size ≤ g) : Sep w0 w' (cs ++ [c]) :=
  (h.later hb).add hok hp (fun g hg => Nat.le_trans h.bl.size (hn g hg)) (fun i d hi g h1 h2 => by have := (h.ok i d hi).lt w (h.is i d hi) g h2; have := hn g h1; omega)
theorem Sep.step {w0 w w' : World} {cs : List Cp} {i : Nat} {c c' : Cp} (h : Sep w0 w cs) (hi : cs[i]? = some c) (hf : FS c.O w w') (hok : c'.Ok) (hp : c'.P w') (hn : ∀ g, c'.O g → c.O g ∨ w.heap.size ≤ g) : Sep w0 w' (cs.set i c') :=
  (h.add noCp_ok trivial (fun _ h => h.elim) (fun _ _ _ _ h _ => h.elim)).merge hi hf hok hp (fun g hg => (hn g hg).elim .inl (fun q => .inr (.inr q)))
/-- A box. -/
def BCp (b : Nat) (cs : Array Value) (t : TypeId) : Cp := ⟨fun g => g = b, fun w => w.heap[b]? = some (.cells cs t (0, 0))⟩
theorem BCp.ok (b : Nat) (cs : Array Value) (t : TypeId) : (BCp b cs t).Ok := ⟨fun w w' h _ hk => (hk b rfl).trans h, fun w h g hg => by rw [hg]; exact (Array.getElem?_eq_some_iff.1 h).1⟩
theorem Sep.box {w0 w : World} {cs : List Cp} (h : Sep w0 w cs) (xs : Array Value) (t : TypeId) : Sep w0 (w.alloc (.cells xs t)) (cs ++ [BCp w.heap.size xs t]) :=
  h.new ((Below.refl _ _).alloc (Nat.le_refl _) _) (BCp.ok _ _ _) (alloc_new w _) (fun g hg => by rw [hg]; exact Nat.le_refl _)
theorem Sep.setBox {w0 w : World} {cs : List Cp} {i b : Nat} {xs : Array Value} {t : TypeId} (h : Sep w0 w cs) (hi : cs[i]? = some (BCp b xs t)) (ys : Array Value) : Sep w0 (w.setRow b ys) (cs.set i (BCp b ys t)) :=
  h.step hi (FS.row rfl) (BCp.ok _ _ _) (setRow_heap _ _ _ _ _ _ (h.is i _ hi)) (fun _ hg => .inl hg)
theorem FS.below {w w' : World} {O : Nat → Prop} (h : Below w.heap.size w w') : FS O w w' := ⟨h.os, h.tape, h.output, h.size, fun y hy _ => h.block y hy⟩
theorem FS.set {w : World} {b off : Nat} {u : Value} {O : Nat → Prop} (h : O b) : FS O w (w.setCell ⟨b, off, none⟩ u) :=
  ⟨rfl, rfl, rfl, by simp [World.setCell], fun y _ hn => Below.heap_setCell _ _ _ y (fun e => hn (e ▸ h))⟩
end Go.Proofs.Ytmojckejjjlkjab
