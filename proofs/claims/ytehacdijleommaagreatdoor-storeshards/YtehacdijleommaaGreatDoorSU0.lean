/-
  My own text: SEP, SU0 in one.
-/
import Derived.Test.YtehacdijleommaaGreatDoorG0
import Derived.Maps.AppendAt
import Derived.Laws.Tables
import Derived.Test.YtehacdijleommaaGreatDoorSN13
import Derived.Test.YtehacdijleommaaGreatDoorSK6
import Derived.Test.YtehacdijleommaaGreatDoorRK1
import Derived.Test.YtehacdijleommaaGreatDoorGKS
namespace Go.Proofs.YtehacdijleommaaGreatDoor
open Go.RowKit Go.Extern

/-- Something in memory: its blocks, and what is known of it. -/
structure Cp where
  O : Nat → Prop
  P : World → Prop
structure Cp.Ok (c : Cp) : Prop where
  keep : ∀ w w', c.P w → w.heap.size ≤ w'.heap.size → (∀ g, c.O g → w'.heap[g]? = w.heap[g]?) → c.P w'
  lt : ∀ w, c.P w → ∀ g, c.O g → g < w.heap.size
/-- Blocks of O alone have changed. -/
structure FS (O : Nat → Prop) (w w' : World) : Prop where
  os : w'.os = w.os
  tape : w'.tape = w.tape
  output : w'.output = w.output
  size : w.heap.size ≤ w'.heap.size
  block : ∀ y, y < w.heap.size → ¬ O y → w'.heap[y]? = w.heap[y]?
theorem FS.of_gb {w w' : World} {v : Value} {O : Nat → Prop} (h : w.grownBy w' v.ownBlock) (h2 : ∀ g, v.ownBlock = some g → O g) : FS O w w' := by
  obtain ⟨e1, e2, e3, e4, e5⟩ := h
  exact ⟨e1, e2, e3, e4, fun g hg hn => e5 g hg (fun e => hn (h2 g (by first | exact e | exact e.symm)))⟩
theorem FS.row {w : World} {b : Nat} {cs : Array Value} {O : Nat → Prop} (h : O b) : FS O w (w.setRow b cs) :=
  ⟨rfl, rfl, rfl, by simp [World.setRow], fun y _ hn => setRow_other w b y cs (fun e => hn (e ▸ h))⟩
/-- All of them, apart from one another and from what was there. -/
structure Sep (w0 w : World) (cs : List Cp) : Prop where
  bl : Below w0.heap.size w0 w
  ok : ∀ (i : Nat) (c : Cp), cs[i]? = some c → c.Ok
  is : ∀ (i : Nat) (c : Cp), cs[i]? = some c → c.P w
  lo : ∀ (i : Nat) (c : Cp), cs[i]? = some c → ∀ g, c.O g → w0.heap.size ≤ g
  dj : ∀ (i j : Nat) (c d : Cp), cs[i]? = some c → cs[j]? = some d → i ≠ j → ∀ g, c.O g → d.O g → False
theorem Sep.later {w0 w w' : World} {cs : List Cp} (h : Sep w0 w cs) (hb : Below w.heap.size w w') : Sep w0 w' cs :=
  ⟨h.bl.trans (hb.mono h.bl.size), h.ok, fun i c hi => (h.ok i c hi).keep w w' (h.is i c hi) hb.size (fun g hg => hb.block g ((h.ok i c hi).lt w (h.is i c hi) g hg)), h.lo, h.dj⟩
theorem Sep.nil {w0 w : World} (hb : Below w0.heap.size w0 w) : Sep w0 w [] := ⟨hb, fun i c h => by simp at h, fun i c h => by simp at h, fun i c h => by simp at h, fun i j c d h => by simp at h⟩
theorem Sep.front {w0 w : World} {cs ds : List Cp} (h : Sep w0 w (cs ++ ds)) : Sep w0 w cs := by
  have e : ∀ (i : Nat) (c : Cp), cs[i]? = some c → (cs ++ ds)[i]? = some c := fun i c hi => by rw [List.getElem?_append_left (List.getElem?_eq_some_iff.1 hi).1]; exact hi
  exact ⟨h.bl, fun i c hi => h.ok i c (e i c hi), fun i c hi => h.is i c (e i c hi), fun i c hi => h.lo i c (e i c hi), fun i j c d hi hj => h.dj i j c d (e i c hi) (e j d hj)⟩
theorem set_cases {cs : List Cp} {i j : Nat} {c c' d : Cp} (hi : cs[i]? = some c) (h : (cs.set i c')[j]? = some d) : (j = i ∧ d = c') ∨ (j ≠ i ∧ cs[j]? = some d) := by
  have hl := (List.getElem?_eq_some_iff.1 hi).1
  by_cases e : j = i
  · subst e
    rw [List.getElem?_set_self hl] at h
    exact .inl ⟨rfl, (Option.some.inj h).symm⟩
  · rw [List.getElem?_set_ne (fun q => e q.symm)] at h
    exact .inr ⟨e, h⟩
/-- One has changed; others that it has taken in go. -/
theorem Sep.merges {w0 w w' : World} {cs ds : List Cp} {i : Nat} {c c' : Cp} (h : Sep w0 w (cs ++ ds)) (hi : cs[i]? = some c) (hf : FS c.O w w') (hok : c'.Ok) (hp : c'.P w') (hn : ∀ g, c'.O g → c.O g ∨ (∃ d ∈ ds, d.O g) ∨ w.heap.size ≤ g) : Sep w0 w' (cs.set i c') := by
  have e : ∀ (i : Nat) (c : Cp), cs[i]? = some c → (cs ++ ds)[i]? = some c := fun i c hi => by rw [List.getElem?_append_left (List.getElem?_eq_some_iff.1 hi).1]; exact hi
  have ed : ∀ d ∈ ds, ∃ m, (cs ++ ds)[cs.length + m]? = some d := fun d hd => by
    obtain ⟨m, hm⟩ := List.getElem?_of_mem hd
    exact ⟨m, by rw [List.getElem?_append_right (by omega), Nat.add_sub_cancel_left]; exact hm⟩
  have hic := e i c hi
  have hb : Below w0.heap.size w0 w' := ⟨hf.os.trans h.bl.os, hf.tape.trans h.bl.tape, hf.output.trans h.bl.output, Nat.le_trans h.bl.size hf.size, fun y hy => (hf.block y (Nat.lt_of_lt_of_le hy h.bl.size) (fun q => by have := h.lo i c hic y q; omega)).trans (h.bl.block y hy)⟩
  refine ⟨hb, fun j x hj => ?_, fun j x hj => ?_, fun j x hj g hg => ?_, fun j k x y hj hk hjk g hx hy => ?_⟩
  · rcases set_cases hi hj with ⟨_, rfl⟩ | ⟨_, hj⟩
    · exact hok
    · exact h.ok j x (e j x hj)
  · rcases set_cases hi hj with ⟨_, rfl⟩ | ⟨hne, hj⟩
    · exact hp
    · have hx := e j x hj
      exact (h.ok j x hx).keep w w' (h.is j x hx) hf.size (fun g hg => hf.block g ((h.ok j x hx).lt w (h.is j x hx) g hg) (fun q => h.dj i j c x hic hx (fun q => hne q.symm) g q hg))
  · rcases set_cases hi hj with ⟨_, rfl⟩ | ⟨_, hj⟩
    · rcases hn g hg with q | ⟨d, hd, q⟩ | q
      · exact h.lo i c hic g q
      · obtain ⟨m, hm⟩ := ed d hd
        exact h.lo _ d hm g q
      · exact Nat.le_trans h.bl.size q
    · exact h.lo j x (e j x hj) g hg
  · have key : ∀ (j : Nat) (x : Cp), j ≠ i → cs[j]? = some x → ∀ g, c'.O g → x.O g → False := fun j x hne hj g h1 h2 => by
      have hx := e j x hj
      have hlt := (h.ok j x hx).lt w (h.is j x hx) g h2
      rcases hn g h1 with q | ⟨d, hd, q⟩ | q
      · exact h.dj i j c x hic hx (fun q => hne q.symm) g q h2
      · obtain ⟨m, hm⟩ := ed d hd
        exact h.dj _ j d x hm hx (fun q => by have := (List.getElem?_eq_some_iff.1 hj).1; omega) g q h2
      · omega
    rcases set_cases hi hj with ⟨e1, q1⟩ | ⟨n1, hj'⟩
    · rcases set_cases hi hk with ⟨e2, q2⟩ | ⟨n2, hk'⟩
      · omega
      · exact key k y n2 hk' g (q1 ▸ hx) hy
    · rcases set_cases hi hk with ⟨e2, q2⟩ | ⟨n2, hk'⟩
      · exact key j x n1 hj' g (q2 ▸ hy) hx
      · exact h.dj j k x y (e j x hj') (e k y hk') hjk g hx hy
theorem Sep.merge {w0 w w' : World} {cs : List Cp} {i : Nat} {c c' d : Cp} (h : Sep w0 w (cs ++ [d])) (hi : cs[i]? = some c) (hf : FS c.O w w') (hok : c'.Ok) (hp : c'.P w') (hn : ∀ g, c'.O g → c.O g ∨ d.O g ∨ w.heap.size ≤ g) : Sep w0 w' (cs.set i c') :=
  h.merges hi hf hok hp (fun g hg => (hn g hg).elim .inl (fun q => .inr (q.elim (fun q => .inl ⟨d, by simp, q⟩) .inr)))
def noCp : Cp := ⟨fun _ => False, fun _ => True⟩
theorem noCp_ok : noCp.Ok := ⟨fun _ _ _ _ _ => trivial, fun _ _ _ h => h.elim⟩
/-- Something is added. -/
theorem Sep.add {w0 w : World} {cs : List Cp} {c : Cp} (h : Sep w0 w cs) (hok : c.Ok) (hp : c.P w) (hlo : ∀ g, c.O g → w0.heap.size ≤ g) (hn : ∀ (i : Nat) (d : Cp), cs[i]? = some d → ∀ g, c.O g → d.O g → False) : Sep w0 w (cs ++ [c]) := by
  have e : ∀ (i : Nat) (x : Cp), (cs ++ [c])[i]? = some x → cs[i]? = some x ∨ (i = cs.length ∧ x = c) := fun i x hi => by
    by_cases hl : i < cs.length
    · rw [List.getElem?_append_left hl] at hi; exact .inl hi
    · have := (List.getElem?_eq_some_iff.1 hi).1
      have e : i = cs.length := by simp at this; omega
      subst e
      simp at hi
      exact .inr ⟨rfl, hi.symm⟩
  refine ⟨h.bl, fun j x hj => ?_, fun j x hj => ?_, fun j x hj => ?_, fun j k x y hj hk hjk g hx hy => ?_⟩
  · rcases e j x hj with hj | ⟨_, rfl⟩
    · exact h.ok j x hj
    · exact hok
  · rcases e j x hj with hj | ⟨_, rfl⟩
    · exact h.is j x hj
    · exact hp
  · rcases e j x hj with hj | ⟨_, rfl⟩
    · exact h.lo j x hj
    · exact hlo
  · rcases e j x hj with hj' | ⟨e1, q1⟩
    · rcases e k y hk with hk' | ⟨e2, q2⟩
      · exact h.dj j k x y hj' hk' hjk g hx hy
      · exact hn j x hj' g (q2 ▸ hy) hx
    · rcases e k y hk with hk' | ⟨e2, q2⟩
      · exact hn k y hk' g (q1 ▸ hx) hy
      · omega
/-- Something new is added behind a call. -/
theorem Sep.new {w0 w w' : World} {cs : List Cp} {c : Cp} (h : Sep w0 w cs) (hb : Below w.heap.size w w') (hok : c.Ok) (hp : c.P w') (hn : ∀ g, c.O g → w.heap.size ≤ g) : Sep w0 w' (cs ++ [c]) :=
  (h.later hb).add hok hp (fun g hg => Nat.le_trans h.bl.size (hn g hg)) (fun i d hi g h1 h2 => by have := (h.ok i d hi).lt w (h.is i d hi) g h2; have := hn g h1; omega)
theorem Sep.step {w0 w w' : World} {cs : List Cp} {i : Nat} {c c' : Cp} (h : Sep w0 w cs) (hi : cs[i]? = some c) (hf : FS c.O w w') (hok : c'.Ok) (hp : c'.P w') (hn : ∀ g, c'.O g → c.O g ∨ w.heap.size ≤ g) : Sep w0 w' (cs.set i c') :=
  (h.add noCp_ok trivial (fun _ h => h.elim) (fun _ _ _ _ h _ => h.elim)).merge hi hf hok hp (fun g hg => (hn g hg).elim .inl (fun q => .inr (.inr q)))
/-- A box. -/
def BCp (b : Nat) (cs : Array Value) (t : TypeId) : Cp := ⟨fun g => g = b, fun w => w.heap[b]? = some (.cells cs t (0, 0))⟩
theorem BCp.ok (b : Nat) (cs : Array Value) (t : TypeId) : (BCp b cs t).Ok := ⟨fun w w' h _ hk => (hk b rfl).trans h, fun w h g hg => by rw [hg]; exact (Array.getElem?_eq_some_iff.1 h).1⟩
theorem Sep.box {w0 w : World} {cs : List Cp} (h : Sep w0 w cs) (xs : Array Value) (t : TypeId) : Sep w0 (w.alloc (.cells xs t)) (cs ++ [BCp w.heap.size xs t]) :=
  h.new ((Below.refl _ _).alloc (Nat.le_refl _) _) (BCp.ok _ _ _) (alloc_new w _) (fun g hg => by rw [hg]; exact Nat.le_refl _)
theorem Sep.setBox {w0 w : World} {cs : List Cp} {i b : Nat} {xs : Array Value} {t : TypeId} (h : Sep w0 w cs) (hi : cs[i]? = some (BCp b xs t)) (ys : Array Value) : Sep w0 (w.setRow b ys) (cs.set i (BCp b ys t)) :=
  h.step hi (FS.row rfl) (BCp.ok _ _ _) (setRow_heap _ _ _ _ _ _ (h.is i _ hi)) (fun _ hg => .inl hg)
theorem FS.below {w w' : World} {O : Nat → Prop} (h : Below w.heap.size w w') : FS O w w' := ⟨h.os, h.tape, h.output, h.size, fun y hy _ => h.block y hy⟩
theorem FS.set {w : World} {b off : Nat} {u : Value} {O : Nat → Prop} (h : O b) : FS O w (w.setCell ⟨b, off, none⟩ u) :=
  ⟨rfl, rfl, rfl, by simp [World.setCell], fun y _ hn => Below.heap_setCell _ _ _ y (fun e => hn (e ▸ h))⟩
end Go.Proofs.YtehacdijleommaaGreatDoor
namespace Go.Proofs.YtehacdijleommaaGreatDoor
open Go.RowKit

theorem OR.owns {w : World} {B : Nat} {e : TypeId} {k : Nat} {v : Value} {n : Nat} {xs : List Value} (h : OR w B e k v n xs) (hz : Z0 v) : w.ownsRow B e k v n xs := by
  refine ⟨h.1, ?_⟩
  rcases h.2 with h0 | ⟨g, off, cap, cur, hv, hb, hh, h1, h2, h3, h4⟩
  · exact .inl h0
  · have e0 : off = 0 := hz _ _ _ _ _ hv
    subst e0
    refine .inr ⟨g, cap, cur, hv, hb, hh, h1, h2, by omega, ?_⟩
    apply List.ext_getElem?
    intro j
    by_cases hj : j < xs.length
    · have hc := h4 j _ (List.getElem?_eq_getElem hj)
      rw [cell_of_row _ _ _ _ _ _ hh, Nat.zero_add] at hc
      rw [List.getElem?_take_of_lt (by rw [← h.1]; exact hj), Array.getElem?_toList, hc, List.getElem?_eq_getElem hj]
    · rw [List.getElem?_eq_none (by have := h.1; rw [List.length_take]; omega), List.getElem?_eq_none (by omega)]
theorem kc_mc : ∀ L : List Ky, kc L = KY.mc L
  | [] => rfl
  | p :: r => by show _ :: _ :: kc r = _ :: _ :: KY.mc r; rw [kc_mc r]
theorem OR.om {w : World} {B : Nat} {v : Value} {L : List Ky} (h : OR w B 29 2 v L.length (kc L)) (hz : Z0 v) : KY.OM w B v L := by
  have h1 := h.owns hz
  rw [kc_mc] at h1
  exact h1
theorem srtK_R {L : List Ky} (h : SrtK L) : SrR L := by
  unfold SrtK at h
  unfold SrR
  refine List.Pairwise.imp (fun {a b} hab => ?_) h
  rw [ltK] at hab
  unfold ltR
  simp at hab
  omega
/-- A rising row of keys. -/
def insL (x : Ky) : List Ky → List Ky
  | [] => [x]
  | y :: t => if ltR x y then x :: y :: t else y :: insL x t
theorem insL_perm (x : Ky) : ∀ L, (insL x L).Perm (x :: L)
  | [] => List.Perm.refl _
  | y :: t => by
    unfold insL
    split
    · exact List.Perm.refl _
    · exact ((insL_perm x t).cons y).trans (List.Perm.swap x y t)
theorem insL_srt (x : Ky) : ∀ {L}, SrR L → SrR (insL x L)
  | [], _ => List.pairwise_cons.2 ⟨fun b hb => (by cases hb), List.Pairwise.nil⟩
  | y :: t, h => by
    obtain ⟨h1, h2⟩ := List.pairwise_cons.1 h
    unfold insL
    split
    · next hl =>
      refine List.pairwise_cons.2 ⟨fun b hb hbx => ?_, h⟩
      rcases List.mem_cons.1 hb with rfl | hb
      · exact ltR_asym hl hbx
      · exact h1 b hb (ltR_trans hbx hl)
    · next hl =>
      refine List.pairwise_cons.2 ⟨fun b hb => ?_, insL_srt x h2⟩
      rcases List.mem_cons.1 ((insL_perm x t).subset hb) with rfl | hb
      · exact hl
      · exact h1 b hb
def srtL : List Ky → List Ky
  | [] => []
  | x :: t => insL x (srtL t)
theorem srtL_perm : ∀ L, (srtL L).Perm L
  | [] => List.Perm.refl _
  | x :: t => (insL_perm x (srtL t)).trans ((srtL_perm t).cons x)
theorem srtL_srt : ∀ L, SrR (srtL L)
  | [] => List.Pairwise.nil
  | x :: t => insL_srt x (srtL_srt t)
theorem srR_K {L : List Ky} (h : SrR L) : SrtK L := by
  unfold SrR at h
  unfold SrtK
  refine List.Pairwise.imp (fun {a b} hab => ?_) h
  rw [ltK]
  unfold ltR at hab
  simp
  omega
theorem KL.uniq {X : Sx} {L M : List Ky} (a : KL X L) (b : KL X M) : L = M :=
  srt_same (srtK_R a.srt) (srtK_R b.srt) ((List.perm_ext_iff_of_nodup a.nd b.nd).2 (fun k => by rw [a.mem, b.mem]))
/-- No more versions than m. -/
def TotB (X : Sx) (m : Nat) : Prop := ∀ L : List Ky, L.Nodup → lenS X L ≤ m
theorem TotB.new : TotB newX 0 := fun L hL => by
  clear hL
  unfold lenS
  induction L with
  | nil => exact Nat.le_refl _
  | cons a t ih => rw [List.map_cons, List.sum_cons]; show 0 + _ ≤ 0; omega
theorem TotB.up {X : Sx} {m : Nat} (h : TotB X m) : TotB X (m + 1) := fun L hL => Nat.le_succ_of_le (h L hL)
theorem lenS_same {X Y : Sx} {k : Ky} (hk : ∀ j, j ≠ k → Y.K j = X.K j) : ∀ L : List Ky, k ∉ L → lenS Y L = lenS X L
  | [], _ => rfl
  | a :: t, h => by
    have h1 : a ≠ k := fun e => h (by rw [e]; exact List.mem_cons_self ..)
    have ih := lenS_same hk t (fun e => h (List.mem_cons_of_mem _ e))
    unfold lenS at ih ⊢
    rw [List.map_cons, List.map_cons, List.sum_cons, List.sum_cons, ih, hk a h1]
theorem lenS_one {X Y : Sx} {k : Ky} (hk : ∀ j, j ≠ k → Y.K j = X.K j) (h1 : (Y.K k).length ≤ (X.K k).length + 1) : ∀ L : List Ky, L.Nodup → lenS Y L ≤ lenS X L + 1
  | [], _ => by unfold lenS; simp
  | a :: t, hn => by
    obtain ⟨n1, n2⟩ := List.nodup_cons.1 hn
    by_cases e : a = k
    · subst e
      have ih := lenS_same hk t n1
      unfold lenS at ih ⊢
      rw [List.map_cons, List.map_cons, List.sum_cons, List.sum_cons, ih]; omega
    · have ih := lenS_one hk h1 t n2
      unfold lenS at ih ⊢
      rw [List.map_cons, List.map_cons, List.sum_cons, List.sum_cons, hk a e]; omega
theorem TotB.step {X Y : Sx} {m : Nat} (h : TotB X m) {k : Ky} (hk : ∀ j, j ≠ k → Y.K j = X.K j) (h1 : (Y.K k).length ≤ (X.K k).length + 1) : TotB Y (m + 1) := fun L hL => by
  have := lenS_one hk h1 L hL
  have := h L hL
  omega
theorem TotB.ask {X : Sx} {m : Nat} (h : TotB X m) (d : Cl) : TotB (X.ask d) (m + 1) := by
  unfold Sx.ask
  by_cases e0 : d.kind = 0
  · rw [if_pos e0]
    refine h.step (k := d.k) (fun j hj => upK_other hj) ?_
    show (upK X.K d.k (ptL d.N d.V (X.K d.k)) d.k).length ≤ _
    rw [upK_same]
    unfold ptL
    split
    · rw [List.length_append]; exact Nat.le_refl _
    · omega
  rw [if_neg e0]
  by_cases e4 : d.kind = 4
  · rw [if_pos e4]; exact h.up
  rw [if_neg e4]
  by_cases e5 : d.kind = 5
  · rw [if_pos e5]
    refine h.step (k := d.k) (fun j _ => by rw [cls_K]) (by rw [cls_K]; omega)
  rw [if_neg e5]
  by_cases e7 : d.kind = 7
  · rw [if_pos e7]
    refine h.step (k := d.k) (fun j hj => upK_other hj) ?_
    show (upK X.K d.k ((X.K d.k).drop _) d.k).length ≤ _
    rw [upK_same, List.length_drop]
    omega
  rw [if_neg e7]
  exact h.up
set_option maxRecDepth 100000 in
set_option maxHeartbeats 1000000 in
theorem ask_verE (on : Int) (k : Ky) (N : Int) (V : List UInt8) (B sb n kk : Nat) (X : Sx) (F : Nat → Prop) (L : List Ky) (w : World) (h : SO B w sb n X kk F) (hL : KL X L) (hT : lenS X L ≤ 4611686018427387904) :
    Calls Tryz.prog 10 #[.pointer (some ⟨sb, 0, none⟩), .agg #[.int .i64 on, .int .i64 8, .int .i64 k.1, .int .i64 k.2, .int .i64 N, .string ⟨V.toArray⟩]] w fun e w' => e = .returned (.agg #[.string ⟨#[]⟩, .int .i64 (lenS X L : Int), .bool false]) ∧ SO B w' sb n (X) (kk + 1) (gw F w w') ∧ FB w w' F (gw F w w') := by
  have hB := h.size
  obtain ⟨W1, hW1⟩ : ∃ W1, w.alloc (.cells #[.int .i64 on, .int .i64 8, .int .i64 k.1, .int .i64 k.2, .int .i64 N, .string ⟨V.toArray⟩] 31) = W1 := ⟨_, rfl⟩
  have hb1 : Below w.heap.size w W1 := by rw [← hW1]; exact (Below.refl _ _).alloc (Nat.le_refl _) _
  have hk1 : W1.heap[w.heap.size]? = some (.cells #[.int .i64 on, .int .i64 8, .int .i64 k.1, .int .i64 k.2, .int .i64 N, .string ⟨V.toArray⟩] 31 (0, 0)) := by rw [← hW1]; exact alloc_newV w _
  have z1 : w.heap.size < W1.heap.size := (Array.getElem?_eq_some_iff.1 hk1).1
  have hb2 : Below W1.heap.size W1 (W1.alloc (.cells #[.string ⟨#[]⟩, .int .i64 0, .bool false] 36)) := (Below.refl _ _).alloc (Nat.le_refl _) _
  have hr2 := alloc_newV W1 (.cells #[.string ⟨#[]⟩, .int .i64 0, .bool false] 36)
  have hk2 := (hb2.block _ z1).trans hk1
  have d1 : (W1.alloc (.cells #[.string ⟨#[]⟩, .int .i64 0, .bool false] 36)).cell? ⟨w.heap.size, 1, none⟩ = some (.int .i64 8) := by rw [cell_of_row _ _ 1 _ _ _ hk2]; rfl
  have HB2 := hide (hb1.trans (hb2.mono (Nat.le_of_lt z1)))
  have HR2 := hide hr2
  have HF := hide (fun x hx => (h.fb x hx).2)
  have HP := hide (verE_any B sb n kk X F L _ (h.later HB2.out) hL hT)
  have HS := hide (h.later HB2.out)
  have HZ1 := hide (Nat.le_of_lt z1)
  have HZ2 := hide (Array.getElem?_eq_some_iff.1 hr2).1
  clear h hk1 hb1 hb2 hr2 hk2 z1 hL hT
  go_enter Tryz.func10, Tryz.ntmps10
  go_wp2_with fail
  generalize W1.alloc (.cells #[.string ⟨#[]⟩, .int .i64 0, .bool false] 36) = W2 at *
  generalize W1.heap.size = bx at *
  refine HP.out.mono ?_
  rintro e w5 ⟨rfl, hb3⟩
  obtain ⟨hS3, hF3⟩ := HS.out.idle hb3
  have S3 := hide (And.intro hS3 hF3)
  have R5 := hide ((hF3.box HF.out HZ1.out HZ2.out).trans HR2.out)
  have HB5 := hide (Below.refl w5.heap.size w5)
  clear hS3 hF3 HP d1 hb3 HS
  have g0 : w5.cell? ⟨bx, 0, none⟩ = some (.string ⟨#[]⟩) := by rw [cell_of_row _ _ 0 _ _ _ R5.out]; rfl
  have g1 : w5.cell? ⟨bx, 1, none⟩ = some (.int .i64 0) := by rw [cell_of_row _ _ 1 _ _ _ R5.out]; rfl
  have g2 : w5.cell? ⟨bx, 2, none⟩ = some (.bool false) := by rw [cell_of_row _ _ 2 _ _ _ R5.out]; rfl
  have gf : ∀ j, w5.frozen? ⟨bx, j, none⟩ = false := fun j => by unfold World.frozen?; simp [R5.out]
  have gf0 := gf 0
  have gf1 := gf 1
  have gf2 := gf 2
  clear gf
  go_wp2_with fail
  exact bodyPost_ret (results_cell_row rfl _ _ bx 36 _ (0, 0) _ rfl (set3_blk R5.out _ _ _) Tryz.underlying36 rfl Tryz.sizeSaid) rfl ⟨rfl, SO.done3 S3.out HB2.out HB5.out HZ1.out HZ2.out HF.out hB _ _ _⟩
theorem ask8 {X : Sx} {d : Cl} (h : d.kind = 8) : X.ask d = X := by
  unfold Sx.ask
  rw [if_neg (by omega), if_neg (by omega), if_neg (by omega), if_neg (by omega)]
theorem kl_so {B : Nat} {w : World} {sb n : Nat} {X : Sx} {kk : Nat} {F : Nat → Prop} (h : SO B w sb n X kk F) : ∃ L, KL X L ∧ L.length ≤ kk := by
  obtain ⟨m, g, rb, v, h⟩ := h
  have hp := srtL_perm (allK m n)
  refine ⟨srtL (allK m n), ⟨srR_K (srtL_srt _), hp.nodup_iff.2 (nd_allK h n (Nat.le_refl _)), fun k => by rw [hp.mem_iff, mem_allK h]⟩, ?_⟩
  rw [hp.length_eq, allK_len]; exact h.tot
/-- What a call of kind 0 to 8 (but 3) answers. -/
def ansB (X : Sx) (L : List Ky) (d : Cl) : List UInt8 × Int × Bool := if d.kind = 8 then ([], (lenS X L : Int), false) else X.ans 0 d
def Kd (d : Cl) : Prop := d.kind = 0 ∨ d.kind = 1 ∨ d.kind = 2 ∨ d.kind = 4 ∨ d.kind = 5 ∨ d.kind = 6 ∨ d.kind = 7 ∨ d.kind = 8
theorem ans_n {X : Sx} {d : Cl} (hd : Kd d) (h8 : d.kind ≠ 8) (n : Nat) : X.ans n d = X.ans 0 d := by
  unfold Sx.ans
  rcases hd with h | h | h | h | h | h | h | h <;> simp [h] at h8 ⊢
theorem askU_any (d : Cl) (hd : Kd d) (B sb n kk : Nat) (X : Sx) (F : Nat → Prop) (L : List Ky) (w : World) (HE : Hid (∀ w', Below B w w' → ErrType w')) (h : SO B w sb n X kk F) (hk : KOK d.k) (hI : IOK d.N) (hN : d.N ≤ 9223372036854775807) (hl : kk ≤ 5864062014803) (hL : KL X L) (hT : lenS X L ≤ 4611686018427387904) :
    Calls Tryz.prog 10 #[.pointer (some ⟨sb, 0, none⟩), .agg (clc d)] w fun e w' => e = .returned (ansV (ansB X L d)) ∧ SO B w' sb n (X.ask d) (kk + 1) (gw F w w') ∧ FB w w' F (gw F w w') := by
  by_cases h8 : d.kind = 8
  · rw [ask8 h8]
    unfold ansB
    rw [if_pos h8]
    obtain ⟨on, kind, k, N, V⟩ := d
    dsimp only at h8
    subst h8
    exact ask_verE on k N V B sb n kk X F L w h hL hT
  · unfold ansB
    rw [if_neg h8, ← ans_n hd h8 n]
    exact ask_ans d B sb n kk X F w HE h hk hI hN hl h8
end Go.Proofs.YtehacdijleommaaGreatDoor
