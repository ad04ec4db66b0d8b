/-
  My own text: layer 19: a queue that is in order, and its calls.
-/
import Derived.Test.YtknnojjfdfkdmaaGreatDoorU12
namespace Go.Proofs.YtknnojjfdfkdmaaGreatDoor
open Go.RowKit Go.Extern Go.MapKept Go.ChangeMaps

theorem ep_inj {x y : Nat} (h : ep x = ep y) : x = y := by unfold ep at h; injection h with h; injection h with h; injection h
/-- A queue in order. -/
structure Ok (Z : Qx) : Prop where
  o : Ok0 Z
  an : (Z.A.length : Int) ≤ Z.n
  nb : Z.n ≤ 8796093022000
  cb : ∀ x ∈ Z.A, (Z.T x).came < Z.n
  nm : ∀ i v, Z.N i = some v ↔ ∃ x ∈ Z.A, v = ep x ∧ (Z.T x).id = i
  st : ∀ x ∈ Z.A, (Z.T x).st = 0 ∨ (Z.T x).st = 1 ∨ (Z.T x).st = 2
  ks : ∀ x ∈ Z.A, Inc (Z.T x).keys ∧ (∀ k ∈ (Z.T x).keys, KOK k) ∧ (Z.T x).keys.length ≤ 8796093022000
theorem Ok.n0 {Z : Qx} (h : Ok Z) : 0 ≤ Z.n := by have := h.an; omega
/-- Only the states have changed. -/
theorem Ok.turn {Z Z' : Qx} (h : Ok Z) (hA : Z'.A = Z.A) (hX : Z'.X = Z.X) (hn : Z'.n = Z.n) (hN : Z'.N = Z.N) (hC : Z'.C = Z.C) (hT : ∀ y, (Z'.T y).came = (Z.T y).came ∧ (Z'.T y).keys = (Z.T y).keys ∧ (Z'.T y).id = (Z.T y).id) (hs : Sr (fun y => (Z.T y).came) Z'.Rd) (hr : ∀ y, y ∈ Z'.Rd ↔ y ∈ Z.A ∧ (Z'.T y).st = 1) (hst : ∀ y ∈ Z.A, (Z'.T y).st = 0 ∨ (Z'.T y).st = 1 ∨ (Z'.T y).st = 2) : Ok Z' := by
  have hc : (fun y => (Z'.T y).came) = fun y => (Z.T y).came := by funext y; exact (hT y).1
  refine ⟨⟨by rw [hc, hA]; exact h.o.sa, by rw [hA, hX]; exact h.o.sx, by rw [hA]; exact h.o.la, by rw [hc]; exact hs, by rw [hA]; exact hr, by rw [hc, hC]; exact h.o.sc, fun k y => by rw [hC, hA, (hT y).2.1]; exact h.o.cm k y⟩, by rw [hA, hn]; exact h.an, by rw [hn]; exact h.nb, fun x hx => by rw [(hT x).1, hn]; exact h.cb x (by rw [← hA]; exact hx), fun i v => ?_, fun x hx => hst x (by rw [← hA]; exact hx), fun x hx => by rw [(hT x).2.1]; exact h.ks x (by rw [← hA]; exact hx)⟩
  rw [hN, h.nm i v, hA]
  constructor
  · rintro ⟨x, h1, h2, h3⟩; exact ⟨x, h1, h2, by rw [(hT x).2.2]; exact h3⟩
  · rintro ⟨x, h1, h2, h3⟩; exact ⟨x, h1, h2, by rw [← (hT x).2.2]; exact h3⟩
theorem sr_snoc {c : Nat → Int} {A : List Nat} {x : Nat} (hA : Sr c A) (hx : ∀ y ∈ A, c y < c x) : Sr c (A ++ [x]) := by
  refine List.pairwise_append.2 ⟨hA, List.pairwise_singleton _ _, fun y hy z hz => ?_⟩
  rw [List.mem_singleton.1 hz]; exact hx y hy
theorem hasC_big {c : Nat → Int} {A : List Nat} {x : Nat} (hx : ∀ y ∈ A, c y < c x) : hasC c (c x) A = false := by
  cases hb : hasC c (c x) A with
  | false => rfl
  | true =>
    obtain ⟨y, hy, e⟩ := hasC_iff.1 hb
    have := hx y hy; omega
theorem ins_last {c : Nat → Int} {A : List Nat} {x : Nat} (hA : Sr c A) (hx : ∀ y ∈ A, c y < c x) : insE c x A = A ++ [x] :=
  sr_uniq (sr_insE hA (hasC_big hx)) (sr_snoc hA hx) (fun y => by rw [mem_insE, List.mem_append, List.mem_singleton]; exact or_comm)
/-- Behind a Put. -/
theorem Ok.put {Z Z' : Qx} {x : Nat} {id : Int} {K : List Ky} {v : Value} (h : Ok Z) (hp : PutTo Z Z' x id K v) (hx : x ∉ Z.X) (h0 : Z.N id = none) (hn : Z.n < 8796093022000) (hK : Inc K ∧ (∀ k ∈ K, KOK k) ∧ K.length ≤ 8796093022000) : Ok Z' ∧ Z'.A = Z.A ++ [x] := by
  have hxA : x ∉ Z.A := fun hm => hx (h.o.sx x hm)
  have hT : ∀ y ∈ Z.A, Z'.T y = Z.T y := fun y hy => by rw [hp.T]; exact if_neg (fun e => hxA (by rw [← e]; exact hy))
  have hTx : Z'.T x = ⟨id, Z.n, K, v, 0, false⟩ := by rw [hp.T]; exact if_pos rfl
  have hcc : (fun y => (updT Z.T x ⟨id, Z.n, K, v, 0, false⟩ y).came) = fun y => (Z'.T y).came := by rw [hp.T]
  have hsub : ∀ {M : List Nat}, (∀ y ∈ M, y ∈ Z.A) → Sr (fun y => (Z.T y).came) M → Sr (fun y => (Z'.T y).came) M := fun hM hs => sr_congr hs (fun y hy => by rw [hT y (hM y hy)])
  have hlt : ∀ {M : List Nat}, (∀ y ∈ M, y ∈ Z.A) → ∀ y ∈ M, (Z'.T y).came < (Z'.T x).came := fun hM y hy => by rw [hT y (hM y hy), hTx]; exact h.cb y (hM y hy)
  have hCA : ∀ k, ∀ y ∈ Z.C k, y ∈ Z.A := fun k y hy => ((h.o.cm k y).1 hy).1
  have hA : Z'.A = Z.A ++ [x] := by
    rw [hp.A, hcc]
    exact ins_last (hsub (fun y hy => hy) h.o.sa) (hlt (fun y hy => hy))
  have hmA : ∀ y, y ∈ Z'.A ↔ y ∈ Z.A ∨ y = x := fun y => by rw [hA, List.mem_append, List.mem_singleton]
  refine ⟨⟨⟨?_, ?_, ?_, ?_, ?_, ?_, ?_⟩, ?_, ?_, ?_, ?_, ?_, ?_⟩, hA⟩
  · rw [hA]; exact sr_snoc (hsub (fun y hy => hy) h.o.sa) (hlt (fun y hy => hy))
  · intro y hy
    rw [hp.X]
    rcases (hmA y).1 hy with h1 | h1
    · exact List.mem_cons_of_mem _ (h.o.sx y h1)
    · rw [h1]; simp
  · rw [hA]; have := h.an; simp; omega
  · rw [hp.Rd]; exact hsub (fun y hy => ((h.o.rd y).1 hy).1) h.o.sr
  · intro y
    rw [hp.Rd, h.o.rd y, hmA y]
    constructor
    · rintro ⟨h1, h2⟩; exact ⟨.inl h1, by rw [hT y h1]; exact h2⟩
    · rintro ⟨h1 | h1, h2⟩
      · exact ⟨h1, by rw [hT y h1] at h2; exact h2⟩
      · rw [h1, hTx] at h2; cases h2
  · intro k
    rw [hp.C k]
    split
    · rw [hcc]; exact sr_insE (hsub (hCA k) (h.o.sc k)) (hasC_big (hlt (hCA k)))
    · exact hsub (hCA k) (h.o.sc k)
  · intro k y
    rw [hp.C k, hmA y]
    by_cases hk : k ∈ K
    · rw [if_pos hk, mem_insE, h.o.cm k y]
      constructor
      · rintro (h1 | ⟨h1, h2⟩)
        · exact ⟨.inr h1, by rw [h1, hTx]; exact hk⟩
        · exact ⟨.inl h1, by rw [hT y h1]; exact h2⟩
      · rintro ⟨h1 | h1, h2⟩
        · exact .inr ⟨h1, by rw [hT y h1] at h2; exact h2⟩
        · exact .inl h1
    · rw [if_neg hk, h.o.cm k y]
      constructor
      · rintro ⟨h1, h2⟩; exact ⟨.inl h1, by rw [hT y h1]; exact h2⟩
      · rintro ⟨h1 | h1, h2⟩
        · exact ⟨h1, by rw [hT y h1] at h2; exact h2⟩
        · rw [h1, hTx] at h2; exact absurd h2 hk
  · rw [hA, hp.n]; have := h.an; simp; omega
  · rw [hp.n]; omega
  · intro y hy
    rw [hp.n]
    rcases (hmA y).1 hy with h1 | h1
    · rw [hT y h1]; have := h.cb y h1; omega
    · rw [h1, hTx]; show Z.n < Z.n + 1; omega
  · intro i u
    rw [hp.N i]
    by_cases e : i = id
    · rw [if_pos e]
      constructor
      · intro h1
        exact ⟨x, (hmA x).2 (.inr rfl), (Option.some.inj h1).symm, by rw [hTx]; exact e.symm⟩
      · rintro ⟨y, h1, h2, h3⟩
        rcases (hmA y).1 h1 with h4 | h4
        · rw [hT y h4] at h3
          have := (h.nm id (ep y)).2 ⟨y, h4, rfl, by rw [h3, e]⟩
          rw [h0] at this; cases this
        · rw [h2, h4]
    · rw [if_neg e, h.nm i u]
      constructor
      · rintro ⟨y, h1, h2, h3⟩; exact ⟨y, (hmA y).2 (.inl h1), h2, by rw [hT y h1]; exact h3⟩
      · rintro ⟨y, h1, h2, h3⟩
        rcases (hmA y).1 h1 with h4 | h4
        · exact ⟨y, h4, h2, by rw [hT y h4] at h3; exact h3⟩
        · rw [h4, hTx] at h3; exact absurd h3.symm e
  · intro y hy
    rcases (hmA y).1 hy with h1 | h1
    · rw [hT y h1]; exact h.st y h1
    · rw [h1, hTx]; exact .inl rfl
  · intro y hy
    rcases (hmA y).1 hy with h1 | h1
    · rw [hT y h1]; exact h.ks y h1
    · rw [h1, hTx]; exact hK
theorem sr_outC {c : Nat → Int} {x : Nat} {L : List Nat} (h : Sr c L) : Sr c (outC c x L) := by
  unfold outC; split
  · exact sr_delE h
  · exact h
theorem mem_outC {c : Nat → Int} {x y : Nat} {A L : List Nat} (hA : Sr c A) (hL : Sr c L) (hs : ∀ z ∈ L, z ∈ A) (hx : x ∈ A) : y ∈ outC c x L ↔ y ∈ L ∧ y ≠ x := by
  unfold outC
  cases hb : hasC c (c x) L with
  | true =>
    rw [if_pos rfl]
    obtain ⟨z, hz, e⟩ := hasC_iff.1 hb
    obtain rfl : z = x := sr_inj hA (hs z hz) hx e
    exact mem_delE hL hz
  | false =>
    rw [if_neg (by decide)]
    constructor
    · intro hy
      refine ⟨hy, fun e => ?_⟩
      have := (hasC_iff (c := c) (n := c x) (L := L)).2 ⟨y, hy, by rw [e]⟩
      rw [hb] at this; cases this
    · exact fun hy => hy.1
/-- Behind a Remove. -/
theorem Ok.rem {Z Z' : Qx} {x : Nat} {id : Int} (h : Ok Z) (hp : RemTo Z Z' x id) (hx : x ∈ Z.A) (hid : (Z.T x).id = id) : Ok Z' ∧ Z'.A = Z.A.filter (fun y => decide (y ≠ x)) := by
  have hRA : ∀ y ∈ Z.Rd, y ∈ Z.A := fun y hy => ((h.o.rd y).1 hy).1
  have hCA : ∀ k, ∀ y ∈ Z.C k, y ∈ Z.A := fun k y hy => ((h.o.cm k y).1 hy).1
  have hmA : ∀ y, y ∈ Z'.A ↔ y ∈ Z.A ∧ y ≠ x := fun y => by rw [hp.A]; exact mem_outC h.o.sa h.o.sa (fun z hz => hz) hx
  have hA : Z'.A = Z.A.filter (fun y => decide (y ≠ x)) := by
    refine sr_uniq (c := fun y => (Z.T y).came) (by rw [hp.A]; exact sr_outC h.o.sa) (h.o.sa.sublist List.filter_sublist) (fun y => ?_)
    rw [hmA y, List.mem_filter]; simp
  have hle : Z'.A.length ≤ Z.A.length := by rw [hA]; exact List.length_filter_le _ _
  refine ⟨⟨⟨by rw [hp.T, hp.A]; exact sr_outC h.o.sa, fun y hy => by rw [hp.X]; exact h.o.sx y ((hmA y).1 hy).1, Nat.le_trans hle h.o.la, by rw [hp.T, hp.Rd]; exact sr_outC h.o.sr, fun y => ?_, fun k => ?_, fun k y => ?_⟩, by rw [hp.n]; have := h.an; omega, by rw [hp.n]; exact h.nb, fun y hy => by rw [hp.T, hp.n]; exact h.cb y ((hmA y).1 hy).1, fun i u => ?_, fun y hy => by rw [hp.T]; exact h.st y ((hmA y).1 hy).1, fun y hy => by rw [hp.T]; exact h.ks y ((hmA y).1 hy).1⟩, hA⟩
  · rw [hp.Rd, mem_outC h.o.sa h.o.sr hRA hx, hmA y, hp.T, h.o.rd y]
    constructor
    · rintro ⟨⟨h1, h2⟩, h3⟩; exact ⟨⟨h1, h3⟩, h2⟩
    · rintro ⟨⟨h1, h3⟩, h2⟩; exact ⟨⟨h1, h2⟩, h3⟩
  · rw [hp.T, hp.C k]
    split
    · exact sr_outC (h.o.sc k)
    · exact h.o.sc k
  · rw [hp.C k, hmA y, hp.T]
    by_cases hk : k ∈ (Z.T x).keys
    · rw [if_pos hk, mem_outC h.o.sa (h.o.sc k) (hCA k) hx, h.o.cm k y]
      constructor
      · rintro ⟨⟨h1, h2⟩, h3⟩; exact ⟨⟨h1, h3⟩, h2⟩
      · rintro ⟨⟨h1, h3⟩, h2⟩; exact ⟨⟨h1, h2⟩, h3⟩
    · rw [if_neg hk, h.o.cm k y]
      constructor
      · rintro ⟨h1, h2⟩; exact ⟨⟨h1, fun e => hk (by rw [← e]; exact h2)⟩, h2⟩
      · rintro ⟨⟨h1, h3⟩, h2⟩; exact ⟨h1, h2⟩
  · rw [hp.N i, hp.T]
    by_cases e : i = id
    · rw [if_pos e]
      constructor
      · intro h1; cases h1
      · rintro ⟨y, h1, h2, h3⟩
        obtain ⟨h4, h5⟩ := (hmA y).1 h1
        have a1 := (h.nm id (ep y)).2 ⟨y, h4, rfl, by rw [h3, e]⟩
        have a2 := (h.nm id (ep x)).2 ⟨x, hx, rfl, hid⟩
        rw [a1] at a2
        have e3 : ep y = ep x := Option.some.inj a2
        exact absurd (ep_inj e3) h5
    · rw [if_neg e, h.nm i u]
      constructor
      · rintro ⟨y, h1, h2, h3⟩; exact ⟨y, (hmA y).2 ⟨h1, fun e2 => e (by rw [← h3, e2, hid])⟩, h2, h3⟩
      · rintro ⟨y, h1, h2, h3⟩; exact ⟨y, ((hmA y).1 h1).1, h2, h3⟩
/-- A queue of its own blocks. -/
structure QS (O : Nat → Prop) (w : World) (q : Nat) (Z : Qx) : Prop where
  qm : QM (fun g => O g ∨ w.heap.size ≤ g) w q Z
  ok : Ok Z
  lt : ∀ g, O g → g < w.heap.size
theorem QM.own {F G : Nat → Prop} {w : World} {q : Nat} {Z : Qx} (h : QM F w q Z) (hG : ∀ g, F g → g < w.heap.size → G g) : QM G w q Z :=
  ⟨h.hd, h.by', h.wt, h.all, h.rdy, h.row, h.ent, h.ap1, h.ap2, h.ap3, h.ne, ⟨hG q h.oq.1 h.lt, hG _ h.oq.2.1 h.by'.lt, hG _ h.oq.2.2 h.wt.lt⟩, fun g hg => hG g (h.oa g hg) (h.all.lt hg), fun g hg => hG g (h.or' g hg) (h.rdy.lt hg), fun k g hg => hG g (h.ow k g hg) ((h.row k).lt hg), fun x hx => ⟨hG x (h.oe x hx).1 (h.ent x hx).lt, fun g hg => hG g ((h.oe x hx).2 g hg) ((h.ent x hx).klt hg)⟩⟩
theorem QS.kept {O : Nat → Prop} {w w' : World} {q : Nat} {Z : Qx} (h : QS O w q Z) (hO : ∀ g, O g → w'.heap[g]? = w.heap[g]?) (hs : w.heap.size ≤ w'.heap.size) : QS O w' q Z := by
  have h1 := h.qm.own (G := O) (fun _ hg hl => hg.elim id (fun e => by omega))
  exact ⟨(h1.kept (fun g hg _ => hO g hg)).own (fun g hg _ => .inl hg), h.ok, fun g hg => Nat.lt_of_lt_of_le (h.lt g hg) hs⟩
theorem QS.later {O : Nat → Prop} {w w' : World} {q : Nat} {Z : Qx} (h : QS O w q Z) (hb : Below w.heap.size w w') : QS O w' q Z := h.kept (fun g hg => hb.block g (h.lt g hg)) hb.size
/-- What a call of a queue leaves: the queue as Z', all else as it was. -/
def QTo (O : Nat → Prop) (w w' : World) (q : Nat) (Z' : Qx) : Prop := ∃ O', QS O' w' q Z' ∧ (∀ g, O' g → O g ∨ w.heap.size ≤ g) ∧ Fw O w w'
theorem QTo.mk {O : Nat → Prop} {w w' : World} {q : Nat} {Z' : Qx} (hm : QM (fun g => O g ∨ w.heap.size ≤ g) w' q Z') (ho : Ok Z') (hf : Fw (fun g => O g ∨ w.heap.size ≤ g) w w') : QTo O w w' q Z' :=
  ⟨fun g => (O g ∨ w.heap.size ≤ g) ∧ g < w'.heap.size, ⟨hm.own (fun g hg hl => .inl ⟨hg, hl⟩), ho, fun g hg => hg.2⟩, fun g hg => hg.1, ⟨hf.os, hf.tape, hf.output, hf.size, fun y hy hn => hf.block y hy (fun e => e.elim hn (fun e => by omega))⟩⟩
theorem QTo.same {O : Nat → Prop} {w w' : World} {q : Nat} {Z : Qx} (h : QS O w q Z) (hb : Below w.heap.size w w') : QTo O w w' q Z := ⟨O, h.later hb, fun _ hg => .inl hg, Fw.below hb⟩
abbrev Oo (O : Nat → Prop) (w : World) : Nat → Prop := fun g => O g ∨ w.heap.size ≤ g
theorem Ok.new (room : Int) (mb mw : Nat) : Ok (Qx.new room mb mw) := by
  refine ⟨⟨List.Pairwise.nil, fun y hy => (by cases hy), by show 0 ≤ _; omega, List.Pairwise.nil, fun y => ?_, fun k => List.Pairwise.nil, fun k y => ?_⟩, by show ((0 : Nat) : Int) ≤ 0; omega, by show (0 : Int) ≤ _; omega, fun x hx => (by cases hx), fun i v => ?_, fun x hx => (by cases hx), fun x hx => (by cases hx)⟩
  · show y ∈ [] ↔ y ∈ [] ∧ _; simp
  · show y ∈ [] ↔ y ∈ [] ∧ _; simp
  · show none = some v ↔ ∃ x ∈ [], _; simp
/-- A new queue. -/
theorem newQ_any (room : Int) (w : World) :
    Calls Tryz.prog 6 #[.int .i64 room] w fun r w' => ∃ q Z O, r = .returned (.pointer (some ⟨q, 0, none⟩)) ∧ QS O w' q Z ∧ (∀ g, O g → w.heap.size ≤ g) ∧ Below w.heap.size w w' ∧ Z.room = max room 0 ∧ Z.A = [] ∧ Z.n = 0 ∧ w.heap.size ≤ q := by
  refine (new_any room w).mono ?_
  rintro r w' ⟨rfl, h1, h2⟩
  exact ⟨_, _, fun g => w.heap.size ≤ g ∧ g < w'.heap.size, rfl, ⟨h1.own (fun g hg hl => .inl ⟨hg, hl⟩), Ok.new _ _ _, fun g hg => hg.2⟩, fun g hg => hg.1, h2, rfl, rfl, rfl, by omega⟩
theorem nodup_len : ∀ {K L : List Ky}, K.Nodup → (∀ x ∈ K, x ∈ L) → K.length ≤ L.length
  | [], _, _, _ => Nat.zero_le _
  | a :: K, L, hn, hs => by
    obtain ⟨h1, h2⟩ := List.nodup_cons.1 hn
    have ha := hs a (by simp)
    have := nodup_len (K := K) (L := L.erase a) h2 (fun x hx => (List.mem_erase_of_ne (fun e => h1 (by rw [← e]; exact hx))).2 (hs x (by simp [hx])))
    rw [List.length_erase_of_mem ha] at this
    have hp : 0 < L.length := List.length_pos_of_mem ha
    simp; omega
/-- Put, of any keys. -/
theorem putQ_any (O : Nat → Prop) (q : Nat) (id : Int) (v : Value) (L : List Ky) (Z : Qx) (w : World) (h : QS O w q Z) (hid : IOK id) (hv : KY.RM w v L) (hl : L.length ≤ 8796093022000) (hLK : ∀ k ∈ L, KOK k) (hn : Z.n < 8796093022000) :
    Calls Tryz.prog 8 #[.pointer (some ⟨q, 0, none⟩), .int .i64 id, v] w fun r w' =>
      ((∃ x ∈ Z.A, (Z.T x).id = id) ∧ r = .returned (er 11) ∧ QTo O w w' q Z) ∨
      ((∀ x ∈ Z.A, (Z.T x).id ≠ id) ∧ (Z.A.length : Int) = Z.room ∧ r = .returned (er 20) ∧ QTo O w w' q Z) ∨
      ((∀ x ∈ Z.A, (Z.T x).id ≠ id) ∧ (Z.A.length : Int) ≠ Z.room ∧ r = .returned .nilIface ∧ ∃ Z' x K kv', QTo O w w' q Z' ∧ Z'.room = Z.room ∧ Z'.n = Z.n + 1 ∧ Z'.A = Z.A ++ [x] ∧ (∀ y ∈ Z.A, Z'.T y = Z.T y) ∧ x ∉ Z.A ∧ Z'.T x = ⟨id, Z.n, K, kv', 0, false⟩ ∧ ∀ k, k ∈ K ↔ k ∈ L) := by
  obtain ⟨a, c, hvs⟩ := KY.rm_lt hv
  cases hN : Z.N id with
  | some u =>
    obtain ⟨x, hx, hu, hi⟩ := (h.ok.nm id u).1 hN
    refine (put_twice _ q id v u Z w h.qm hid hN ⟨_, _, _, hvs⟩ ⟨_, hu⟩).mono ?_
    rintro r w' ⟨rfl, rfl⟩
    exact .inl ⟨⟨x, hx, hi⟩, rfl, QTo.same h (Below.refl _ _)⟩
  | none =>
    have hno : ∀ x ∈ Z.A, (Z.T x).id ≠ id := fun x hx e => by
      have := (h.ok.nm id (ep x)).2 ⟨x, hx, rfl, e⟩
      rw [hN] at this; cases this
    by_cases hf : (Z.A.length : Int) = Z.room
    · refine (put_full _ q id v Z w h.qm hid hN ⟨_, _, _, hvs⟩ hf).mono ?_
      rintro r w' ⟨rfl, hb⟩
      exact .inr (.inl ⟨hno, hf, rfl, QTo.same h hb⟩)
    · refine (put_ok (Oo O w) q id v L Z w h.qm (fun g hg => .inr hg) hid hN hf hv hl hLK ⟨h.ok.o.sa, h.ok.o.sx, h.ok.o.la⟩ (fun k => ⟨h.ok.o.sc k, fun y hy => h.ok.o.sx y ((h.ok.o.cm k y).1 hy).1, h.ok.o.clen k⟩) ⟨h.ok.n0, by omega⟩).mono ?_
      rintro r w' ⟨rfl, Z', x, K, kv', m1, m2, m3, m4, m5, m6⟩
      have hxX : x ∉ Z.X := fun hm => by have := (h.qm.ent x hm).lt; omega
      have hKl : K.length ≤ 8796093022000 := by
        have : K.length ≤ L.length := by
          have hnd : K.Nodup := List.Pairwise.imp (fun {a b} h => ltK_ne h) m4
          exact nodup_len hnd (fun x hx => (m5 x).1 hx)
        omega
      obtain ⟨o1, o2⟩ := h.ok.put m2 hxX hN hn ⟨m4, fun k hk => hLK k ((m5 k).1 hk), hKl⟩
      have hxA : x ∉ Z.A := fun hm => hxX (h.ok.o.sx x hm)
      exact .inr (.inr ⟨hno, hf, rfl, Z', x, K, kv', QTo.mk m1 o1 m6, m2.room, m2.n, o2, fun y hy => by rw [m2.T]; exact if_neg (fun e => hxA (by rw [← e]; exact hy)), hxA, by rw [m2.T]; exact if_pos rfl, m5⟩)
end Go.Proofs.YtknnojjfdfkdmaaGreatDoor
