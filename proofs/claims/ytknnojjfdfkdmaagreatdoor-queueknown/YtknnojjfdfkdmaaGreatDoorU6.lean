/-
  My own text: layer 19: a queue in memory.
-/
import Derived.Test.YtknnojjfdfkdmaaGreatDoorU4b
import Derived.Test.YtknnojjfdfkdmaaGreatDoorGKA
namespace Go.Proofs.YtknnojjfdfkdmaaGreatDoor
open Go.RowKit Go.Extern Go.MapKept Go.ChangeMaps

def iv (x : Int) : Value := .int .i64 x
def IOK (x : Int) : Prop := (Lit.int .i64 x).wf = true
theorem lawInt : Go.Maps.Keyed Tryz.prog 3 := Go.Maps.int_keyed Tryz.underlying3
theorem keyOf_iv (x : Int) (h : IOK x) : ∃ l, keyOf Tryz.prog 3 (iv x) = some l := ⟨_, Go.Maps.keyOf_int_mk Tryz.underlying3 h⟩
theorem iv_inj (a b : Int) (h : iv a = iv b) : a = b := by simpa [iv] using h
theorem stays_iv (k : Int) (W : World) : (Instr.keyThatStays (iv k) (iv k)).run Tryz.prog W = .ok (iv k) W := by
  have : Instr.sameBits 10000 (iv k) (iv k) = true := by simp [iv, Instr.sameBits]
  simp [Instr.keyThatStays, this]
def kv (k : Ky) : Value := .agg #[.int .i64 k.1, .int .i64 k.2]
def KOK (k : Ky) : Prop := (Lit.int .i64 k.1).wf = true ∧ (Lit.int .i64 k.2).wf = true
theorem Tryz.laidOutM : laidOutB Tryz.prog = true := by kernel_rfl
theorem lawKey : Go.Maps.Keyed Tryz.prog 23 := Go.Maps.Keyed.of_law (deep_law_laid Tryz.laidOutM (m := 3) (by omega) (of_decide_eq_true (by kernel_rfl)) (by kernel_rfl) (by kernel_rfl))
theorem keyOf_kv (k : Ky) (h : KOK k) : ∃ l, keyOf Tryz.prog 23 (kv k) = some l := by
  obtain ⟨a, b⟩ := k
  obtain ⟨wa, wb⟩ := h
  dsimp only at wa wb
  obtain ⟨m, hm⟩ : ∃ m, Tryz.prog.types.size = m + 1 := ⟨185 - 1, by kernel_rfl⟩
  have hk : Tryz.prog.keyType 23 = true := by kernel_rfl
  have c2 : Tryz.prog.cellsOf 23 = 2 := by kernel_rfl
  have c1 : Tryz.prog.cellsOf 3 = 1 := by kernel_rfl
  have hu := Tryz.underlying23
  have hi := Tryz.underlying3
  unfold keyOf
  simp only [hu]
  rw [if_pos (by simp [hk, kv, Value.formed, hu, c2]), hm]
  unfold Program.keyLits
  simp [hu, kv, Value.cells, c2, c1, Program.keyLits, hi, wa, wb]
theorem kv_inj (a b : Ky) (h : kv a = kv b) : a = b := by
  obtain ⟨a1, a2⟩ := a
  obtain ⟨b1, b2⟩ := b
  simp [kv] at h
  simp [h.1, h.2]
theorem stays_kv (k : Ky) (W : World) : (Instr.keyThatStays (kv k) (kv k)).run Tryz.prog W = .ok (kv k) W := by
  have : Instr.sameBits 10000 (kv k) (kv k) = true := by simp [kv, Instr.sameBits]
  simp [Instr.keyThatStays, this]
/-- An entry. -/
structure Et where
  id : Int
  came : Int
  keys : List Ky
  kv : Value
  st : Int
  tch : Bool
def eb (e : Et) : Obj := .cells #[.int .i64 e.id, .int .i64 e.came, e.kv, .int .i64 e.st, .bool e.tch] 68 (0, 0)
structure En (w : World) (x : Nat) (e : Et) : Prop where
  blk : w.heap[x]? = some (eb e)
  ks : KY.OM w 0 e.kv e.keys
theorem om_kept {w w' : World} {B : Nat} {v : Value} {L : List Ky} (h : KY.OM w B v L) (hb : ∀ g, v.ownBlock = some g → w'.heap[g]? = w.heap[g]?) : KY.OM w' B v L := owns_blk h hb
theorem En.lt {w : World} {x : Nat} {e : Et} (h : En w x e) : x < w.heap.size := (Array.getElem?_eq_some_iff.1 h.blk).1
theorem En.klt {w : World} {x : Nat} {e : Et} (h : En w x e) {g : Nat} (hg : e.kv.ownBlock = some g) : g < w.heap.size := (World.ownsRow.lt h.ks g hg).2
theorem En.kept {w w' : World} {x : Nat} {e : Et} (h : En w x e) (h1 : w'.heap[x]? = w.heap[x]?) (h2 : ∀ g, e.kv.ownBlock = some g → w'.heap[g]? = w.heap[g]?) : En w' x e := ⟨h1.trans h.blk, om_kept h.ks h2⟩
theorem En.later {w w' : World} {x : Nat} {e : Et} (h : En w x e) (hb : Below w.heap.size w w') : En w' x e := h.kept (hb.block x h.lt) (fun g hg => hb.block g (h.klt hg))
theorem En.cells {w : World} {x : Nat} {e : Et} (h : En w x e) : w.cell? ⟨x, 0, none⟩ = some (.int .i64 e.id) ∧ w.cell? ⟨x, 1, none⟩ = some (.int .i64 e.came) ∧ w.cell? ⟨x, 2, none⟩ = some e.kv ∧ w.cell? ⟨x, 3, none⟩ = some (.int .i64 e.st) ∧ w.cell? ⟨x, 4, none⟩ = some (.bool e.tch) := five_cells h.blk rfl
theorem En.cm {w : World} {x : Nat} {T : Nat → Et} (h : En w x (T x)) : Cm w (fun y => (T y).came) x := ⟨h.lt, h.cells.2.1⟩
theorem En.fz {w : World} {x : Nat} {e : Et} (h : En w x e) (j : Nat) : w.frozen? ⟨x, j, none⟩ = false := clr_row h.blk j
/-- What waits for a key. -/
def Rf (f : Ky → Option Value) (k : Ky) : Value := (f k).getD (.slice none 0 0)
/-- What a queue holds. -/
structure Qx where
  room : Int
  n : Int
  mb : Nat
  mw : Nat
  va : Value
  vr : Value
  f : Ky → Option Value
  N : Int → Option Value
  T : Nat → Et
  X : List Nat
  A : List Nat
  Rd : List Nat
  C : Ky → List Nat
def Qx.c (Z : Qx) (x : Nat) : Int := (Z.T x).came
def qb (Z : Qx) : Obj := .cells #[.int .i64 Z.room, .int .i64 Z.n, .map (some Z.mb), Z.va, Z.vr, .map (some Z.mw)] 62 (0, 0)
/-- A queue in memory; F: the blocks that may be its own. -/
structure QM (F : Nat → Prop) (w : World) (q : Nat) (Z : Qx) : Prop where
  hd : w.heap[q]? = some (qb Z)
  by' : MP iv IOK w Z.mb Z.N
  wt : MP kv KOK w Z.mw Z.f
  all : PR w Z.va Z.A
  rdy : PR w Z.vr Z.Rd
  row : ∀ k, PR w (Rf Z.f k) (Z.C k)
  ent : ∀ x ∈ Z.X, En w x (Z.T x)
  ap1 : ∀ g, Z.va.ownBlock = some g → Z.vr.ownBlock ≠ some g
  ap2 : ∀ k g, (Rf Z.f k).ownBlock = some g → Z.va.ownBlock ≠ some g ∧ Z.vr.ownBlock ≠ some g
  ap3 : ∀ k k' g, k ≠ k' → (Rf Z.f k).ownBlock = some g → (Rf Z.f k').ownBlock ≠ some g
  ne : Z.mb ≠ Z.mw
  oq : F q ∧ F Z.mb ∧ F Z.mw
  oa : ∀ g, Z.va.ownBlock = some g → F g
  or' : ∀ g, Z.vr.ownBlock = some g → F g
  ow : ∀ k g, (Rf Z.f k).ownBlock = some g → F g
  oe : ∀ x ∈ Z.X, F x ∧ ∀ g, (Z.T x).kv.ownBlock = some g → F g
theorem ne_kind {w : World} {b g : Nat} {c c' : Array Value} {t t' : TypeId} {fz fz' : Nat × Nat} (h : w.heap[b]? = some (.cells c t fz)) (h' : w.heap[g]? = some (.cells c' t' fz')) (hne : t ≠ t') : b ≠ g := fun e => by
  rw [e, h'] at h
  injection h with h; injection h with _ h _
  exact hne h.symm
theorem ne_map {w : World} {b g : Nat} {c : Array Value} {t : TypeId} {fz : Nat × Nat} {es : Array MapEntry} {cl : Nat} (h : w.heap[b]? = some (.cells c t fz)) (h' : w.heap[g]? = some (.map es cl)) : b ≠ g := fun e => by
  rw [e, h'] at h; cases h
theorem En.kb {w : World} {x : Nat} {e : Et} (h : En w x e) {g : Nat} (hg : e.kv.ownBlock = some g) : ∃ c fz, w.heap[g]? = some (.cells c 23 fz) := ownsRow_kind h.ks g hg
theorem QM.cells {F : Nat → Prop} {w : World} {q : Nat} {Z : Qx} (h : QM F w q Z) : w.cell? ⟨q, 0, none⟩ = some (.int .i64 Z.room) ∧ w.cell? ⟨q, 1, none⟩ = some (.int .i64 Z.n) ∧ w.cell? ⟨q, 2, none⟩ = some (.map (some Z.mb)) ∧ w.cell? ⟨q, 3, none⟩ = some Z.va ∧ w.cell? ⟨q, 4, none⟩ = some Z.vr ∧ w.cell? ⟨q, 5, none⟩ = some (.map (some Z.mw)) := by
  have hd := h.hd
  unfold qb at hd
  exact ⟨by rw [cell_of_row _ _ 0 _ _ _ hd]; rfl, by rw [cell_of_row _ _ 1 _ _ _ hd]; rfl, by rw [cell_of_row _ _ 2 _ _ _ hd]; rfl, by rw [cell_of_row _ _ 3 _ _ _ hd]; rfl, by rw [cell_of_row _ _ 4 _ _ _ hd]; rfl, by rw [cell_of_row _ _ 5 _ _ _ hd]; rfl⟩
theorem QM.fz {F : Nat → Prop} {w : World} {q : Nat} {Z : Qx} (h : QM F w q Z) (j : Nat) : w.frozen? ⟨q, j, none⟩ = false := clr_row h.hd j
theorem QM.lt {F : Nat → Prop} {w : World} {q : Nat} {Z : Qx} (h : QM F w q Z) : q < w.heap.size := (Array.getElem?_eq_some_iff.1 h.hd).1
/-- Blocks of its own alone may change. -/
structure Fw (F : Nat → Prop) (w w' : World) : Prop where
  os : w'.os = w.os
  tape : w'.tape = w.tape
  output : w'.output = w.output
  size : w.heap.size ≤ w'.heap.size
  block : ∀ y, y < w.heap.size → ¬ F y → w'.heap[y]? = w.heap[y]?
theorem Fw.refl (F : Nat → Prop) (w : World) : Fw F w w := ⟨rfl, rfl, rfl, Nat.le_refl _, fun _ _ _ => rfl⟩
theorem Fw.trans {F : Nat → Prop} {a b c : World} (h : Fw F a b) (k : Fw F b c) : Fw F a c :=
  ⟨k.os.trans h.os, k.tape.trans h.tape, k.output.trans h.output, Nat.le_trans h.size k.size, fun y hy hs => (k.block y (Nat.lt_of_lt_of_le hy h.size) hs).trans (h.block y hy hs)⟩
theorem Fw.below {F : Nat → Prop} {a b : World} (h : Below a.heap.size a b) : Fw F a b := ⟨h.os, h.tape, h.output, h.size, fun y hy _ => h.block y hy⟩
theorem Fw.grown {F : Nat → Prop} {a b : World} {r : Option Nat} (h : a.grownBy b r) (hr : ∀ g, r = some g → F g) : Fw F a b := ⟨h.os, h.tape, h.output, h.size, fun y hy hs => h.block y hy (fun e => hs (hr y e.symm))⟩
theorem Fw.set {F : Nat → Prop} (a : World) (b off : Nat) (u : Value) (hb : F b) : Fw F a (a.setCell ⟨b, off, none⟩ u) :=
  ⟨rfl, rfl, rfl, by simp [World.setCell], fun y _ hs => Below.heap_setCell _ _ _ y (fun e => hs (by rw [e]; exact hb))⟩
/-- Nothing of it has changed. -/
theorem QM.kept {F : Nat → Prop} {w w' : World} {q : Nat} {Z : Qx} (h : QM F w q Z) (hF : ∀ g, F g → g < w.heap.size → w'.heap[g]? = w.heap[g]?) : QM F w' q Z := by
  refine ⟨(hF q h.oq.1 h.lt).trans h.hd, h.by'.kept (hF _ h.oq.2.1 h.by'.lt), h.wt.kept (hF _ h.oq.2.2 h.wt.lt), h.all.kept (fun g hg => hF g (h.oa g hg) (h.all.lt hg)), h.rdy.kept (fun g hg => hF g (h.or' g hg) (h.rdy.lt hg)), fun k => (h.row k).kept (fun g hg => hF g (h.ow k g hg) ((h.row k).lt hg)), fun x hx => (h.ent x hx).kept (hF x (h.oe x hx).1 (h.ent x hx).lt) (fun g hg => hF g ((h.oe x hx).2 g hg) ((h.ent x hx).klt hg)), h.ap1, h.ap2, h.ap3, h.ne, h.oq, h.oa, h.or', h.ow, h.oe⟩
theorem QM.later {F : Nat → Prop} {w w' : World} {q : Nat} {Z : Qx} (h : QM F w q Z) (hb : Below w.heap.size w w') : QM F w' q Z := h.kept (fun g _ hg => hb.block g hg)
/-- All but the rows: a row of entries has changed. -/
theorem QM.rowed {F : Nat → Prop} {w w1 : World} {q : Nat} {Z : Qx} (h : QM F w q Z) {v : Value} {L : List Nat} (hv : PR w v L) (hg : w.grownBy w1 v.ownBlock) :
    w1.heap[q]? = some (qb Z) ∧ MP iv IOK w1 Z.mb Z.N ∧ MP kv KOK w1 Z.mw Z.f ∧ (∀ x ∈ Z.X, En w1 x (Z.T x)) ∧ ∀ (u : Value) (M : List Nat), PR w u M → (∀ g, v.ownBlock = some g → u.ownBlock ≠ some g) → PR w1 u M := by
  have hk : ∀ (b : Nat) (c : Array Value) (t : TypeId) (fz : Nat × Nat), w.heap[b]? = some (.cells c t fz) → t ≠ 63 → w1.heap[b]? = w.heap[b]? := fun b c t fz hb ht => hg.block b (Array.getElem?_eq_some_iff.1 hb).1 (fun e => by
    obtain ⟨cur, hcur⟩ := hv.blk e.symm
    exact ne_kind hb hcur ht rfl)
  have hm : ∀ (b : Nat) (es : Array MapEntry) (cl : Nat), w.heap[b]? = some (.map es cl) → w1.heap[b]? = w.heap[b]? := fun b es cl hb => hg.block b (Array.getElem?_eq_some_iff.1 hb).1 (fun e => by
    obtain ⟨cur, hcur⟩ := hv.blk e.symm
    exact ne_map hcur hb rfl)
  refine ⟨(hk q _ _ _ h.hd (by decide)).trans h.hd, ?_, ?_, fun x hx => ?_, fun u M hu hne => hu.kept (fun g hgu => hg.block g (hu.lt hgu) (fun e => hne g e.symm hgu))⟩
  · obtain ⟨es, cl, hb⟩ := h.by'.map
    exact h.by'.kept (hm _ es cl hb)
  · obtain ⟨es, cl, hb⟩ := h.wt.map
    exact h.wt.kept (hm _ es cl hb)
  · have he := h.ent x hx
    refine he.kept (hk x _ _ _ he.blk (by decide)) (fun g hgg => ?_)
    obtain ⟨c, fz, hc⟩ := he.kb hgg
    exact hk g c _ fz hc (by decide)
theorem setq {w : World} {q : Nat} {c c' : Array Value} {t : TypeId} (j : Nat) (u : Value) (h : w.heap[q]? = some (.cells c t (0, 0))) (hc : c' = c.setIfInBounds j u) : (w.setCell ⟨q, j, none⟩ u).heap[q]? = some (.cells c' t (0, 0)) := by
  rw [setCell_eq_setRow w q j _ _ _ u h, hc]; exact setRow_heap w q _ _ _ _ h
theorem set_ne {w : World} {q j g : Nat} {u : Value} (h : g ≠ q) : (w.setCell ⟨q, j, none⟩ u).heap[g]? = w.heap[g]? := Below.heap_setCell _ _ _ g h
/-- The ready ones have become others. -/
theorem QM.ready {F : Nat → Prop} {w w1 : World} {q : Nat} {Z : Qx} (h : QM F w q Z) (hF : ∀ g, w.heap.size ≤ g → F g) {v' : Value} {L : List Nat} (hp : PR w1 v' L) (hg : w.grownBy w1 Z.vr.ownBlock) (ho : ∀ g, v'.ownBlock = some g → Z.vr.ownBlock = some g ∨ w.heap.size ≤ g) :
    w1.heap[q]? = some (qb Z) ∧ QM F (w1.setCell ⟨q, 4, none⟩ v') q { Z with vr := v', Rd := L } ∧ Fw F w (w1.setCell ⟨q, 4, none⟩ v') := by
  obtain ⟨a1, a2, a3, a4, a5⟩ := h.rowed h.rdy hg
  have hk : ∀ (b : Nat) (c : Array Value) (t : TypeId) (fz : Nat × Nat), w1.heap[b]? = some (.cells c t fz) → t ≠ 62 → (w1.setCell ⟨q, 4, none⟩ v').heap[b]? = w1.heap[b]? := fun b c t fz hb ht => set_ne (ne_kind hb a1 ht)
  have hm : ∀ (b : Nat) (es : Array MapEntry) (cl : Nat), w1.heap[b]? = some (.map es cl) → (w1.setCell ⟨q, 4, none⟩ v').heap[b]? = w1.heap[b]? := fun b es cl hb => set_ne (ne_map a1 hb).symm
  have hpr : ∀ (u : Value) (M : List Nat), PR w1 u M → PR (w1.setCell ⟨q, 4, none⟩ v') u M := fun u M hu => hu.kept (fun g hgu => by obtain ⟨cur, hc⟩ := hu.blk hgu; exact hk g cur _ _ hc (by decide))
  have hold : ∀ (u : Value) (g : Nat), (∀ g, Z.vr.ownBlock = some g → u.ownBlock ≠ some g) → (∀ g, u.ownBlock = some g → g < w.heap.size) → u.ownBlock = some g → v'.ownBlock ≠ some g := fun u g h1 h2 h3 h4 => by
    rcases ho g h4 with h5 | h5
    · exact h1 g h5 h3
    · have := h2 g h3; omega
  refine ⟨a1, ⟨setq 4 v' a1 rfl, ?_, ?_, ?_, hpr _ _ hp, fun k => ?_, fun x hx => ?_, ?_, ?_, h.ap3, h.ne, h.oq, h.oa, ?_, h.ow, h.oe⟩, ?_⟩
  · obtain ⟨es, cl, hb⟩ := a2.map
    exact a2.kept (hm _ es cl hb)
  · obtain ⟨es, cl, hb⟩ := a3.map
    exact a3.kept (hm _ es cl hb)
  · exact hpr _ _ (a5 _ _ h.all (fun g hg' hg2 => h.ap1 g hg2 hg'))
  · exact hpr _ _ (a5 _ _ (h.row k) (fun g hg' hg2 => (h.ap2 k g hg2).2 hg'))
  · have he := a4 x hx
    refine he.kept (hk x _ _ _ he.blk (by decide)) (fun g hgg => ?_)
    obtain ⟨c, fz, hc⟩ := he.kb hgg
    exact hk g c _ fz hc (by decide)
  · intro g hg1
    exact hold Z.va g (fun g h1 h2 => h.ap1 g h2 h1) (fun g h1 => h.all.lt h1) hg1
  · intro k g hg1
    exact ⟨(h.ap2 k g hg1).1, hold (Rf Z.f k) g (fun g h1 h2 => (h.ap2 k g h2).2 h1) (fun g h1 => (h.row k).lt h1) hg1⟩
  · intro g hg1
    rcases ho g hg1 with h1 | h1
    · exact h.or' g h1
    · exact hF g h1
  · exact (Fw.grown hg (fun g e => h.or' g e)).trans (Fw.set w1 q 4 v' h.oq.1)
/-- All of them have become others. -/
theorem QM.alls {F : Nat → Prop} {w w1 : World} {q : Nat} {Z : Qx} (h : QM F w q Z) (hF : ∀ g, w.heap.size ≤ g → F g) {v' : Value} {L : List Nat} (hp : PR w1 v' L) (hg : w.grownBy w1 Z.va.ownBlock) (ho : ∀ g, v'.ownBlock = some g → Z.va.ownBlock = some g ∨ w.heap.size ≤ g) :
    w1.heap[q]? = some (qb Z) ∧ QM F (w1.setCell ⟨q, 3, none⟩ v') q { Z with va := v', A := L } ∧ Fw F w (w1.setCell ⟨q, 3, none⟩ v') := by
  obtain ⟨a1, a2, a3, a4, a5⟩ := h.rowed h.all hg
  have hk : ∀ (b : Nat) (c : Array Value) (t : TypeId) (fz : Nat × Nat), w1.heap[b]? = some (.cells c t fz) → t ≠ 62 → (w1.setCell ⟨q, 3, none⟩ v').heap[b]? = w1.heap[b]? := fun b c t fz hb ht => set_ne (ne_kind hb a1 ht)
  have hm : ∀ (b : Nat) (es : Array MapEntry) (cl : Nat), w1.heap[b]? = some (.map es cl) → (w1.setCell ⟨q, 3, none⟩ v').heap[b]? = w1.heap[b]? := fun b es cl hb => set_ne (ne_map a1 hb).symm
  have hpr : ∀ (u : Value) (M : List Nat), PR w1 u M → PR (w1.setCell ⟨q, 3, none⟩ v') u M := fun u M hu => hu.kept (fun g hgu => by obtain ⟨cur, hc⟩ := hu.blk hgu; exact hk g cur _ _ hc (by decide))
  have hold : ∀ (u : Value) (g : Nat), (∀ g, Z.va.ownBlock = some g → u.ownBlock ≠ some g) → (∀ g, u.ownBlock = some g → g < w.heap.size) → u.ownBlock = some g → v'.ownBlock ≠ some g := fun u g h1 h2 h3 h4 => by
    rcases ho g h4 with h5 | h5
    · exact h1 g h5 h3
    · have := h2 g h3; omega
  refine ⟨a1, ⟨setq 3 v' a1 rfl, ?_, ?_, hpr _ _ hp, ?_, fun k => ?_, fun x hx => ?_, ?_, ?_, h.ap3, h.ne, h.oq, ?_, h.or', h.ow, h.oe⟩, ?_⟩
  · obtain ⟨es, cl, hb⟩ := a2.map
    exact a2.kept (hm _ es cl hb)
  · obtain ⟨es, cl, hb⟩ := a3.map
    exact a3.kept (hm _ es cl hb)
  · exact hpr _ _ (a5 _ _ h.rdy (fun g hg' hg2 => h.ap1 g hg' hg2))
  · exact hpr _ _ (a5 _ _ (h.row k) (fun g hg' hg2 => (h.ap2 k g hg2).1 hg'))
  · have he := a4 x hx
    refine he.kept (hk x _ _ _ he.blk (by decide)) (fun g hgg => ?_)
    obtain ⟨c, fz, hc⟩ := he.kb hgg
    exact hk g c _ fz hc (by decide)
  · intro g hg1 hg2
    exact hold Z.vr g (fun g h1 h2 => h.ap1 g h1 h2) (fun g h1 => h.rdy.lt h1) hg2 hg1
  · intro k g hg1
    exact ⟨hold (Rf Z.f k) g (fun g h1 h2 => (h.ap2 k g h2).1 h1) (fun g h1 => (h.row k).lt h1) hg1, (h.ap2 k g hg1).2⟩
  · intro g hg1
    rcases ho g hg1 with h1 | h1
    · exact h.oa g h1
    · exact hF g h1
  · exact (Fw.grown hg (fun g e => h.oa g e)).trans (Fw.set w1 q 3 v' h.oq.1)
/-- A map's block has changed. -/
theorem QM.mapped {F : Nat → Prop} {w w1 : World} {q b : Nat} {Z : Qx} (h : QM F w q Z) {es : Array MapEntry} {cl : Nat} (hb : w.heap[b]? = some (.map es cl)) (hg : w.grownBy w1 (some b)) :
    w1.heap[q]? = some (qb Z) ∧ (∀ (u : Value) (M : List Nat), PR w u M → PR w1 u M) ∧ ∀ x ∈ Z.X, En w1 x (Z.T x) := by
  have hk : ∀ (g : Nat) (c : Array Value) (t : TypeId) (fz : Nat × Nat), w.heap[g]? = some (.cells c t fz) → w1.heap[g]? = w.heap[g]? := fun g c t fz hc => hg.block g (Array.getElem?_eq_some_iff.1 hc).1 (fun e => ne_map hc hb (Option.some.inj e))
  refine ⟨(hk q _ _ _ h.hd).trans h.hd, fun u M hu => hu.kept (fun g hgu => by obtain ⟨cur, hc⟩ := hu.blk hgu; exact hk g cur _ _ hc), fun x hx => ?_⟩
  have he := h.ent x hx
  refine he.kept (hk x _ _ _ he.blk) (fun g hgg => ?_)
  obtain ⟨c, fz, hc⟩ := he.kb hgg
  exact hk g c _ fz hc
/-- What stands under the ids has become other. -/
theorem QM.named {F : Nat → Prop} {w w1 : World} {q : Nat} {Z : Qx} (h : QM F w q Z) {N' : Int → Option Value} (hm : MP iv IOK w1 Z.mb N') (hg : w.grownBy w1 (some Z.mb)) : QM F w1 q { Z with N := N' } ∧ Fw F w w1 := by
  obtain ⟨es, cl, hb⟩ := h.by'.map
  obtain ⟨a1, a2, a3⟩ := h.mapped hb hg
  exact ⟨⟨a1, hm, h.wt.kept (hg.block _ h.wt.lt (fun e => h.ne (Option.some.inj e).symm)), a2 _ _ h.all, a2 _ _ h.rdy, fun k => a2 _ _ (h.row k), a3, h.ap1, h.ap2, h.ap3, h.ne, h.oq, h.oa, h.or', h.ow, h.oe⟩, Fw.grown hg (fun g e => by rw [← Option.some.inj e]; exact h.oq.2.1)⟩
/-- What waits for a key has become other. -/
theorem QM.waits {F : Nat → Prop} {w w1 w2 : World} {q : Nat} {Z : Qx} (h : QM F w q Z) (hF : ∀ g, w.heap.size ≤ g → F g) {k : Ky} {v' : Value} {L : List Nat} {f' : Ky → Option Value} (hp : PR w1 v' L) (hg : w.grownBy w1 (Rf Z.f k).ownBlock) (ho : ∀ g, v'.ownBlock = some g → (Rf Z.f k).ownBlock = some g ∨ w.heap.size ≤ g)
    (hm : MP kv KOK w2 Z.mw f') (hg2 : w1.grownBy w2 (some Z.mw)) (h1 : Rf f' k = v') (h2 : ∀ k', k' ≠ k → f' k' = Z.f k') : QM F w2 q { Z with f := f', C := fun k' => if k' = k then L else Z.C k' } ∧ Fw F w w2 := by
  obtain ⟨a1, a2, a3, a4, a5⟩ := h.rowed (h.row k) hg
  obtain ⟨es, cl, hb⟩ := a3.map
  have hk : ∀ (g : Nat) (c : Array Value) (t : TypeId) (fz : Nat × Nat), w1.heap[g]? = some (.cells c t fz) → w2.heap[g]? = w1.heap[g]? := fun g c t fz hc => hg2.block g (Array.getElem?_eq_some_iff.1 hc).1 (fun e => ne_map hc hb (Option.some.inj e))
  have hpr : ∀ (u : Value) (M : List Nat), PR w1 u M → PR w2 u M := fun u M hu => hu.kept (fun g hgu => by obtain ⟨cur, hc⟩ := hu.blk hgu; exact hk g cur _ _ hc)
  have hR : ∀ k', k' ≠ k → Rf f' k' = Rf Z.f k' := fun k' e => by unfold Rf; rw [h2 k' e]
  have hold : ∀ (u : Value) (g : Nat), (∀ g, (Rf Z.f k).ownBlock = some g → u.ownBlock ≠ some g) → (∀ g, u.ownBlock = some g → g < w.heap.size) → u.ownBlock = some g → v'.ownBlock ≠ some g := fun u g h1 h2 h3 h4 => by
    rcases ho g h4 with h5 | h5
    · exact h1 g h5 h3
    · have := h2 g h3; omega
  refine ⟨⟨(hk q _ _ _ a1).trans a1, a2.kept (hg2.block _ a2.lt (fun e => h.ne (Option.some.inj e))), hm, hpr _ _ (a5 _ _ h.all (fun g e1 e2 => (h.ap2 k g e1).1 e2)), hpr _ _ (a5 _ _ h.rdy (fun g e1 e2 => (h.ap2 k g e1).2 e2)), fun k' => ?_, fun x hx => ?_, h.ap1, fun k' g e => ?_, fun k1 k2 g hne e => ?_, h.ne, h.oq, h.oa, h.or', fun k' g e => ?_, h.oe⟩, (Fw.grown hg (fun g e => h.ow k g e)).trans (Fw.grown hg2 (fun g e => by rw [← Option.some.inj e]; exact h.oq.2.2))⟩
  · dsimp only
    by_cases e : k' = k
    · subst e
      rw [if_pos rfl, h1]; exact hpr _ _ hp
    · rw [if_neg e, hR k' e]
      exact hpr _ _ (a5 _ _ (h.row k') (fun g e1 e2 => h.ap3 k k' g (fun q => e q.symm) e1 e2))
  · have he := a4 x hx
    refine he.kept (hk x _ _ _ he.blk) (fun g hgg => ?_)
    obtain ⟨c, fz, hc⟩ := he.kb hgg
    exact hk g c _ fz hc
  · dsimp only at e ⊢
    by_cases e0 : k' = k
    · subst e0
      rw [h1] at e
      exact ⟨fun e1 => hold Z.va g (fun g h1 h2 => (h.ap2 k' g h1).1 h2) (fun g h1 => h.all.lt h1) e1 e, fun e1 => hold Z.vr g (fun g h1 h2 => (h.ap2 k' g h1).2 h2) (fun g h1 => h.rdy.lt h1) e1 e⟩
    · rw [hR k' e0] at e
      exact h.ap2 k' g e
  · dsimp only at e ⊢
    by_cases e1 : k1 = k
    · subst e1
      rw [h1] at e
      rw [hR k2 (fun q => hne q.symm)]
      intro e2
      exact hold (Rf Z.f k2) g (fun g h1 h2 => h.ap3 k1 k2 g hne h1 h2) (fun g h1 => (h.row k2).lt h1) e2 e
    · rw [hR k1 e1] at e
      by_cases e2 : k2 = k
      · subst e2
        rw [h1]
        exact hold (Rf Z.f k1) g (fun g h1 h2 => h.ap3 k2 k1 g (fun q => hne q.symm) h1 h2) (fun g h1 => (h.row k1).lt h1) e
      · rw [hR k2 e2]
        exact h.ap3 k1 k2 g hne e
  · dsimp only at e
    by_cases e0 : k' = k
    · subst e0
      rw [h1] at e
      rcases ho g e with h3 | h3
      · exact h.ow k' g h3
      · exact hF g h3
    · rw [hR k' e0] at e
      exact h.ow k' g e
/-- An entry has become another. -/
theorem QM.turned {F : Nat → Prop} {w : World} {q : Nat} {Z : Qx} (h : QM F w q Z) {x : Nat} (hx : x ∈ Z.X) (j : Nat) (u : Value) (e' : Et) (hk : e'.kv = (Z.T x).kv ∧ e'.keys = (Z.T x).keys) (he : eb e' = .cells (#[.int .i64 (Z.T x).id, .int .i64 (Z.T x).came, (Z.T x).kv, .int .i64 (Z.T x).st, .bool (Z.T x).tch].setIfInBounds j u) 68 (0, 0)) :
    QM F (w.setCell ⟨x, j, none⟩ u) q { Z with T := fun y => if y = x then e' else Z.T y } ∧ Fw F w (w.setCell ⟨x, j, none⟩ u) := by
  have hex := h.ent x hx
  have hxb := hex.blk
  unfold eb at hxb
  have hkk : ∀ (b : Nat) (c : Array Value) (t : TypeId) (fz : Nat × Nat), w.heap[b]? = some (.cells c t fz) → t ≠ 68 → (w.setCell ⟨x, j, none⟩ u).heap[b]? = w.heap[b]? := fun b c t fz hb ht => set_ne (ne_kind hb hxb ht)
  have hm : ∀ (b : Nat) (es : Array MapEntry) (cl : Nat), w.heap[b]? = some (.map es cl) → (w.setCell ⟨x, j, none⟩ u).heap[b]? = w.heap[b]? := fun b es cl hb => set_ne (ne_map hxb hb).symm
  have hpr : ∀ (u' : Value) (M : List Nat), PR w u' M → PR (w.setCell ⟨x, j, none⟩ u) u' M := fun u' M hu => hu.kept (fun g hgu => by obtain ⟨cur, hc⟩ := hu.blk hgu; exact hkk g cur _ _ hc (by decide))
  refine ⟨⟨(hkk q _ _ _ h.hd (by decide)).trans h.hd, ?_, ?_, hpr _ _ h.all, hpr _ _ h.rdy, fun k => hpr _ _ (h.row k), fun y hy => ?_, h.ap1, h.ap2, h.ap3, h.ne, h.oq, h.oa, h.or', h.ow, fun y hy => ?_⟩, Fw.set w x j u (h.oe x hx).1⟩
  · obtain ⟨es, cl, hb⟩ := h.by'.map
    exact h.by'.kept (hm _ es cl hb)
  · obtain ⟨es, cl, hb⟩ := h.wt.map
    exact h.wt.kept (hm _ es cl hb)
  · dsimp only
    have hey := h.ent y hy
    by_cases e : y = x
    · subst e
      rw [if_pos rfl]
      refine ⟨by rw [he]; exact setq j u hxb rfl, ?_⟩
      rw [hk.1, hk.2]
      refine om_kept hey.ks (fun g hgg => ?_)
      obtain ⟨c, fz, hc⟩ := hey.kb hgg
      exact hkk g c _ fz hc (by decide)
    · rw [if_neg e]
      refine hey.kept (set_ne e) (fun g hgg => ?_)
      obtain ⟨c, fz, hc⟩ := hey.kb hgg
      exact hkk g c _ fz hc (by decide)
  · dsimp only
    by_cases e : y = x
    · subst e
      rw [if_pos rfl, hk.1]; exact h.oe y hy
    · rw [if_neg e]; exact h.oe y hy
end Go.Proofs.YtknnojjfdfkdmaaGreatDoor
