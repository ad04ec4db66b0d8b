/-
  My own text: Q3, Q4 in one.
-/
import Derived.Lib.IndexMore
import Derived.Test.YtbaideeiljeamaaGreatDoorQ2
import Derived.StillTailTactics
import Derived.Laws.Tables
import Derived.Laws.CopyOwn
import Derived.Laws.ResultCell
namespace Go.Proofs.YtbaideeiljeamaaGreatDoor.TG
open Go.RowKit

/-- A region that draws: the first operations leave the world alone, the rest go one behind the other. -/
theorem region_tail {P : Program} {id : Nat} {Q : Exit → Act → World → Prop} {a : Act} {w : World} {l : List Oper} (n : Nat) (hm : P.follows .mixedOrders = true) (hB : Region.lexTailB .any l.toArray n = true)
    (h : wpStill P l.toArray w.drew (fun a' => wpList P l.toArray Q (l.drop n) a' w.drew) (l.take n) a) : (Code.region id l.toArray true).wp P Q a w := wp_region_still_tail n hm hB h
theorem alloc2_newq (w : World) (a b : Obj) : ((w.alloc a).alloc b).heap[w.heap.size + 1]? = some b := by
  have := alloc_new (w.alloc a) b
  simpa using this
/-- The library's own variable holds some number. -/
def ML (w : World) : Prop := ∃ m : Int, w.cell? ⟨8, 0, none⟩ = some (.int .i64 m)
theorem ML.later {w w' : World} (h : ML w) (hb : Below w.heap.size w w') : ML w' := by
  obtain ⟨m, hm⟩ := h
  exact ⟨m, (hb.cell (p := ⟨8, 0, none⟩) (World.block_lt_of_cell? w _ hm)).trans hm⟩
theorem bytes_from (l : List UInt8) (a : Nat) : (⟨l.toArray⟩ : ByteArray).extract a l.length = ⟨(l.drop a).toArray⟩ := by
  apply ByteArray.ext
  simp
  rw [List.take_of_length_le (by rw [List.length_drop]; omega)]
theorem iC_one (i : Itm) (a : Option Addr) (n c : Nat) : (iC i (.slice a n c)).all (·.oneCell') = true := by simp [iC, Value.oneCell']
theorem cut_len (s sep : List UInt8) : (Lib.cut s sep).1.length ≤ s.length ∧ (Lib.cut s sep).2.1.length ≤ s.length := by
  unfold Lib.cut
  split
  · exact ⟨by rw [List.length_take]; omega, by rw [List.length_drop]; omega⟩
  · exact ⟨Nat.le_refl _, by simp⟩
def fldO (tag rest : List UInt8) (len : Nat) : Option (Int × Int) := if !tagB tag then some (4, 2) else if !hdB rest then none else if !(Lib.cut (rest.drop 1) [47, 47]).2.2 || !qualB (Lib.cut (rest.drop 1) [47, 47]).1 then some (4, (len : Int) - rest.length + 2) else none
def fldI (tag rest : List UInt8) : Itm := if !hdB rest then ⟨tag, [], rest, []⟩ else ⟨tag, (Lib.cut (rest.drop 1) [47, 47]).1, (Lib.cut (rest.drop 1) [47, 47]).2.1, []⟩
end Go.Proofs.YtbaideeiljeamaaGreatDoor.TG
namespace Go.Proofs.YtbaideeiljeamaaGreatDoor.TG
open Go.RowKit

def Bk (w : World) (q : Nat) (cs : Array Value) (t : TypeId) : Prop := w.heap[q]? = some (.cells cs t (0, 0))
theorem Bk.lt {w : World} {q : Nat} {cs : Array Value} {t : TypeId} (h : Bk w q cs t) : q < w.heap.size := (Array.getElem?_eq_some_iff.1 h).1
theorem Bk.later {w w' : World} {q : Nat} {cs : Array Value} {t : TypeId} (h : Bk w q cs t) (hb : Below w.heap.size w w') : Bk w' q cs t := (hb.block q h.lt).trans h
theorem Bk.alloc {w : World} {q : Nat} {cs : Array Value} {t : TypeId} (h : Bk w q cs t) (o : Obj) : Bk (w.alloc o) q cs t := alloc_block h
theorem Bk.other {w : World} {q : Nat} {cs : Array Value} {t : TypeId} (h : Bk w q cs t) {p : Nat} (i : Nat) (u : Value) (hne : q ≠ p) : Bk (w.setCell ⟨p, i, none⟩ u) q cs t := (Below.heap_setCell w ⟨p, i, none⟩ u q hne).trans h
theorem Bk.cell {w : World} {q : Nat} {cs : Array Value} {t : TypeId} (h : Bk w q cs t) (j : Nat) : w.cell? ⟨q, j, none⟩ = cs[j]? := cell_of_row _ _ j _ _ _ h
theorem Bk.free {w : World} {q : Nat} {cs : Array Value} {t : TypeId} (h : Bk w q cs t) (j : Nat) : w.frozen? ⟨q, j, none⟩ = false := frozen_of_row _ _ j _ _ h
theorem Bk.set1 {w : World} {q : Nat} {u v : Value} {t : TypeId} (h : Bk w q #[u] t) : Bk (w.setCell ⟨q, 0, none⟩ v) q #[v] t := by
  unfold Bk at h ⊢
  simp only [World.setCell, Array.getElem?_modify, if_true]
  rw [h]; rfl
/-- Nothing but two blocks has changed. -/
structure Mv (p q : Nat) (w w' : World) : Prop where
  os : w'.os = w.os
  tape : w'.tape = w.tape
  output : w'.output = w.output
  size : w.heap.size ≤ w'.heap.size
  block : ∀ k, k < w.heap.size → k ≠ p → k ≠ q → w'.heap[k]? = w.heap[k]?
theorem Mv.of {p q : Nat} {w w' : World} (h : Below w.heap.size w w') : Mv p q w w' := ⟨h.os, h.tape, h.output, h.size, fun k hk _ _ => h.block k hk⟩
theorem Mv.refl (p q : Nat) (w : World) : Mv p q w w := Mv.of (Below.refl _ _)
theorem Mv.trans {p q : Nat} {a b c : World} (h : Mv p q a b) (k : Mv p q b c) : Mv p q a c :=
  ⟨k.os.trans h.os, k.tape.trans h.tape, k.output.trans h.output, Nat.le_trans h.size k.size, fun i hi h1 h2 => (k.block i (Nat.lt_of_lt_of_le hi h.size) h1 h2).trans (h.block i hi h1 h2)⟩
theorem Mv.below {p q B : Nat} {a b c : World} (h : Below B a b) (k : Mv p q b c) (hB : B ≤ b.heap.size) (hp : B ≤ p) (hq : B ≤ q) : Below B a c :=
  h.trans ⟨k.os, k.tape, k.output, k.size, fun i hi => k.block i (by omega) (by omega) (by omega)⟩
theorem Mv.set {p q : Nat} {a b : World} (h : Mv p q a b) {r : Nat} (hr : r = p ∨ r = q) (u : Value) : Mv p q a (b.setCell ⟨r, 0, none⟩ u) :=
  ⟨h.os, h.tape, h.output, by simpa [World.setCell] using h.size, fun k hk h1 h2 => (Below.heap_setCell b ⟨r, 0, none⟩ u k (by rcases hr with e | e <;> subst e <;> assumption)).trans (h.block k hk h1 h2)⟩
theorem Bk.mv {w w' : World} {p q g : Nat} {cs : Array Value} {t : TypeId} (h : Bk w g cs t) (hm : Mv p q w w') (h1 : g ≠ p) (h2 : g ≠ q) : Bk w' g cs t := (hm.block g h.lt h1 h2).trans h
theorem ML.mv {w w' : World} {p q : Nat} (h : ML w) (hm : Mv p q w w') (h1 : 8 ≠ p) (h2 : 8 ≠ q) : ML w' := by
  obtain ⟨m, hc⟩ := h
  refine ⟨m, ?_⟩
  rw [← hc]; unfold World.cell?; rw [hm.block _ (World.block_lt_of_cell? w _ hc) h1 h2]
/-- Where the reading of a text stands: its line's number, its place. -/
structure NS (w : World) (p t q : Nat) (T : List UInt8) (n b : Nat) : Prop where
  beg : Bk w p #[.int .i64 b] 3
  txt : Bk w t #[.string ⟨T.toArray⟩] 9
  num : Bk w q #[.int .i64 n] 3
structure Apt (p t q : Nat) : Prop where
  pt : p ≠ t
  pq : p ≠ q
  tq : t ≠ q
  mp : 8 ≠ p
  mq : 8 ≠ q
theorem NS.later {w w' : World} {p t q : Nat} {T : List UInt8} {n b : Nat} (h : NS w p t q T n b) (hb : Below w.heap.size w w') : NS w' p t q T n b := ⟨h.beg.later hb, h.txt.later hb, h.num.later hb⟩
theorem NS.alloc {w : World} {p t q : Nat} {T : List UInt8} {n b : Nat} (h : NS w p t q T n b) (o : Obj) : NS (w.alloc o) p t q T n b := h.later ((Below.refl _ _).alloc (Nat.le_refl _) _)
def ownL (T : List UInt8) (b : Nat) : List UInt8 := (Lib.cut (T.drop b) [10]).1
def endL (T : List UInt8) (b : Nat) : Bool := (Lib.cut (T.drop b) [10]).2.2
def nxtB (T : List UInt8) (b : Nat) : Nat := min (b + (ownL T b).length + 1) T.length
theorem lnC_one (n : Lin) : (lnC n).all (·.oneCell') = true := by simp [lnC, Value.oneCell']
def lnZ : Lin := ⟨0, 0, [], false⟩
theorem ret_cell_tmp {P : Program} {fn : Func} {p u : Tmp} {ty : TypeId} (h : fn.results = #[.cell p ty, .tmp u]) (tmps : Array Value) (w : World) (g : Nat) (t : TypeId) (cs : Array Value) (fr : Nat × Nat) (d : TypeDesc) (v : Value)
    (hp : tmps.getD p undef = .pointer (some ⟨g, 0, none⟩)) (hv : tmps.getD u undef = v) (hg : w.heap[g]? = some (.cells cs t fr))
    (hu : P.underlying ty = some d) (hd : (match d with | .struct _ | .array _ _ => true | _ => false) = true) (hi : (P.info? ty).map (·.size) = some cs.size) :
    (results fn tmps).run P w = .ok (.tuple #[.agg cs, v]) w := by
  rw [results_cell_tmp h, hp, hv]
  simp [asAddr, Result.andThen, run_loadVar_row w g t ty cs fr d hg hu hd hi]
end Go.Proofs.YtbaideeiljeamaaGreatDoor.TG
