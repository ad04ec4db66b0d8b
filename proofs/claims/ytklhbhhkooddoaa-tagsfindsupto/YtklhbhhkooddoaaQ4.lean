/-
  My own text: the next line of a text.
-/
import Derived.Test.YtklhbhhkooddoaaQ3
import Derived.Laws.ResultCell
namespace Go.Proofs.Ytklhbhhkooddoaa
open Go.RowKit

def Bk (w : World) (q : Nat) (cs : Array Value) (t : TypeId) : Prop := w.heap[q]? = some (.cells cs t (0, 0))
theorem Bk.lt {w : World} {q : Nat} {cs : Array Value} {t : TypeId} (h : Bk w q cs t) : q < w.heap.size := (Array.getElem?_eq_some_iff.1 h).1
theorem Bk.later {w w' : World} {q : Nat} {cs : Array Value} {t : TypeId} (h : Bk w q cs t) (hb : Below w.heap.size w w') : Bk w' q cs t := (hb.block q h.lt).trans h
theorem Bk.alloc {w : World} {q : Nat} {cs : Array Value} {t : TypeId} (h : Bk w q cs t) (o : Obj) : Bk (w.alloc o) q cs t := alloc_block h
theorem Bk.other {w : World} {q : Nat} {cs : Array Value} {t : TypeId} (h : Bk w q cs t) {p : Nat} (i : Nat) (u : Value) (hne : q ≠ p) : Bk (w.setCell ⟨p, i, none⟩ u) q cs t := (Below.heap_setCell w ⟨p, i, none⟩ u q hne).trans h
theorem Bk.cell {w : World} {q : Nat} {cs : Array Value} {t : TypeId} (h : Bk w q cs t) (j : Nat) : w.cell? ⟨q, j, none⟩ = cs[j]? := cell_of_row _ _ j _ _ _ h
theorem Bk.free {w : World} {q : Nat} {cs : Array Value} {t : TypeId} (h : Bk w q cs t) (j : Nat) : w.frozen? ⟨q, j, none⟩ = false := frozen_of_row _ _ j _ _ h
theorem Bk.set1 {w : World} {q : Nat} {u v : Value} {t : TypeId} (h : Bk w q #[u] t) : Bk (w.setCell ⟨q, 0, none⟩ v) q #[v] t := by
  unfold Bk at h ⊢
  simp only [World.setCell, Array.getElem?_modify, if_true]
  rw [h]; rfl
/-- Nothing but two blocks has changed. -/
structure Mv (p q : Nat) (w w' : World) : Prop where
  os : w'.os = w.os
  tape : w'.tape = w.tape
  output : w'.output = w.output
  size : w.heap.size ≤ w'.heap.size
  block : ∀ k, k < w.heap.size → k ≠ p → k ≠ q → w'.heap[k]? = w.heap[k]?
theorem Mv.of {p q : Nat} {w w' : World} (h : Below w.heap.size w w') : Mv p q w w' := ⟨h.os, h.tape, h.output, h.size, fun k hk _ _ => h.block k hk⟩
theorem Mv.refl (p q : Nat) (w : World) : Mv p q w w := Mv.of (Below.refl _ _)
theorem Mv.trans {p q : Nat} {a b c : World} (h : Mv p q a b) (k : Mv p q b c) : Mv p q a c :=
  ⟨k.os.trans h.os, k.tape.trans h.tape, k.output.trans h.output, Nat.le_trans h.size k.size, fun i hi h1 h2 => (k.block i (Nat.lt_of_lt_of_le hi h.size) h1 h2).trans (h.block i hi h1 h2)⟩
theorem Mv.below {p q B : Nat} {a b c : World} (h : Below B a b) (k : Mv p q b c) (hB : B ≤ b.heap.size) (hp : B ≤ p) (hq : B ≤ q) : Below B a c :=
  h.trans ⟨k.os, k.tape, k.output, k.size, fun i hi => k.block i (by omega) (by omega) (by omega)⟩
theorem Mv.set {p q : Nat} {a b : World} (h : Mv p q a b) {r : Nat} (hr : r = p ∨ r = q) (u : Value) : Mv p q a (b.setCell ⟨r, 0, none⟩ u) :=
  ⟨h.os, h.tape, h.output, by simpa [World.setCell] using h.size, fun k hk h1 h2 => (Below.heap_setCell b ⟨r, 0, none⟩ u k (by rcases hr with e | e <;> subst e <;> assumption)).trans (h.block k hk h1 h2)⟩
theorem Bk.mv {w w' : World} {p q g : Nat} {cs : Array Value} {t : TypeId} (h : Bk w g cs t) (hm : Mv p q w w') (h1 : g ≠ p) (h2 : g ≠ q) : Bk w' g cs t := (hm.block g h.lt h1 h2).trans h
theorem ML.mv {w w' : World} {p q : Nat} (h : ML w) (hm : Mv p q w w') (h1 : 0 ≠ p) (h2 : 0 ≠ q) : ML w' := by
  obtain ⟨m, hc⟩ := h
  refine ⟨m, ?_⟩
  rw [← hc]; unfold World.cell?; rw [hm.block _ (World.block_lt_of_cell? w _ hc) h1 h2]
/-- Where the reading of a text stands: its line's number, its place. -/
structure NS (w : World) (p t q : Nat) (T : List UInt8) (n b : Nat) : Prop where
  beg : Bk w p #[.int .i64 b] 3
  txt : Bk w t #[.string ⟨T.toArray⟩] 9
  num : Bk w q #[.int .i64 n] 3
structure Apt (p t q : Nat) : Prop where
  pt : p ≠ t
  pq : p ≠ q
  tq : t ≠ q
  mp : 0 ≠ p
  mq : 0 ≠ q
theorem NS.later {w w' : World} {p t q : Nat} {T : List UInt8} {n b : Nat} (h : NS w p t q T n b) (hb : Below w.heap.size w w') : NS w' p t q T n b := ⟨h.beg.later hb, h.txt.later hb, h.num.later hb⟩
theorem NS.alloc {w : World} {p t q : Nat} {T : List UInt8} {n b : Nat} (h : NS w p t q T n b) (o : Obj) : NS (w.alloc o) p t q T n b := h.later ((Below.refl _ _).alloc (Nat.le_refl _) _)
def ownL (T : List UInt8) (b : Nat) : List UInt8 := (Lib.cut (T.drop b) [10]).1
def endL (T : List UInt8) (b : Nat) : Bool := (Lib.cut (T.drop b) [10]).2.2
def nxtB (T : List UInt8) (b : Nat) : Nat := min (b + (ownL T b).length + 1) T.length
theorem Try.sizeLine : (Try.prog.info? 78).map (·.size) = some 4 := by kernel_rfl
theorem lnC_one (n : Lin) : (lnC n).all (·.oneCell') = true := by simp [lnC, Value.oneCell']
def lnZ : Lin := ⟨0, 0, [], false⟩
theorem ret_cell_tmp {P : Program} {fn : Func} {p u : Tmp} {ty : TypeId} (h : fn.results = #[.cell p ty, .tmp u]) (tmps : Array Value) (w : World) (g : Nat) (t : TypeId) (cs : Array Value) (fr : Nat × Nat) (d : TypeDesc) (v : Value)
    (hp : tmps.getD p undef = .pointer (some ⟨g, 0, none⟩)) (hv : tmps.getD u undef = v) (hg : w.heap[g]? = some (.cells cs t fr))
    (hu : P.underlying ty = some d) (hd : (match d with | .struct _ | .array _ _ => true | _ => false) = true) (hi : (P.info? ty).map (·.size) = some cs.size) :
    (results fn tmps).run P w = .ok (.tuple #[.agg cs, v]) w := by
  rw [results_cell_tmp h, hp, hv]
  simp [asAddr, Result.andThen, run_loadVar_row w g t ty cs fr d hg hu hd hi]
set_option maxRecDepth 100000 in
set_option maxHeartbeats 4000000 in
theorem next_end (p t q : Nat) (T : List UInt8) (n : Nat) (w : World) (h : NS w p t q T n T.length) :
    Calls Try.prog 45 #[.pointer (some ⟨p, 0, none⟩), .pointer (some ⟨t, 0, none⟩), .pointer (some ⟨q, 0, none⟩)] w fun e w' => e = .returned (.tuple #[.agg (lnC ⟨n, 0, [], false⟩), .bool false]) ∧ Below w.heap.size w w' := by
  have X0 := hide (Lx.new w lnZ)
  have B0 := hide ((Below.refl w.heap.size w).alloc (Nat.le_refl _) (.cells (lnC lnZ) 78))
  have N0 := hide (h.alloc (.cells (lnC lnZ) 78))
  have c0 := N0.out.beg.cell 0
  have c1 := N0.out.txt.cell 0
  have c2 := N0.out.num.cell 0
  simp only [List.getElem?_toArray, List.getElem?_cons_zero] at c0 c1 c2
  unfold lnC lnZ at c0 c1 c2
  clear h
  go_enter Try.func45, Try.ntmps45
  go_wp2_with (refine wpList_store_row rfl 78 (.tmp 3) _ rfl w.heap.size (lnC ⟨n, 0, [], false⟩) rfl rfl _ _ X0.out Try.sizeLine rfl (lnC_one _) ?_)
  (try simp only [Exit.inBlock, Exit.then])
  refine bodyPost_ret (v := .tuple #[.agg (lnC ⟨n, 0, [], false⟩), .bool false]) ?_ rfl ⟨rfl, below_setRow B0.out (Nat.le_refl _) _⟩
  exact ret_cell_tmp rfl _ _ w.heap.size 78 (lnC ⟨n, 0, [], false⟩) (0, 0) _ _ rfl rfl (setRow_heap _ _ _ _ _ _ X0.out) Try.underlying78 rfl Try.sizeLine
set_option maxRecDepth 100000 in
set_option maxHeartbeats 8000000 in
theorem next_line (p t q : Nat) (T : List UInt8) (n b : Nat) (w : World) (ha : Apt p t q) (h : NS w p t q T n b) (hlt : b < T.length) (hl : T.length ≤ 1048576) (hn : n ≤ 2097152) (hm : ML w) :
    Calls Try.prog 45 #[.pointer (some ⟨p, 0, none⟩), .pointer (some ⟨t, 0, none⟩), .pointer (some ⟨q, 0, none⟩)] w fun e w' => e = .returned (.tuple #[.agg (lnC ⟨n, b, ownL T b, endL T b⟩), .bool true]) ∧ NS w' p t q T (n + 1) (nxtB T b) ∧ Mv p q w w' := by
  have X0 := hide (Lx.new w lnZ)
  have B0 := hide ((Below.refl w.heap.size w).alloc (Nat.le_refl _) (.cells (lnC lnZ) 78))
  have N0 := hide (h.alloc (.cells (lnC lnZ) 78))
  have HPL := hide h.beg.lt
  have HQL := hide h.num.lt
  have HTL := hide h.txt.lt
  have HA := hide ha
  have HC := hide (cut_any (T.drop b) [10] (w.alloc (.cells (lnC lnZ) 78)) (by rw [List.length_drop]; omega) (hm.later B0.out))
  have HCL := hide (cut_len (T.drop b) [10])
  have HDL : Hid ((T.drop b).length = T.length - b) := hide List.length_drop
  have HOW : Hid ((Lib.cut (T.drop b) [10]).1 = ownL T b) := hide rfl
  have HEN : Hid ((Lib.cut (T.drop b) [10]).2.2 = endL T b) := hide rfl
  have HNX : Hid (nxtB T b = min (b + (ownL T b).length + 1) T.length) := hide rfl
  rw [HOW.out, HEN.out] at HC
  rw [HOW.out] at HCL
  have hds := bytes_from T b
  generalize (Lib.cut (T.drop b) [10]).2.1 = aft at *
  generalize ownL T b = ow at *
  generalize endL T b = en at *
  generalize nxtB T b = nb at *
  generalize T.drop b = rd at *
  have how : ow.length ≤ 1048576 := by have := HCL.out.1; have := HDL.out; omega
  have hne : ¬ b = T.length := by omega
  have hneI : ((b : Int) == (T.length : Int)) = false := beq_eq_false_iff_ne.2 (by omega)
  have c0 := N0.out.beg.cell 0
  have c1 := N0.out.txt.cell 0
  have c2 := N0.out.num.cell 0
  simp only [List.getElem?_toArray, List.getElem?_cons_zero] at c0 c1 c2
  unfold lnC lnZ at c0 c1 c2
  clear h hm ha
  go_enter Try.func45, Try.ntmps45
  go_wp2_with fail
  refine HC.out.mono ?_
  rintro e w1 ⟨rfl, hb1⟩
  have B1 := hide (B0.out.trans (hb1.mono B0.out.size))
  have X1 := hide (X0.out.later hb1)
  have N1 := hide (N0.out.later hb1)
  have HS1 : Hid (w.heap.size + 1 ≤ w1.heap.size) := by show _ ≤ _; have := hb1.size; simp at this; omega
  clear hb1 c0 c1 c2 HC
  have c0 := N1.out.beg.cell 0
  have c1 := N1.out.txt.cell 0
  have c2 := N1.out.num.cell 0
  simp only [List.getElem?_toArray, List.getElem?_cons_zero] at c0 c1 c2
  have z0 := N1.out.beg.free 0
  have z2 := N1.out.num.free 0
  have hp1 : p < w1.heap.size := N1.out.beg.lt
  have hq1 : q < w1.heap.size := N1.out.num.lt
  have ht1 : t < w1.heap.size := N1.out.txt.lt
  have apq : p ≠ q := HA.out.pq
  have apt : p ≠ t := HA.out.pt
  have atq : t ≠ q := HA.out.tq
  have apq' : q ≠ p := Ne.symm apq
  have apt' : t ≠ p := Ne.symm apt
  have atq' : q ≠ t := Ne.symm atq
  have HMN : Hid (min ((b : Int) + (ow.length : Int) + 1) (T.length : Int) = (nb : Int)) := by show _ = _; rw [HNX.out]; omega
  have XF : Hid (Lx (((w1.setCell ⟨q, 0, none⟩ (.int .i64 ((n : Int) + 1))).setCell ⟨p, 0, none⟩ (.int .i64 (min ((b : Int) + (ow.length : Int) + 1) (T.length : Int)))).alloc (.cells #[.int .i64 (n : Int), .int .i64 (b : Int), .string ⟨ow.toArray⟩, .bool en] 78)) w.heap.size lnZ) := hide (Bk.alloc (Bk.other (Bk.other X1.out 0 _ (by have := HQL.out; omega)) 0 _ (by have := HPL.out; omega)) _)
  go_wp2_with (refine wpList_store_row rfl 78 (.tmp 3) _ rfl w.heap.size (lnC ⟨n, b, ow, en⟩) rfl rfl _ _ XF.out Try.sizeLine rfl (lnC_one _) ?_)
  (try simp only [Exit.inBlock, Exit.then])
  have hmv : Mv p q w (((w1.setCell ⟨q, 0, none⟩ (.int .i64 ((n : Int) + 1))).setCell ⟨p, 0, none⟩ (.int .i64 (min ((b : Int) + (ow.length : Int) + 1) (T.length : Int)))).alloc (.cells #[.int .i64 (n : Int), .int .i64 (b : Int), .string ⟨ow.toArray⟩, .bool en] 78)) := (((Mv.of B1.out).set (.inr rfl) _).set (.inl rfl) _).trans (Mv.of ((Below.refl _ _).alloc (Nat.le_refl _) _))
  have hsr : ∀ (W : World) (k : Nat), k ≠ w.heap.size → (W.setRow w.heap.size (lnC ⟨n, b, ow, en⟩)).heap[k]? = W.heap[k]? := fun W k hk => by
    by_cases h : k < w.heap.size
    · exact (below_setRow (Below.refl w.heap.size W) (Nat.le_refl _) (lnC ⟨n, b, ow, en⟩)).block k h
    · exact setRow_other _ _ _ _ hk
  refine bodyPost_ret (v := .tuple #[.agg (lnC ⟨n, b, ow, en⟩), .bool true]) ?_ rfl ⟨rfl, ⟨?_, ?_, ?_⟩, ?_⟩
  · exact ret_cell_tmp rfl _ _ w.heap.size 78 (lnC ⟨n, b, ow, en⟩) (0, 0) _ _ rfl rfl (setRow_heap _ _ _ _ _ _ XF.out) Try.underlying78 rfl Try.sizeLine
  · rw [← HMN.out]; exact (hsr _ p (by have := HPL.out; omega)).trans (Bk.alloc (Bk.set1 (Bk.other N1.out.beg 0 _ apq)) _)
  · exact (hsr _ t (by have := HTL.out; omega)).trans (Bk.alloc (Bk.other (Bk.other N1.out.txt 0 _ atq) 0 _ apt') _)
  · rw [show ((n + 1 : Nat) : Int) = (n : Int) + 1 by omega]; exact (hsr _ q (by have := HQL.out; omega)).trans (Bk.alloc (Bk.other (Bk.set1 N1.out.num) 0 _ apq') _)
  · exact ⟨hmv.os, hmv.tape, hmv.output, by simpa [World.setRow] using hmv.size, fun k hk h1 h2 => (hsr _ k (by omega)).trans (hmv.block k hk h1 h2)⟩
end Go.Proofs.Ytklhbhhkooddoaa
