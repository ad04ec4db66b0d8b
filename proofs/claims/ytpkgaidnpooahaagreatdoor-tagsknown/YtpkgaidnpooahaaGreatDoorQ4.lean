/-
  My own text: Q3, Q4 in one.
-/
import Derived.Test.YtpkgaidnpooahaaGreatDoorQ2
import Derived.StillTailTactics
import Derived.Laws.Tables
import Derived.Laws.CopyOwn
import Derived.Laws.ResultCell
namespace Go.Proofs.YtpkgaidnpooahaaGreatDoor
open Go.RowKit

/-- A region that draws: the first operations leave the world alone, the rest go one behind the other. -/
theorem region_tail {P : Program} {id : Nat} {Q : Exit → Act → World → Prop} {a : Act} {w : World} {l : List Oper} (n : Nat) (hm : P.follows .mixedOrders = true) (hB : Region.lexTailB .any l.toArray n = true)
    (h : wpStill P l.toArray w.drew (fun a' => wpList P l.toArray Q (l.drop n) a' w.drew) (l.take n) a) : (Code.region id l.toArray true).wp P Q a w := wp_region_still_tail n hm hB h
theorem alloc2_newq (w : World) (a b : Obj) : ((w.alloc a).alloc b).heap[w.heap.size + 1]? = some b := by
  have := alloc_new (w.alloc a) b
  simpa using this
theorem Lx.drew {w : World} {g : Nat} {n : Lin} (h : Lx w g n) : Lx w.drew g n := h
/-- The library's own variable holds some number. -/
def ML (w : World) : Prop := ∃ m : Int, w.cell? ⟨1, 0, none⟩ = some (.int .i64 m)
theorem ML.later {w w' : World} (h : ML w) (hb : Below w.heap.size w w') : ML w' := by
  obtain ⟨m, hm⟩ := h
  exact ⟨m, (hb.cell (p := ⟨1, 0, none⟩) (World.block_lt_of_cell? w _ hm)).trans hm⟩
theorem cut_any (s sep : List UInt8) (w : World) (hs : s.length ≤ 1048576) (hm : ML w) :
    Calls Tryz.prog 64 #[.string ⟨s.toArray⟩, .string ⟨sep.toArray⟩] w fun e w' => e = .returned (.tuple #[.string ⟨(Lib.cut s sep).1.toArray⟩, .string ⟨(Lib.cut s sep).2.1.toArray⟩, .bool (Lib.cut s sep).2.2]) ∧ Below w.heap.size w w' := by
  obtain ⟨m, hm⟩ := hm
  refine (Tryz.strings_Cut ⟨s.toArray⟩ ⟨sep.toArray⟩ m w (by rw [bytes_size]; omega) hm).mono ?_
  rintro e w' ⟨rfl, q, rfl⟩
  exact ⟨by simp, below_dN (Below.refl _ _) q⟩
theorem bytes_from (l : List UInt8) (a : Nat) : (⟨l.toArray⟩ : ByteArray).extract a l.length = ⟨(l.drop a).toArray⟩ := by
  apply ByteArray.ext
  simp
  rw [List.take_of_length_le (by rw [List.length_drop]; omega)]
theorem iC_one (i : Itm) (a : Option Addr) (n c : Nat) : (iC i (.slice a n c)).all (·.oneCell') = true := by simp [iC, Value.oneCell']
theorem cut_len (s sep : List UInt8) : (Lib.cut s sep).1.length ≤ s.length ∧ (Lib.cut s sep).2.1.length ≤ s.length := by
  unfold Lib.cut
  split
  · exact ⟨by rw [List.length_take]; omega, by rw [List.length_drop]; omega⟩
  · exact ⟨Nat.le_refl _, by simp⟩
def fldO (tag rest : List UInt8) (len : Nat) : Option (Int × Int) := if !tagB tag then some (4, 2) else if !hdB rest then none else if !(Lib.cut (rest.drop 1) [47, 47]).2.2 || !qualB (Lib.cut (rest.drop 1) [47, 47]).1 then some (4, (len : Int) - rest.length + 2) else none
def fldI (tag rest : List UInt8) : Itm := if !hdB rest then ⟨tag, [], rest, []⟩ else ⟨tag, (Lib.cut (rest.drop 1) [47, 47]).1, (Lib.cut (rest.drop 1) [47, 47]).2.1, []⟩
set_option maxRecDepth 100000 in
set_option maxHeartbeats 4000000 in
theorem field_line (n : Lin) (tag rest : List UInt8) (w : World) (hl : n.tx.length ≤ 1048576) (ht : tag.length ≤ 1048576) (hr : rest.length ≤ 1048576) (hm : ML w) :
    Calls Tryz.prog 69 #[.agg (lnC n), .string ⟨tag.toArray⟩, .string ⟨rest.toArray⟩] w fun e w' => e = ends (fldO tag rest n.tx.length) n.no (.agg (iC (fldI tag rest) (.slice none 0 0))) ∧ Below w.heap.size w w' := by
  obtain ⟨no, bg, tx, en⟩ := n
  dsimp only at hl
  have X0 := hide ((Lx.new w ⟨no, bg, tx, en⟩).alloc (.cells #[.string ⟨#[]⟩, .string ⟨#[]⟩, .string ⟨#[]⟩, .string ⟨#[]⟩, .slice none 0 0] 25))
  have B0 := hide (((Below.refl w.heap.size w).alloc (Nat.le_refl _) (.cells (lnC ⟨no, bg, tx, en⟩) 98)).alloc (by simp) (.cells #[.string ⟨#[]⟩, .string ⟨#[]⟩, .string ⟨#[]⟩, .string ⟨#[]⟩, .slice none 0 0] 25))
  have HM := hide hm
  have c0 := X0.out.num
  have c1 := X0.out.beg
  have c2 := X0.out.text
  have c3 := X0.out.ends
  dsimp only at c0 c1 c2 c3
  have HT := hide (fun W : World => tIsTag_any tag W (by omega))
  clear hm
  cases htg : tagB tag
  · have HE : Hid (fldO tag rest tx.length = some (4, 2)) := by show _ = _; unfold fldO; rw [htg]; rfl
    rw [htg] at HT
    have HR := hide (fun W : World => refuse_yes ⟨no, bg, tx, en⟩ 4 2 W)
    go_enter Tryz.func69, Tryz.ntmps69
    go_wp2_with fail
    refine region_tail 4 (by kernel_rfl) (by kernel_rfl) ?_
    simp only [List.take_succ_cons, List.take_zero, List.drop_succ_cons, List.drop_zero]
    repeat (first | still_step | still_call (HT.out _))
    refine wpStill_nil ?_
    go_wp2_with fail
    refine (HR.out _).mono ?_
    rintro e w1 ⟨rfl, hb1⟩
    refine ⟨rfl, ?_, B0.out.drew.trans (hb1.mono B0.out.drew.size)⟩
    rw [HE.out]; rfl
  · rw [htg] at HT
    have HR := hide (fun W : World => refuse_no ⟨no, bg, tx, en⟩ 4 2 W)
    have HP := hide (fun W : World => Tryz.strings_HasPrefix ⟨rest.toArray⟩ ⟨#[58]⟩ W)
    have HPE : Hid (Lib.hasPrefix (⟨rest.toArray⟩ : ByteArray).data.toList (⟨#[58]⟩ : ByteArray).data.toList = hdB rest) := hide (hasPrefix_hd rest)
    rw [HPE.out] at HP
    go_enter Tryz.func69, Tryz.ntmps69
    go_wp2_with fail
    refine region_tail 4 (by kernel_rfl) (by kernel_rfl) ?_
    simp only [List.take_succ_cons, List.take_zero, List.drop_succ_cons, List.drop_zero]
    repeat (first | still_step | still_call (HT.out _))
    refine wpStill_nil ?_
    go_wp2_with fail
    refine (HR.out _).mono ?_
    rintro e w1 ⟨rfl, hb1⟩
    have B1 := hide (B0.out.drew.trans (hb1.mono B0.out.drew.size))
    have X1 := hide (X0.out.drew.later hb1)
    have HIT : Hid (Ix w1 (w.heap.size + 1) ⟨[], [], [], []⟩ (.slice none 0 0)) := hide ((hb1.block (w.heap.size + 1) (by simp)).trans (alloc2_newq w _ _))
    clear hb1 c0 c1 c2 c3
    have c0 := X1.out.num
    have c1 := X1.out.beg
    have c2 := X1.out.text
    have c3 := X1.out.ends
    dsimp only at c0 c1 c2 c3
    go_wp2_with fail
    refine (HP.out _).mono ?_
    rintro e w2 ⟨rfl, rfl⟩
    cases hhd : hdB rest
    · have HE : Hid (fldO tag rest tx.length = none) := by show _ = _; unfold fldO; rw [htg, hhd]; rfl
      have HI : Hid (fldI tag rest = ⟨tag, [], rest, []⟩) := by show _ = _; unfold fldI; rw [hhd]; rfl
      go_wp2_with (refine wpList_store_row rfl 25 (.tmp 6) _ rfl (w.heap.size + 1) (iC ⟨tag, [], rest, []⟩ (.slice none 0 0)) rfl rfl _ _ HIT.out Tryz.sizeItm rfl (iC_one _ _ _ _) ?_)
      (try simp only [Exit.inBlock, Exit.then])
      refine bodyPost_ret (v := .agg (iC ⟨tag, [], rest, []⟩ (.slice none 0 0))) ?_ rfl ⟨?_, below_setRow B1.out (by omega) _⟩
      · exact results_cell_row rfl _ _ (w.heap.size + 1) 25 (iC ⟨tag, [], rest, []⟩ (.slice none 0 0)) (0, 0) _ rfl (setRow_heap _ _ _ _ _ _ HIT.out) Tryz.underlying25 rfl Tryz.sizeItm
      · rw [HE.out, HI.out]; rfl
    · have hrl : 1 ≤ rest.length := by
        cases rest with
        | nil => simp [hdB] at hhd
        | cons a r => simp
      have HC := hide (fun (W : World) (hW : Below w.heap.size w W) => cut_any (rest.drop 1) [47, 47] W (by rw [List.length_drop]; omega) (HM.out.later hW))
      have HCL := hide (cut_len (rest.drop 1) [47, 47])
      have HFO : Hid (fldO tag rest tx.length = if !(Lib.cut (rest.drop 1) [47, 47]).2.2 || !qualB (Lib.cut (rest.drop 1) [47, 47]).1 then some (4, (tx.length : Int) - rest.length + 2) else none) := by show _ = _; unfold fldO; rw [htg, hhd]; rfl
      have HFI : Hid (fldI tag rest = ⟨tag, (Lib.cut (rest.drop 1) [47, 47]).1, (Lib.cut (rest.drop 1) [47, 47]).2.1, []⟩) := by show _ = _; unfold fldI; rw [hhd]; rfl
      have HDL : Hid ((rest.drop 1).length ≤ 1048576) := by show _ ≤ _; rw [List.length_drop]; omega
      have hds := bytes_from rest 1
      generalize rest.drop 1 = rd at *
      generalize hcu : Lib.cut rd [47, 47] = cu at *
      obtain ⟨qu, te, fo⟩ := cu
      dsimp only at HC HCL HFO HFI
      go_wp2_with fail
      refine (HC.out _ B1.out).mono ?_
      rintro e w3 ⟨rfl, hb3⟩
      have B3 := hide (B1.out.trans (hb3.mono B1.out.size))
      have X3 := hide (X1.out.later hb3)
      have HIT := hide (HIT.out.later hb3)
      clear hb3 c0 c1 c2 c3 HP HPE HC hds
      have c0 := X3.out.num
      have c1 := X3.out.beg
      have c2 := X3.out.text
      have c3 := X3.out.ends
      dsimp only at c0 c1 c2 c3
      have HQ := hide (fun W : World => tIsQual_any qu W (by have := HCL.out.1; have := HDL.out; omega))
      cases fo
      · have HE : Hid (fldO tag rest tx.length = some (4, (tx.length : Int) - rest.length + 2)) := by show _ = _; rw [HFO.out]; rfl
        have HR5 := hide (fun W : World => refuse_yes ⟨no, bg, tx, en⟩ 4 ((tx.length : Int) - rest.length + 2) W)
        go_wp2_with fail
        refine region_tail 15 (by kernel_rfl) (by kernel_rfl) ?_
        simp only [List.take_succ_cons, List.take_zero, List.drop_succ_cons, List.drop_zero]
        repeat (first | still_step | still_call (HQ.out _))
        refine wpStill_nil ?_
        go_wp2_with fail
        refine (HR5.out _).mono ?_
        rintro e w5 ⟨rfl, hb5⟩
        refine ⟨rfl, ?_, B3.out.drew.trans (hb5.mono B3.out.drew.size)⟩
        rw [HE.out]; rfl
      · cases hqb : qualB qu
        · have HE : Hid (fldO tag rest tx.length = some (4, (tx.length : Int) - rest.length + 2)) := by show _ = _; rw [HFO.out, hqb]; rfl
          have HR5 := hide (fun W : World => refuse_yes ⟨no, bg, tx, en⟩ 4 ((tx.length : Int) - rest.length + 2) W)
          rw [hqb] at HQ
          go_wp2_with fail
          refine region_tail 15 (by kernel_rfl) (by kernel_rfl) ?_
          simp only [List.take_succ_cons, List.take_zero, List.drop_succ_cons, List.drop_zero]
          repeat (first | still_step | still_call (HQ.out _))
          refine wpStill_nil ?_
          go_wp2_with fail
          refine (HR5.out _).mono ?_
          rintro e w5 ⟨rfl, hb5⟩
          refine ⟨rfl, ?_, B3.out.drew.trans (hb5.mono B3.out.drew.size)⟩
          rw [HE.out]; rfl
        · have HE : Hid (fldO tag rest tx.length = none) := by show _ = _; rw [HFO.out, hqb]; rfl
          have HR5 := hide (fun W : World => refuse_no ⟨no, bg, tx, en⟩ 4 ((tx.length : Int) - rest.length + 2) W)
          rw [hqb] at HQ
          go_wp2_with fail
          refine region_tail 15 (by kernel_rfl) (by kernel_rfl) ?_
          simp only [List.take_succ_cons, List.take_zero, List.drop_succ_cons, List.drop_zero]
          repeat (first | still_step | still_call (HQ.out _))
          refine wpStill_nil ?_
          go_wp2_with fail
          refine (HR5.out _).mono ?_
          rintro e w5 ⟨rfl, hb5⟩
          have B5 := hide (B3.out.drew.trans (hb5.mono B3.out.drew.size))
          have HIT : Hid (Ix w5 (w.heap.size + 1) ⟨[], [], [], []⟩ (.slice none 0 0)) := hide ((hb5.block (w.heap.size + 1) HIT.out.lt).trans HIT.out)
          clear hb5
          go_wp2_with (refine wpList_store_row rfl 25 (.tmp 6) _ rfl (w.heap.size + 1) (iC ⟨tag, qu, te, []⟩ (.slice none 0 0)) rfl rfl _ _ HIT.out Tryz.sizeItm rfl (iC_one _ _ _ _) ?_)
          (try simp only [Exit.inBlock, Exit.then])
          refine bodyPost_ret (v := .agg (iC ⟨tag, qu, te, []⟩ (.slice none 0 0))) ?_ rfl ⟨?_, below_setRow B5.out (by omega) _⟩
          · exact results_cell_row rfl _ _ (w.heap.size + 1) 25 (iC ⟨tag, qu, te, []⟩ (.slice none 0 0)) (0, 0) _ rfl (setRow_heap _ _ _ _ _ _ HIT.out) Tryz.underlying25 rfl Tryz.sizeItm
          · rw [HE.out, HFI.out]; rfl
end Go.Proofs.YtpkgaidnpooahaaGreatDoor
namespace Go.Proofs.YtpkgaidnpooahaaGreatDoor
open Go.RowKit

def Bk (w : World) (q : Nat) (cs : Array Value) (t : TypeId) : Prop := w.heap[q]? = some (.cells cs t (0, 0))
theorem Bk.lt {w : World} {q : Nat} {cs : Array Value} {t : TypeId} (h : Bk w q cs t) : q < w.heap.size := (Array.getElem?_eq_some_iff.1 h).1
theorem Bk.later {w w' : World} {q : Nat} {cs : Array Value} {t : TypeId} (h : Bk w q cs t) (hb : Below w.heap.size w w') : Bk w' q cs t := (hb.block q h.lt).trans h
theorem Bk.alloc {w : World} {q : Nat} {cs : Array Value} {t : TypeId} (h : Bk w q cs t) (o : Obj) : Bk (w.alloc o) q cs t := alloc_block h
theorem Bk.other {w : World} {q : Nat} {cs : Array Value} {t : TypeId} (h : Bk w q cs t) {p : Nat} (i : Nat) (u : Value) (hne : q ≠ p) : Bk (w.setCell ⟨p, i, none⟩ u) q cs t := (Below.heap_setCell w ⟨p, i, none⟩ u q hne).trans h
theorem Bk.cell {w : World} {q : Nat} {cs : Array Value} {t : TypeId} (h : Bk w q cs t) (j : Nat) : w.cell? ⟨q, j, none⟩ = cs[j]? := cell_of_row _ _ j _ _ _ h
theorem Bk.free {w : World} {q : Nat} {cs : Array Value} {t : TypeId} (h : Bk w q cs t) (j : Nat) : w.frozen? ⟨q, j, none⟩ = false := frozen_of_row _ _ j _ _ h
theorem Bk.set1 {w : World} {q : Nat} {u v : Value} {t : TypeId} (h : Bk w q #[u] t) : Bk (w.setCell ⟨q, 0, none⟩ v) q #[v] t := by
  unfold Bk at h ⊢
  simp only [World.setCell, Array.getElem?_modify, if_true]
  rw [h]; rfl
/-- Nothing but two blocks has changed. -/
structure Mv (p q : Nat) (w w' : World) : Prop where
  os : w'.os = w.os
  tape : w'.tape = w.tape
  output : w'.output = w.output
  size : w.heap.size ≤ w'.heap.size
  block : ∀ k, k < w.heap.size → k ≠ p → k ≠ q → w'.heap[k]? = w.heap[k]?
theorem Mv.of {p q : Nat} {w w' : World} (h : Below w.heap.size w w') : Mv p q w w' := ⟨h.os, h.tape, h.output, h.size, fun k hk _ _ => h.block k hk⟩
theorem Mv.refl (p q : Nat) (w : World) : Mv p q w w := Mv.of (Below.refl _ _)
theorem Mv.trans {p q : Nat} {a b c : World} (h : Mv p q a b) (k : Mv p q b c) : Mv p q a c :=
  ⟨k.os.trans h.os, k.tape.trans h.tape, k.output.trans h.output, Nat.le_trans h.size k.size, fun i hi h1 h2 => (k.block i (Nat.lt_of_lt_of_le hi h.size) h1 h2).trans (h.block i hi h1 h2)⟩
theorem Mv.below {p q B : Nat} {a b c : World} (h : Below B a b) (k : Mv p q b c) (hB : B ≤ b.heap.size) (hp : B ≤ p) (hq : B ≤ q) : Below B a c :=
  h.trans ⟨k.os, k.tape, k.output, k.size, fun i hi => k.block i (by omega) (by omega) (by omega)⟩
theorem Mv.set {p q : Nat} {a b : World} (h : Mv p q a b) {r : Nat} (hr : r = p ∨ r = q) (u : Value) : Mv p q a (b.setCell ⟨r, 0, none⟩ u) :=
  ⟨h.os, h.tape, h.output, by simpa [World.setCell] using h.size, fun k hk h1 h2 => (Below.heap_setCell b ⟨r, 0, none⟩ u k (by rcases hr with e | e <;> subst e <;> assumption)).trans (h.block k hk h1 h2)⟩
theorem Bk.mv {w w' : World} {p q g : Nat} {cs : Array Value} {t : TypeId} (h : Bk w g cs t) (hm : Mv p q w w') (h1 : g ≠ p) (h2 : g ≠ q) : Bk w' g cs t := (hm.block g h.lt h1 h2).trans h
theorem ML.mv {w w' : World} {p q : Nat} (h : ML w) (hm : Mv p q w w') (h1 : 1 ≠ p) (h2 : 1 ≠ q) : ML w' := by
  obtain ⟨m, hc⟩ := h
  refine ⟨m, ?_⟩
  rw [← hc]; unfold World.cell?; rw [hm.block _ (World.block_lt_of_cell? w _ hc) h1 h2]
/-- Where the reading of a text stands: its line's number, its place. -/
structure NS (w : World) (p t q : Nat) (T : List UInt8) (n b : Nat) : Prop where
  beg : Bk w p #[.int .i64 b] 3
  txt : Bk w t #[.string ⟨T.toArray⟩] 9
  num : Bk w q #[.int .i64 n] 3
structure Apt (p t q : Nat) : Prop where
  pt : p ≠ t
  pq : p ≠ q
  tq : t ≠ q
  mp : 1 ≠ p
  mq : 1 ≠ q
theorem NS.later {w w' : World} {p t q : Nat} {T : List UInt8} {n b : Nat} (h : NS w p t q T n b) (hb : Below w.heap.size w w') : NS w' p t q T n b := ⟨h.beg.later hb, h.txt.later hb, h.num.later hb⟩
theorem NS.alloc {w : World} {p t q : Nat} {T : List UInt8} {n b : Nat} (h : NS w p t q T n b) (o : Obj) : NS (w.alloc o) p t q T n b := h.later ((Below.refl _ _).alloc (Nat.le_refl _) _)
def ownL (T : List UInt8) (b : Nat) : List UInt8 := (Lib.cut (T.drop b) [10]).1
def endL (T : List UInt8) (b : Nat) : Bool := (Lib.cut (T.drop b) [10]).2.2
def nxtB (T : List UInt8) (b : Nat) : Nat := min (b + (ownL T b).length + 1) T.length
theorem Tryz.sizeLine : (Tryz.prog.info? 98).map (·.size) = some 4 := by kernel_rfl
theorem lnC_one (n : Lin) : (lnC n).all (·.oneCell') = true := by simp [lnC, Value.oneCell']
def lnZ : Lin := ⟨0, 0, [], false⟩
theorem ret_cell_tmp {P : Program} {fn : Func} {p u : Tmp} {ty : TypeId} (h : fn.results = #[.cell p ty, .tmp u]) (tmps : Array Value) (w : World) (g : Nat) (t : TypeId) (cs : Array Value) (fr : Nat × Nat) (d : TypeDesc) (v : Value)
    (hp : tmps.getD p undef = .pointer (some ⟨g, 0, none⟩)) (hv : tmps.getD u undef = v) (hg : w.heap[g]? = some (.cells cs t fr))
    (hu : P.underlying ty = some d) (hd : (match d with | .struct _ | .array _ _ => true | _ => false) = true) (hi : (P.info? ty).map (·.size) = some cs.size) :
    (results fn tmps).run P w = .ok (.tuple #[.agg cs, v]) w := by
  rw [results_cell_tmp h, hp, hv]
  simp [asAddr, Result.andThen, run_loadVar_row w g t ty cs fr d hg hu hd hi]
set_option maxRecDepth 100000 in
set_option maxHeartbeats 4000000 in
theorem next_end (p t q : Nat) (T : List UInt8) (n : Nat) (w : World) (h : NS w p t q T n T.length) :
    Calls Tryz.prog 63 #[.pointer (some ⟨p, 0, none⟩), .pointer (some ⟨t, 0, none⟩), .pointer (some ⟨q, 0, none⟩)] w fun e w' => e = .returned (.tuple #[.agg (lnC ⟨n, 0, [], false⟩), .bool false]) ∧ Below w.heap.size w w' := by
  have X0 := hide (Lx.new w lnZ)
  have B0 := hide ((Below.refl w.heap.size w).alloc (Nat.le_refl _) (.cells (lnC lnZ) 98))
  have N0 := hide (h.alloc (.cells (lnC lnZ) 98))
  have c0 := N0.out.beg.cell 0
  have c1 := N0.out.txt.cell 0
  have c2 := N0.out.num.cell 0
  simp only [List.getElem?_toArray, List.getElem?_cons_zero] at c0 c1 c2
  unfold lnC lnZ at c0 c1 c2
  clear h
  go_enter Tryz.func63, Tryz.ntmps63
  go_wp2_with (refine wpList_store_row rfl 98 (.tmp 3) _ rfl w.heap.size (lnC ⟨n, 0, [], false⟩) rfl rfl _ _ X0.out Tryz.sizeLine rfl (lnC_one _) ?_)
  (try simp only [Exit.inBlock, Exit.then])
  refine bodyPost_ret (v := .tuple #[.agg (lnC ⟨n, 0, [], false⟩), .bool false]) ?_ rfl ⟨rfl, below_setRow B0.out (Nat.le_refl _) _⟩
  exact ret_cell_tmp rfl _ _ w.heap.size 98 (lnC ⟨n, 0, [], false⟩) (0, 0) _ _ rfl rfl (setRow_heap _ _ _ _ _ _ X0.out) Tryz.underlying98 rfl Tryz.sizeLine
set_option maxRecDepth 100000 in
set_option maxHeartbeats 8000000 in
theorem next_line (p t q : Nat) (T : List UInt8) (n b : Nat) (w : World) (ha : Apt p t q) (h : NS w p t q T n b) (hlt : b < T.length) (hl : T.length ≤ 1048576) (hn : n ≤ 2097152) (hm : ML w) :
    Calls Tryz.prog 63 #[.pointer (some ⟨p, 0, none⟩), .pointer (some ⟨t, 0, none⟩), .pointer (some ⟨q, 0, none⟩)] w fun e w' => e = .returned (.tuple #[.agg (lnC ⟨n, b, ownL T b, endL T b⟩), .bool true]) ∧ NS w' p t q T (n + 1) (nxtB T b) ∧ Mv p q w w' := by
  have X0 := hide (Lx.new w lnZ)
  have B0 := hide ((Below.refl w.heap.size w).alloc (Nat.le_refl _) (.cells (lnC lnZ) 98))
  have N0 := hide (h.alloc (.cells (lnC lnZ) 98))
  have HPL := hide h.beg.lt
  have HQL := hide h.num.lt
  have HTL := hide h.txt.lt
  have HA := hide ha
  have HC := hide (cut_any (T.drop b) [10] (w.alloc (.cells (lnC lnZ) 98)) (by rw [List.length_drop]; omega) (hm.later B0.out))
  have HCL := hide (cut_len (T.drop b) [10])
  have HDL : Hid ((T.drop b).length = T.length - b) := hide List.length_drop
  have HOW : Hid ((Lib.cut (T.drop b) [10]).1 = ownL T b) := hide rfl
  have HEN : Hid ((Lib.cut (T.drop b) [10]).2.2 = endL T b) := hide rfl
  have HNX : Hid (nxtB T b = min (b + (ownL T b).length + 1) T.length) := hide rfl
  rw [HOW.out, HEN.out] at HC
  rw [HOW.out] at HCL
  have hds := bytes_from T b
  generalize (Lib.cut (T.drop b) [10]).2.1 = aft at *
  generalize ownL T b = ow at *
  generalize endL T b = en at *
  generalize nxtB T b = nb at *
  generalize T.drop b = rd at *
  have how : ow.length ≤ 1048576 := by have := HCL.out.1; have := HDL.out; omega
  have hne : ¬ b = T.length := by omega
  have hneI : ((b : Int) == (T.length : Int)) = false := beq_eq_false_iff_ne.2 (by omega)
  have c0 := N0.out.beg.cell 0
  have c1 := N0.out.txt.cell 0
  have c2 := N0.out.num.cell 0
  simp only [List.getElem?_toArray, List.getElem?_cons_zero] at c0 c1 c2
  unfold lnC lnZ at c0 c1 c2
  clear h hm ha
  go_enter Tryz.func63, Tryz.ntmps63
  go_wp2_with fail
  refine HC.out.mono ?_
  rintro e w1 ⟨rfl, hb1⟩
  have B1 := hide (B0.out.trans (hb1.mono B0.out.size))
  have X1 := hide (X0.out.later hb1)
  have N1 := hide (N0.out.later hb1)
  have HS1 : Hid (w.heap.size + 1 ≤ w1.heap.size) := by show _ ≤ _; have := hb1.size; simp at this; omega
  clear hb1 c0 c1 c2 HC
  have c0 := N1.out.beg.cell 0
  have c1 := N1.out.txt.cell 0
  have c2 := N1.out.num.cell 0
  simp only [List.getElem?_toArray, List.getElem?_cons_zero] at c0 c1 c2
  have z0 := N1.out.beg.free 0
  have z2 := N1.out.num.free 0
  have hp1 : p < w1.heap.size := N1.out.beg.lt
  have hq1 : q < w1.heap.size := N1.out.num.lt
  have ht1 : t < w1.heap.size := N1.out.txt.lt
  have apq : p ≠ q := HA.out.pq
  have apt : p ≠ t := HA.out.pt
  have atq : t ≠ q := HA.out.tq
  have apq' : q ≠ p := Ne.symm apq
  have apt' : t ≠ p := Ne.symm apt
  have atq' : q ≠ t := Ne.symm atq
  have HMN : Hid (min ((b : Int) + (ow.length : Int) + 1) (T.length : Int) = (nb : Int)) := by show _ = _; rw [HNX.out]; omega
  have XF : Hid (Lx (((w1.setCell ⟨q, 0, none⟩ (.int .i64 ((n : Int) + 1))).setCell ⟨p, 0, none⟩ (.int .i64 (min ((b : Int) + (ow.length : Int) + 1) (T.length : Int)))).alloc (.cells #[.int .i64 (n : Int), .int .i64 (b : Int), .string ⟨ow.toArray⟩, .bool en] 98)) w.heap.size lnZ) := hide (Bk.alloc (Bk.other (Bk.other X1.out 0 _ (by have := HQL.out; omega)) 0 _ (by have := HPL.out; omega)) _)
  go_wp2_with (refine wpList_store_row rfl 98 (.tmp 3) _ rfl w.heap.size (lnC ⟨n, b, ow, en⟩) rfl rfl _ _ XF.out Tryz.sizeLine rfl (lnC_one _) ?_)
  (try simp only [Exit.inBlock, Exit.then])
  have hmv : Mv p q w (((w1.setCell ⟨q, 0, none⟩ (.int .i64 ((n : Int) + 1))).setCell ⟨p, 0, none⟩ (.int .i64 (min ((b : Int) + (ow.length : Int) + 1) (T.length : Int)))).alloc (.cells #[.int .i64 (n : Int), .int .i64 (b : Int), .string ⟨ow.toArray⟩, .bool en] 98)) := (((Mv.of B1.out).set (.inr rfl) _).set (.inl rfl) _).trans (Mv.of ((Below.refl _ _).alloc (Nat.le_refl _) _))
  have hsr : ∀ (W : World) (k : Nat), k ≠ w.heap.size → (W.setRow w.heap.size (lnC ⟨n, b, ow, en⟩)).heap[k]? = W.heap[k]? := fun W k hk => by
    by_cases h : k < w.heap.size
    · exact (below_setRow (Below.refl w.heap.size W) (Nat.le_refl _) (lnC ⟨n, b, ow, en⟩)).block k h
    · exact setRow_other _ _ _ _ hk
  refine bodyPost_ret (v := .tuple #[.agg (lnC ⟨n, b, ow, en⟩), .bool true]) ?_ rfl ⟨rfl, ⟨?_, ?_, ?_⟩, ?_⟩
  · exact ret_cell_tmp rfl _ _ w.heap.size 98 (lnC ⟨n, b, ow, en⟩) (0, 0) _ _ rfl rfl (setRow_heap _ _ _ _ _ _ XF.out) Tryz.underlying98 rfl Tryz.sizeLine
  · rw [← HMN.out]; exact (hsr _ p (by have := HPL.out; omega)).trans (Bk.alloc (Bk.set1 (Bk.other N1.out.beg 0 _ apq)) _)
  · exact (hsr _ t (by have := HTL.out; omega)).trans (Bk.alloc (Bk.other (Bk.other N1.out.txt 0 _ atq) 0 _ apt') _)
  · rw [show ((n + 1 : Nat) : Int) = (n : Int) + 1 by omega]; exact (hsr _ q (by have := HQL.out; omega)).trans (Bk.alloc (Bk.other (Bk.set1 N1.out.num) 0 _ apq') _)
  · exact ⟨hmv.os, hmv.tape, hmv.output, by simpa [World.setRow] using hmv.size, fun k hk h1 h2 => (hsr _ k (by omega)).trans (hmv.block k hk h1 h2)⟩
end Go.Proofs.YtpkgaidnpooahaaGreatDoor
