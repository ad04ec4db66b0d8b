/-
  My own text: a field's first line.
-/
import Derived.Test.YtklhbhhkooddoaaQ2
import Derived.StillTailTactics
import Derived.Laws.Tables
import Derived.Laws.CopyOwn
namespace Go.Proofs.Ytklhbhhkooddoaa
open Go.RowKit

/-- A region that draws: the first operations leave the world alone, the rest go one behind the other. -/
theorem region_tail {P : Program} {id : Nat} {Q : Exit → Act → World → Prop} {a : Act} {w : World} {l : List Oper} (n : Nat) (hm : P.follows .mixedOrders = true) (hB : Region.lexTailB .any l.toArray n = true)
    (h : wpStill P l.toArray w.drew (fun a' => wpList P l.toArray Q (l.drop n) a' w.drew) (l.take n) a) : (Code.region id l.toArray true).wp P Q a w := wp_region_still_tail n hm hB h
theorem alloc2_newq (w : World) (a b : Obj) : ((w.alloc a).alloc b).heap[w.heap.size + 1]? = some b := by
  have := alloc_new (w.alloc a) b
  simpa using this
theorem Lx.drew {w : World} {g : Nat} {n : Lin} (h : Lx w g n) : Lx w.drew g n := h
/-- The library's own variable holds some number. -/
def ML (w : World) : Prop := ∃ m : Int, w.cell? ⟨0, 0, none⟩ = some (.int .i64 m)
theorem ML.later {w w' : World} (h : ML w) (hb : Below w.heap.size w w') : ML w' := by
  obtain ⟨m, hm⟩ := h
  exact ⟨m, (hb.cell (p := ⟨0, 0, none⟩) (World.block_lt_of_cell? w _ hm)).trans hm⟩
theorem cut_any (s sep : List UInt8) (w : World) (hs : s.length ≤ 1048576) (hm : ML w) :
    Calls Try.prog 46 #[.string ⟨s.toArray⟩, .string ⟨sep.toArray⟩] w fun e w' => e = .returned (.tuple #[.string ⟨(Lib.cut s sep).1.toArray⟩, .string ⟨(Lib.cut s sep).2.1.toArray⟩, .bool (Lib.cut s sep).2.2]) ∧ Below w.heap.size w w' := by
  obtain ⟨m, hm⟩ := hm
  refine (Try.strings_Cut ⟨s.toArray⟩ ⟨sep.toArray⟩ m w (by rw [bytes_size]; omega) hm).mono ?_
  rintro e w' ⟨rfl, q, rfl⟩
  exact ⟨by simp, below_dN (Below.refl _ _) q⟩
theorem bytes_from (l : List UInt8) (a : Nat) : (⟨l.toArray⟩ : ByteArray).extract a l.length = ⟨(l.drop a).toArray⟩ := by
  apply ByteArray.ext
  simp
  rw [List.take_of_length_le (by rw [List.length_drop]; omega)]
theorem iC_one (i : Itm) (a : Option Addr) (n c : Nat) : (iC i (.slice a n c)).all (·.oneCell') = true := by simp [iC, Value.oneCell']
theorem cut_len (s sep : List UInt8) : (Lib.cut s sep).1.length ≤ s.length ∧ (Lib.cut s sep).2.1.length ≤ s.length := by
  unfold Lib.cut
  split
  · exact ⟨by rw [List.length_take]; omega, by rw [List.length_drop]; omega⟩
  · exact ⟨Nat.le_refl _, by simp⟩
def fldO (tag rest : List UInt8) (len : Nat) : Option (Int × Int) := if !tagB tag then some (4, 2) else if !hdB rest then none else if !(Lib.cut (rest.drop 1) [47, 47]).2.2 || !qualB (Lib.cut (rest.drop 1) [47, 47]).1 then some (4, (len : Int) - rest.length + 2) else none
def fldI (tag rest : List UInt8) : Itm := if !hdB rest then ⟨tag, [], rest, []⟩ else ⟨tag, (Lib.cut (rest.drop 1) [47, 47]).1, (Lib.cut (rest.drop 1) [47, 47]).2.1, []⟩
set_option maxRecDepth 100000 in
set_option maxHeartbeats 4000000 in
theorem field_line (n : Lin) (tag rest : List UInt8) (w : World) (hl : n.tx.length ≤ 1048576) (ht : tag.length ≤ 1048576) (hr : rest.length ≤ 1048576) (hm : ML w) :
    Calls Try.prog 51 #[.agg (lnC n), .string ⟨tag.toArray⟩, .string ⟨rest.toArray⟩] w fun e w' => e = ends (fldO tag rest n.tx.length) n.no (.agg (iC (fldI tag rest) (.slice none 0 0))) ∧ Below w.heap.size w w' := by
  obtain ⟨no, bg, tx, en⟩ := n
  dsimp only at hl
  have X0 := hide ((Lx.new w ⟨no, bg, tx, en⟩).alloc (.cells #[.string ⟨#[]⟩, .string ⟨#[]⟩, .string ⟨#[]⟩, .string ⟨#[]⟩, .slice none 0 0] 26))
  have B0 := hide (((Below.refl w.heap.size w).alloc (Nat.le_refl _) (.cells (lnC ⟨no, bg, tx, en⟩) 78)).alloc (by simp) (.cells #[.string ⟨#[]⟩, .string ⟨#[]⟩, .string ⟨#[]⟩, .string ⟨#[]⟩, .slice none 0 0] 26))
  have HM := hide hm
  have c0 := X0.out.num
  have c1 := X0.out.beg
  have c2 := X0.out.text
  have c3 := X0.out.ends
  dsimp only at c0 c1 c2 c3
  have HT := hide (fun W : World => tIsTag_any tag W (by omega))
  clear hm
  cases htg : tagB tag
  · have HE : Hid (fldO tag rest tx.length = some (4, 2)) := by show _ = _; unfold fldO; rw [htg]; rfl
    rw [htg] at HT
    have HR := hide (fun W : World => refuse_yes ⟨no, bg, tx, en⟩ 4 2 W)
    go_enter Try.func51, Try.ntmps51
    go_wp2_with fail
    refine region_tail 4 (by kernel_rfl) (by kernel_rfl) ?_
    simp only [List.take_succ_cons, List.take_zero, List.drop_succ_cons, List.drop_zero]
    repeat (first | still_step | still_call (HT.out _))
    refine wpStill_nil ?_
    go_wp2_with fail
    refine (HR.out _).mono ?_
    rintro e w1 ⟨rfl, hb1⟩
    refine ⟨rfl, ?_, B0.out.drew.trans (hb1.mono B0.out.drew.size)⟩
    rw [HE.out]; rfl
  · rw [htg] at HT
    have HR := hide (fun W : World => refuse_no ⟨no, bg, tx, en⟩ 4 2 W)
    have HP := hide (fun W : World => Try.strings_HasPrefix ⟨rest.toArray⟩ ⟨#[58]⟩ W)
    have HPE : Hid (Lib.hasPrefix (⟨rest.toArray⟩ : ByteArray).data.toList (⟨#[58]⟩ : ByteArray).data.toList = hdB rest) := hide (hasPrefix_hd rest)
    rw [HPE.out] at HP
    go_enter Try.func51, Try.ntmps51
    go_wp2_with fail
    refine region_tail 4 (by kernel_rfl) (by kernel_rfl) ?_
    simp only [List.take_succ_cons, List.take_zero, List.drop_succ_cons, List.drop_zero]
    repeat (first | still_step | still_call (HT.out _))
    refine wpStill_nil ?_
    go_wp2_with fail
    refine (HR.out _).mono ?_
    rintro e w1 ⟨rfl, hb1⟩
    have B1 := hide (B0.out.drew.trans (hb1.mono B0.out.drew.size))
    have X1 := hide (X0.out.drew.later hb1)
    have HIT : Hid (Ix w1 (w.heap.size + 1) ⟨[], [], [], []⟩ (.slice none 0 0)) := hide ((hb1.block (w.heap.size + 1) (by simp)).trans (alloc2_newq w _ _))
    clear hb1 c0 c1 c2 c3
    have c0 := X1.out.num
    have c1 := X1.out.beg
    have c2 := X1.out.text
    have c3 := X1.out.ends
    dsimp only at c0 c1 c2 c3
    go_wp2_with fail
    refine (HP.out _).mono ?_
    rintro e w2 ⟨rfl, rfl⟩
    cases hhd : hdB rest
    · have HE : Hid (fldO tag rest tx.length = none) := by show _ = _; unfold fldO; rw [htg, hhd]; rfl
      have HI : Hid (fldI tag rest = ⟨tag, [], rest, []⟩) := by show _ = _; unfold fldI; rw [hhd]; rfl
      go_wp2_with (refine wpList_store_row rfl 26 (.tmp 6) _ rfl (w.heap.size + 1) (iC ⟨tag, [], rest, []⟩ (.slice none 0 0)) rfl rfl _ _ HIT.out Try.sizeItm rfl (iC_one _ _ _ _) ?_)
      (try simp only [Exit.inBlock, Exit.then])
      refine bodyPost_ret (v := .agg (iC ⟨tag, [], rest, []⟩ (.slice none 0 0))) ?_ rfl ⟨?_, below_setRow B1.out (by omega) _⟩
      · exact results_cell_row rfl _ _ (w.heap.size + 1) 26 (iC ⟨tag, [], rest, []⟩ (.slice none 0 0)) (0, 0) _ rfl (setRow_heap _ _ _ _ _ _ HIT.out) Try.underlying26 rfl Try.sizeItm
      · rw [HE.out, HI.out]; rfl
    · have hrl : 1 ≤ rest.length := by
        cases rest with
        | nil => simp [hdB] at hhd
        | cons a r => simp
      have HC := hide (fun (W : World) (hW : Below w.heap.size w W) => cut_any (rest.drop 1) [47, 47] W (by rw [List.length_drop]; omega) (HM.out.later hW))
      have HCL := hide (cut_len (rest.drop 1) [47, 47])
      have HFO : Hid (fldO tag rest tx.length = if !(Lib.cut (rest.drop 1) [47, 47]).2.2 || !qualB (Lib.cut (rest.drop 1) [47, 47]).1 then some (4, (tx.length : Int) - rest.length + 2) else none) := by show _ = _; unfold fldO; rw [htg, hhd]; rfl
      have HFI : Hid (fldI tag rest = ⟨tag, (Lib.cut (rest.drop 1) [47, 47]).1, (Lib.cut (rest.drop 1) [47, 47]).2.1, []⟩) := by show _ = _; unfold fldI; rw [hhd]; rfl
      have HDL : Hid ((rest.drop 1).length ≤ 1048576) := by show _ ≤ _; rw [List.length_drop]; omega
      have hds := bytes_from rest 1
      generalize rest.drop 1 = rd at *
      generalize hcu : Lib.cut rd [47, 47] = cu at *
      obtain ⟨qu, te, fo⟩ := cu
      dsimp only at HC HCL HFO HFI
      go_wp2_with fail
      refine (HC.out _ B1.out).mono ?_
      rintro e w3 ⟨rfl, hb3⟩
      have B3 := hide (B1.out.trans (hb3.mono B1.out.size))
      have X3 := hide (X1.out.later hb3)
      have HIT := hide (HIT.out.later hb3)
      clear hb3 c0 c1 c2 c3 HP HPE HC hds
      have c0 := X3.out.num
      have c1 := X3.out.beg
      have c2 := X3.out.text
      have c3 := X3.out.ends
      dsimp only at c0 c1 c2 c3
      have HQ := hide (fun W : World => tIsQual_any qu W (by have := HCL.out.1; have := HDL.out; omega))
      cases fo
      · have HE : Hid (fldO tag rest tx.length = some (4, (tx.length : Int) - rest.length + 2)) := by show _ = _; rw [HFO.out]; rfl
        have HR5 := hide (fun W : World => refuse_yes ⟨no, bg, tx, en⟩ 4 ((tx.length : Int) - rest.length + 2) W)
        go_wp2_with fail
        refine region_tail 15 (by kernel_rfl) (by kernel_rfl) ?_
        simp only [List.take_succ_cons, List.take_zero, List.drop_succ_cons, List.drop_zero]
        repeat (first | still_step | still_call (HQ.out _))
        refine wpStill_nil ?_
        go_wp2_with fail
        refine (HR5.out _).mono ?_
        rintro e w5 ⟨rfl, hb5⟩
        refine ⟨rfl, ?_, B3.out.drew.trans (hb5.mono B3.out.drew.size)⟩
        rw [HE.out]; rfl
      · cases hqb : qualB qu
        · have HE : Hid (fldO tag rest tx.length = some (4, (tx.length : Int) - rest.length + 2)) := by show _ = _; rw [HFO.out, hqb]; rfl
          have HR5 := hide (fun W : World => refuse_yes ⟨no, bg, tx, en⟩ 4 ((tx.length : Int) - rest.length + 2) W)
          rw [hqb] at HQ
          go_wp2_with fail
          refine region_tail 15 (by kernel_rfl) (by kernel_rfl) ?_
          simp only [List.take_succ_cons, List.take_zero, List.drop_succ_cons, List.drop_zero]
          repeat (first | still_step | still_call (HQ.out _))
          refine wpStill_nil ?_
          go_wp2_with fail
          refine (HR5.out _).mono ?_
          rintro e w5 ⟨rfl, hb5⟩
          refine ⟨rfl, ?_, B3.out.drew.trans (hb5.mono B3.out.drew.size)⟩
          rw [HE.out]; rfl
        · have HE : Hid (fldO tag rest tx.length = none) := by show _ = _; rw [HFO.out, hqb]; rfl
          have HR5 := hide (fun W : World => refuse_no ⟨no, bg, tx, en⟩ 4 ((tx.length : Int) - rest.length + 2) W)
          rw [hqb] at HQ
          go_wp2_with fail
          refine region_tail 15 (by kernel_rfl) (by kernel_rfl) ?_
          simp only [List.take_succ_cons, List.take_zero, List.drop_succ_cons, List.drop_zero]
          repeat (first | still_step | still_call (HQ.out _))
          refine wpStill_nil ?_
          go_wp2_with fail
          refine (HR5.out _).mono ?_
          rintro e w5 ⟨rfl, hb5⟩
          have B5 := hide (B3.out.drew.trans (hb5.mono B3.out.drew.size))
          have HIT : Hid (Ix w5 (w.heap.size + 1) ⟨[], [], [], []⟩ (.slice none 0 0)) := hide ((hb5.block (w.heap.size + 1) HIT.out.lt).trans HIT.out)
          clear hb5
          go_wp2_with (refine wpList_store_row rfl 26 (.tmp 6) _ rfl (w.heap.size + 1) (iC ⟨tag, qu, te, []⟩ (.slice none 0 0)) rfl rfl _ _ HIT.out Try.sizeItm rfl (iC_one _ _ _ _) ?_)
          (try simp only [Exit.inBlock, Exit.then])
          refine bodyPost_ret (v := .agg (iC ⟨tag, qu, te, []⟩ (.slice none 0 0))) ?_ rfl ⟨?_, below_setRow B5.out (by omega) _⟩
          · exact results_cell_row rfl _ _ (w.heap.size + 1) 26 (iC ⟨tag, qu, te, []⟩ (.slice none 0 0)) (0, 0) _ rfl (setRow_heap _ _ _ _ _ _ HIT.out) Try.underlying26 rfl Try.sizeItm
          · rw [HE.out, HFI.out]; rfl
end Go.Proofs.Ytklhbhhkooddoaa
