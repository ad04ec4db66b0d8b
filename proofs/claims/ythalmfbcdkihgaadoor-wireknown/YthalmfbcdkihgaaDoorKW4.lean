/-
  My own text: the examples of the chapter.
-/
import Derived.Test.YthalmfbcdkihgaaDoorWF2
import Derived.Test.YthalmfbcdkihgaaDoorWFra
import Derived.Lib.SlBytesConst
import Derived.OwnWalk
namespace Go.Proofs.YthalmfbcdkihgaaDoor
open Go.RowKit Go.Extern

theorem rb_heap {W : World} {g : Nat} {fz : Nat × Nat} (l : List UInt8) (h : W.heap[g]? = some (.cells (bv l).toArray 5 fz)) : RB W (.slice (some ⟨g, 0, none⟩) l.length l.length) l := by
  refine ⟨g, _, _, rfl, Nat.le_refl _, .inr ⟨0, rfl, (Array.getElem?_eq_some_iff.1 h).1, fun j c hj => ?_⟩⟩
  rw [Nat.zero_add]
  have hc : W.cell? ⟨g, j, none⟩ = (bv l).toArray[j]? := by simp [World.cell?, h]
  rw [hc]
  simpa using bv_at hj
theorem wp_make32 {w : World} {o : Oper} {a : Act} {K : Act → World → Prop} {Q : Exit → Act → World → Prop} (l c : Operand) (ho : o.op = .makeSlice 29 l c) (hl : a.eval l = .int .i64 32) (hc : a.eval c = .int .i64 32)
    (h : ∀ w', Own w' w.heap.size (.slice (some ⟨w.heap.size, 0, none⟩) 32 32) (List.replicate 32 0) → w.grownBy w' none → K (a.put o.dst (.slice (some ⟨w.heap.size, 0, none⟩) 32 32)) w') : o.wp Tryd.prog a w K Q := by
  obtain ⟨i0, hi, hz0, hz1, hz2⟩ := info_parts Tryd.infoB
  obtain ⟨w', hrun, r1, r2⟩ := run_make_full (P := Tryd.prog) w w.heap.size 29 5 i0 (.int .u8 0) 1 Tryd.underlying29 hi hz0 hz1 .i64 .i64 32 (by rw [hz2]; decide) (by decide) (Nat.le_refl _)
  have hO : Own w' w.heap.size (.slice (some ⟨w.heap.size, 0, none⟩) 32 32) (List.replicate 32 0) := by
    have e : (madeCells (Value.cells (.int .u8 0)) (32 * 1)).toList = bv (List.replicate 32 0) := by
      show (madeCells #[Value.int .u8 0] 32).toList = _
      rw [toList_madeCells_one]; rfl
    rw [e] at r1
    exact r1
  have hrun' : (Instr.makeSlice 29 (.int .i64 32) (.int .i64 32)).run Tryd.prog w = .ok (.slice (some ⟨w.heap.size, 0, none⟩) 32 32) w' := hrun
  unfold Oper.wp
  simp [execOp, ho, hl, hc, hrun', Result.andThen]
  exact h w' hO r2
theorem rb_blk {W : World} {g : Nat} (l : List UInt8) (h : Blk W g (bv l).toArray 5) : RB W (.slice (some ⟨g, 0, none⟩) l.length l.length) l := by
  refine ⟨g, _, _, rfl, Nat.le_refl _, .inr ⟨0, rfl, h.lt, fun j c hj => ?_⟩⟩
  rw [Nat.zero_add, h.cell j]
  simpa using bv_at hj
set_option maxRecDepth 100000 in
set_option maxHeartbeats 2000000 in
theorem shown_any (w : World) (hT : Tab w) (hE : ErrType w) : Calls Tryd.prog 4 #[] w fun e w' => e = .returned (.bool true) ∧ Below w.heap.size w w' := by
  have HT := hide hT
  have HE := hide hE
  have HN := hide (newWriter_any w)
  clear hT hE
  go_enter Tryd.func4, Tryd.ntmps4
  go_wp2_with fail
  refine HN.out.mono ?_
  rintro e w1 ⟨rfl, hw1⟩
  have hwr : Wr w1 w.heap.size w.heap.size (.slice none 0 0) [] := by rw [hw1]; exact wr_new w
  have HB1 : Hid (Below w.heap.size w w1) := hide (by rw [hw1]; exact (Below.refl _ _).alloc (Nat.le_refl _) _)
  have HU1 := hide (writeUint_any 248 _ _ _ _ w1 (by decide) (by decide) hwr (by simp))
  have HWr1 := hide hwr
  clear hw1 hwr HN
  go_wp2_with fail
  refine HU1.out.mono ?_
  rintro e w2 ⟨rfl, v2, hwr, hm⟩
  have HB2 := hide (HWr1.out.toBelow hm HB1.out)
  have HU2 := hide (writeUint_any 256 _ _ _ _ w2 (by decide) (by decide) hwr (by decide))
  have HWr2 := hide hwr
  clear hwr hm HU1 HWr1 HB1
  go_wp2_with fail
  refine HU2.out.mono ?_
  rintro e w3 ⟨rfl, v3, hwr, hm⟩
  have HB3 := hide (HWr2.out.toBelow hm HB2.out)
  have HU3 := hide (writeInt_any (-1) _ _ _ _ w3 (by decide) (by decide) hwr (by decide))
  have HWr3 := hide hwr
  clear hwr hm HU2 HWr2 HB2
  go_wp2_with fail
  refine HU3.out.mono ?_
  rintro e w4 ⟨rfl, v4, hwr, hm⟩
  have HB4 := hide (HWr3.out.toBelow hm HB3.out)
  have HU4 := hide (writeInt_any 124 _ _ _ _ w4 (by decide) (by decide) hwr (by decide))
  have HWr4 := hide hwr
  clear hwr hm HU3 HWr3 HB3
  go_wp2_with fail
  refine HU4.out.mono ?_
  rintro e w5 ⟨rfl, v5, hwr, hm⟩
  have HB5 := hide (HWr4.out.toBelow hm HB4.out)
  have HU5 := hide (writeText_any [97, 98] _ _ _ _ w5 hwr (by decide))
  have HWr5 := hide hwr
  clear hwr hm HU4 HWr4 HB4
  go_wp2_with fail
  refine HU5.out.mono ?_
  rintro e w6 ⟨rfl, v6, hwr, hm⟩
  have HB6 := hide (HWr5.out.toBelow hm HB5.out)
  have HDn := hide (done_any _ _ _ _ w6 hwr (by decide))
  clear hwr hm HU5 HWr5 HB5
  go_wp2_with fail
  refine HDn.out.mono ?_
  rintro e w7 ⟨vb, rfl, hob, hb7⟩
  have HB7 := hide (HB6.out.trans (hb7.mono HB6.out.size))
  rw [show ((((([] ++ form 248) ++ form 256) ++ form (foldI (-1))) ++ form (foldI 124)) ++ (form (([97, 98] : List UInt8).length : Int) ++ [97, 98])) = ([248, 248, 249, 1, 0, 1, 248, 248, 2, 97, 98] : List UInt8) by decide] at hob
  have HOb := hide hob
  obtain ⟨ab, cb, rfl⟩ := hob.slice
  have hbL : Below w7.heap.size w7 (w7.alloc (.cells #[.int .u8 248, .int .u8 248, .int .u8 249, .int .u8 1, .int .u8 0, .int .u8 1, .int .u8 248, .int .u8 248, .int .u8 2, .int .u8 97, .int .u8 98] 5)) := (Below.refl _ _).alloc (Nat.le_refl _) _
  have HSB := hide (sameBytes_any _ _ [248, 248, 249, 1, 0, 1, 248, 248, 2, 97, 98] [248, 248, 249, 1, 0, 1, 248, 248, 2, 97, 98] (w7.alloc (.cells #[.int .u8 248, .int .u8 248, .int .u8 249, .int .u8 1, .int .u8 0, .int .u8 1, .int .u8 248, .int .u8 248, .int .u8 2, .int .u8 97, .int .u8 98] 5)) (HOb.out.later hbL).rb (rb_blk [248, 248, 249, 1, 0, 1, 248, 248, 2, 97, 98] (Blk.new w7 #[.int .u8 248, .int .u8 248, .int .u8 249, .int .u8 1, .int .u8 0, .int .u8 1, .int .u8 248, .int .u8 248, .int .u8 2, .int .u8 97, .int .u8 98] 5)) (by decide))
  rw [show decide (([248, 248, 249, 1, 0, 1, 248, 248, 2, 97, 98] : List UInt8) = [248, 248, 249, 1, 0, 1, 248, 248, 2, 97, 98]) = true by decide] at HSB
  have HB8 := hide (HB7.out.trans (hbL.mono HB7.out.size))
  clear hob hb7 HDn HB6 hbL HOb HB7
  go_wp2_with fail
  generalize w7.alloc (.cells #[.int .u8 248, .int .u8 248, .int .u8 249, .int .u8 1, .int .u8 0, .int .u8 1, .int .u8 248, .int .u8 248, .int .u8 2, .int .u8 97, .int .u8 98] 5) = w8 at HSB HB8 ⊢
  refine HSB.out.mono ?_
  rintro e w9 ⟨rfl, hb⟩
  have HB9 := hide (HB8.out.trans (hb.mono HB8.out.size))
  clear hb HSB HB8
  have hbM : Below w9.heap.size w9 (w9.alloc (.cells #[.int .u8 2, .int .u8 97, .int .u8 98, .int .u8 99] 5)) := (Below.refl _ _).alloc (Nat.le_refl _) _
  have HNr := hide (newReader_any _ [2, 97, 98, 99] (w9.alloc (.cells #[.int .u8 2, .int .u8 97, .int .u8 98, .int .u8 99] 5)) (rb_blk [2, 97, 98, 99] (Blk.new w9 #[.int .u8 2, .int .u8 97, .int .u8 98, .int .u8 99] 5)) (by decide))
  have HB10 := hide (HB9.out.trans (hbM.mono HB9.out.size))
  clear HB9 hbM
  go_wp2_with fail
  generalize w9.alloc (.cells #[.int .u8 2, .int .u8 97, .int .u8 98, .int .u8 99] 5) = w10 at HNr HB10 ⊢
  refine HNr.out.mono ?_
  rintro e w11 ⟨r, gr, rfl, hd, hrl, hgl, hb⟩
  have HB11 := hide (HB10.out.trans (hb.mono HB10.out.size))
  have HR11 := hide hd
  have hrw : w.heap.size ≤ r := Nat.le_trans HB10.out.size hrl
  clear hb hd hgl HNr HB10
  have hbN : Below w11.heap.size w11 (w11.alloc (.cells #[.int .u8 248, .int .u8 247] 5)) := (Below.refl _ _).alloc (Nat.le_refl _) _
  have HNq := hide (newReader_any _ [248, 247] (w11.alloc (.cells #[.int .u8 248, .int .u8 247] 5)) (rb_blk [248, 247] (Blk.new w11 #[.int .u8 248, .int .u8 247] 5)) (by decide))
  have HB12 := hide (HB11.out.trans (hbN.mono HB11.out.size))
  have HR12 := hide (HR11.out.later hbN)
  clear HB11 hbN HR11
  go_wp2_with fail
  generalize w11.alloc (.cells #[.int .u8 248, .int .u8 247] 5) = w12 at HNq HB12 HR12 ⊢
  refine HNq.out.mono ?_
  rintro e w13 ⟨q, gq, rfl, hd, hql, hgl, hb⟩
  have HB13 := hide (HB12.out.trans (hb.mono HB12.out.size))
  have HR13 := hide (HR12.out.later hb)
  have hqr : r < q := Nat.lt_of_lt_of_le HR12.out.lt hql
  have hr12 : r < w12.heap.size := HR12.out.lt
  have HQ13 := hide hd
  have HGQ := hide hgl
  clear hb hd hgl HNq HB12 HR12
  have hcv := fun (W : World) (C : Array Value) (n c : Nat) => Go.Lib.run_convert_bytes_const (P := Tryd.prog) W 29 5 C n c Tryd.underlying29 Tryd.underlying5
  have eG := Tryd.nilEqlG
  have eE := Tryd.nilEql
  have nG := Tryd.nilNeqG
  have nN := Tryd.nilNeq
  have HTx := hide (readText_any 2 _ r gr [2, 97, 98, 99] 0 w13 (by decide) HR13.out (by decide) (by decide) (by decide))
  rw [show rdX 2 [2, 97, 98, 99] 0 = ([97, 98], [99], 0) by decide] at HTx
  go_wp2_with fail
  refine HTx.out.mono ?_
  rintro e w14 ⟨rfl, hd, ho⟩
  have HB14 := hide (ho.toBelow HB13.out HB13.out.size hrw)
  have HR14 := hide hd
  have HQ14 : Hid (Rd w14 42 q gq [248, 247] 0) := hide (HQ13.out.keep ho.size (ho.block q HQ13.out.lt (by omega)) (fun hl hlt => ho.block gq hlt (by have := HGQ.out hl; omega)))
  clear hd ho HTx HR13 HB13 HQ13
  have HEn := hide (end_any _ r gr [99] 0 w14 HR14.out (by decide))
  rw [show endE [99] 0 = 3 by decide, errV_pos (by decide)] at HEn
  go_wp2_with fail
  refine HEn.out.mono ?_
  rintro e w15 ⟨rfl, hw⟩
  obtain rfl := hw.symm
  have HPl := hide (plain_errno 3 3 w14 (by decide) (by decide) (HE.out.below HB14.out))
  rw [show ((3 : Int) == 3) = true by decide] at HPl
  clear HEn
  go_wp2_with fail
  refine HPl.out.mono ?_
  rintro e w15 ⟨rfl, hb⟩
  have HB15 := hide (HB14.out.trans (hb.mono HB14.out.size))
  have HR15 := hide (HR14.out.later hb)
  have HQ15 := hide (HQ14.out.later hb)
  have HEr := hide (err_any _ r gr [99] 0 w15 HR15.out (by decide))
  rw [errV_zero] at HEr
  clear hb HPl HB14 HR14 HQ14
  go_wp2_with fail
  refine HEr.out.mono ?_
  rintro e w16 ⟨rfl, hw⟩
  obtain rfl := hw.symm
  have HUq := hide (srcUint_any 300 _ q gq [248, 247] 0 w15 HQ15.out (by decide) (by decide))
  rw [show rdU 300 [248, 247] 0 = (0, [248, 247], 4) by decide] at HUq
  clear HEr
  go_wp2_with fail
  refine HUq.out.mono ?_
  rintro e w16 ⟨rfl, hd, ho⟩
  have hqw : w.heap.size ≤ q := by omega
  have HB16 := hide (ho.toBelow HB15.out HB15.out.size hqw)
  have HQ16 := hide hd
  have HEq := hide (err_any _ q gq [248, 247] 4 w16 hd (by decide))
  rw [errV_pos (by decide)] at HEq
  clear hd ho HUq HQ15 HB15 HR15
  go_wp2_with fail
  refine HEq.out.mono ?_
  rintro e w17 ⟨rfl, hw⟩
  obtain rfl := hw.symm
  have HPq := hide (plain_errno 4 4 w16 (by decide) (by decide) (HE.out.below HB16.out))
  rw [show ((4 : Int) == 4) = true by decide] at HPq
  clear HEq
  go_wp2_with fail
  refine HPq.out.mono ?_
  rintro e w17 ⟨rfl, hb⟩
  have HB17 := hide (HB16.out.trans (hb.mono HB16.out.size))
  have HLf := hide (left_any _ q gq [248, 247] 4 w17 (HQ16.out.later hb))
  clear hb HPq HB16 HQ16
  go_wp2_with fail
  refine HLf.out.mono ?_
  rintro e w18 ⟨rfl, hw⟩
  obtain rfl := hw.symm
  clear HLf
  have HS0 := hide (sum_any 0 (.slice none 0 0) [] w17 ⟨none, 0, rfl, Nat.le_refl _, .inl rfl⟩ (HT.out.below HB17.out) (by decide))
  rw [show ((sumB []).toNat : Int) = 0 by kernel_rfl] at HS0
  go_wp2_with fail
  refine HS0.out.mono ?_
  rintro e w18 ⟨rfl, hw⟩
  obtain rfl := hw.symm
  clear HS0
  have hbN : Below w17.heap.size w17 (w17.alloc (.cells #[.int .u8 49, .int .u8 50, .int .u8 51, .int .u8 52, .int .u8 53, .int .u8 54, .int .u8 55, .int .u8 56, .int .u8 57] 5 (9, 10))) := (Below.refl _ _).alloc (Nat.le_refl _) _
  have HB18 := hide (HB17.out.trans (hbN.mono HB17.out.size))
  have HRn : Hid (RB (w17.alloc (.cells #[.int .u8 49, .int .u8 50, .int .u8 51, .int .u8 52, .int .u8 53, .int .u8 54, .int .u8 55, .int .u8 56, .int .u8 57] 5 (9, 10))) (.slice (some ⟨w17.heap.size, 0, none⟩) 9 9) [49, 50, 51, 52, 53, 54, 55, 56, 57]) := hide (rb_heap [49, 50, 51, 52, 53, 54, 55, 56, 57] (heap_alloc_new w17 (.cells #[.int .u8 49, .int .u8 50, .int .u8 51, .int .u8 52, .int .u8 53, .int .u8 54, .int .u8 55, .int .u8 56, .int .u8 57] 5 (9, 10))))
  obtain ⟨gn, hgn⟩ := HRn.out
  have HS9 := hide (sum_any gn _ [49, 50, 51, 52, 53, 54, 55, 56, 57] (w17.alloc (.cells #[.int .u8 49, .int .u8 50, .int .u8 51, .int .u8 52, .int .u8 53, .int .u8 54, .int .u8 55, .int .u8 56, .int .u8 57] 5 (9, 10))) hgn (HT.out.below HB18.out) (by decide))
  rw [show ((sumB [49, 50, 51, 52, 53, 54, 55, 56, 57]).toNat : Int) = 3808858755 by kernel_rfl] at HS9
  clear hbN HRn hgn HB17
  go_wp2_with fail
  generalize w17.alloc (.cells #[.int .u8 49, .int .u8 50, .int .u8 51, .int .u8 52, .int .u8 53, .int .u8 54, .int .u8 55, .int .u8 56, .int .u8 57] 5 (9, 10)) = w18 at HS9 HB18 ⊢
  refine HS9.out.mono ?_
  rintro e w19 ⟨rfl, hw⟩
  obtain rfl := hw.symm
  clear HS9
  have hb18s := HB18.out.size
  go_wp2_with (refine BigFrame.wpList_want (by rfl) ?_; intro K hK; refine wp_make32 _ _ rfl rfl rfl (fun w20 ho20 hg20 => hK _ _ ?_))
  have HB20 : Hid (Below w.heap.size w w20) := hide (HB18.out.grown hg20 HB18.out.size (fun g e => by cases e))
  obtain ⟨gz, hgz, _⟩ := ho20.rg
  have HSz := hide (sum_any gz _ (List.replicate 32 0) w20 hgz (HT.out.below HB20.out) (by decide))
  rw [show ((sumB (List.replicate 32 0)).toNat : Int) = 2324772522 by kernel_rfl] at HSz
  clear ho20 hg20 hgz HB18 hK K
  go_wp2_with fail
  refine HSz.out.mono ?_
  rintro e w21 ⟨rfl, hw⟩
  obtain rfl := hw.symm
  clear HSz
  have hbA : Below w20.heap.size w20 (w20.alloc (.cells #[.int .u8 97, .int .u8 98] 5 (2, 3))) := (Below.refl _ _).alloc (Nat.le_refl _) _
  have HB21 := hide (HB20.out.trans (hbA.mono HB20.out.size))
  have HRa : Hid (RB (w20.alloc (.cells #[.int .u8 97, .int .u8 98] 5 (2, 3))) (.slice (some ⟨w20.heap.size, 0, none⟩) 2 2) [97, 98]) := hide (rb_heap [97, 98] (heap_alloc_new w20 (.cells #[.int .u8 97, .int .u8 98] 5 (2, 3))))
  have HFr := hide (frame_ok 1 _ [97, 98] (w20.alloc (.cells #[.int .u8 97, .int .u8 98] 5 (2, 3))) (by decide) (by decide) HRa.out (HT.out.below HB21.out) (by decide))
  rw [show frameL 1 [97, 98] = ([2, 1, 214, 230, 111, 224, 97, 98] : List UInt8) by kernel_rfl] at HFr
  clear hbA HRa HB20
  go_wp2_with fail
  generalize w20.alloc (.cells #[.int .u8 97, .int .u8 98] 5 (2, 3)) = w21 at HFr HB21 ⊢
  refine HFr.out.mono ?_
  rintro e w22 ⟨af, cf, rfl, hof, hb⟩
  have HB22 := hide (HB21.out.trans (hb.mono HB21.out.size))
  have HOf := hide hof
  have h21s := HB21.out.size
  have hbs22 := hb.size
  have hform : ∃ gf, af = some ⟨gf, 0, none⟩ := by
    have h := hof
    unfold Own at h
    obtain ⟨gf, c', h2, _, _⟩ := World.ownsRow.form h (by decide)
    injection h2 with e1 _ _
    exact ⟨gf, e1⟩
  obtain ⟨gf, rfl⟩ := hform
  have hcel : ∀ j c, ([2, 1, 214, 230, 111, 224, 97, 98] : List UInt8)[j]? = some c → w22.cell? ⟨gf, j, none⟩ = some (.int .u8 (c.toNat : Int)) := fun j c hj => by
    have h := hof
    unfold Own at h
    have hjl : j < 8 := (List.getElem?_eq_some_iff.1 hj).1
    exact (World.ownsRow.cellAt h j (by show j < 8 * 1; omega)).trans (bv_at hj)
  have f0 : w22.cell? ⟨gf, 0, none⟩ = some (.int .u8 2) := hcel 0 2 rfl
  have f1 : w22.cell? ⟨gf, 1, none⟩ = some (.int .u8 1) := hcel 1 1 rfl
  have f6 : w22.cell? ⟨gf, 6, none⟩ = some (.int .u8 97) := hcel 6 97 rfl
  obtain ⟨i0, hi, hz0, hz1, hz2⟩ := info_parts Tryd.infoB
  clear hb hof hcel HFr HB21
  go_wp2_with (first
    | (at_builtin; refine wpList_append_own _ rfl _ _ 29 rfl w21.heap.size 5 i0 (.int .u8 0) 1 1 Tryd.underlying29 hi hz0 hz1 hz2 rfl (by decide) _ _ _ rfl (HOf.out.alloc _) ⟨_, 0, none⟩ 1 1 [.int .u8 255] rfl rfl ?c1 ?c2 ?c3 ?c4 ?c5 ?_)
    | go_in)
  case c1 =>
    intro j u hj
    match j, hj with
    | 0, hj => simp at hj; subst hj; simp [Addr.add]
  case c2 => intro u hu; simp at hu; subst hu; rfl
  case c3 => decide
  case c4 => decide
  case c5 => simp; omega
  intro v9 w23 hO9 hg9 _
  have HO9 : Hid (Own w23 w21.heap.size v9 [2, 1, 214, 230, 111, 224, 97, 98, 255]) := hide hO9
  have HB23 : Hid (Below w.heap.size w w23) := hide ((HB22.out.alloc HB22.out.size _).grown hg9 (by simp; omega) (fun k hk => Nat.le_trans h21s (World.ownsRow.lt HOf.out k hk).1))
  have HUf := hide (unframe_any v9 [2, 1, 214, 230, 111, 224, 97, 98, 255] w23 HO9.out.rb (HT.out.below HB23.out) (by decide))
  rw [show unE [2, 1, 214, 230, 111, 224, 97, 98, 255] = 0 by kernel_rfl, show (un2 [2, 1, 214, 230, 111, 224, 97, 98, 255]).1 = 1 by kernel_rfl, show (un4 [2, 1, 214, 230, 111, 224, 97, 98, 255]).1 = [97, 98] by kernel_rfl, show (un4 [2, 1, 214, 230, 111, 224, 97, 98, 255]).2.1 = [255] by kernel_rfl] at HUf
  simp only [if_true] at HUf
  rw [errV_zero] at HUf
  obtain ⟨a9, c9, hv9⟩ := HO9.out.slice
  subst hv9
  clear hO9 hg9 HO9 HOf f0 f1 f6 HB22
  go_wp2_with fail
  refine HUf.out.mono ?_
  rintro e w24 ⟨⟨vp, rfl, hop⟩, hb⟩
  have HB24 := hide (HB23.out.trans (hb.mono HB23.out.size))
  obtain ⟨gp, hgp, _⟩ := hop.rg
  have hcs := conv_rg hgp
  obtain ⟨ap, cp, rfl⟩ := hop.slice
  have hcs2 : (convert 29 9 (.slice ap 2 cp)).run Tryd.prog w24 = .ok (.string ⟨#[97, 98]⟩) w24 := hcs
  clear hb hop hgp HUf HB23 hcs
  go_wp2_with fail
  go_ret
  exact ⟨rfl, HB24.out⟩
end Go.Proofs.YthalmfbcdkihgaaDoor
