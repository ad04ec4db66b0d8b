/-
  My own text: the law GuardDecode (printed by mkg19.py).
-/
import Derived.Test.YtdiamlajmcikhaaGreatDoorG18
namespace Go.Proofs.YtdiamlajmcikhaaGreatDoor
open Go.RowKit

theorem dcO_len (raw : List Int) (h : raw.length ≤ 17592186044000) : (dcO raw).legs.length ≤ 3518437208800 ∧ (dcO raw).pairs.length ≤ 8796093022000 := by
  cases raw with
  | nil => exact ⟨by show 0 ≤ _; omega, by show 0 ≤ _; omega⟩
  | cons c N =>
    have hN : N.length ≤ 17592186044000 := by simp at h; omega
    by_cases h0 : fxE c N.length = 0
    · rw [dcO_ok h0]
      unfold rdO
      (repeat' split) <;> (constructor <;> dsimp only <;> first | (rw [legsOf_len, List.length_drop]; omega) | (rw [keysOf_len]; omega) | (simp; done))
    · rw [dcO_err h0]
      exact ⟨by show 0 ≤ _; omega, by show 0 ≤ _; omega⟩
/-- While the lent row is written over. -/
structure WO (V : World) (g : Nat) (B cap n : Nat) (W : World) : Prop where
  lent : ∃ X : List Int, X.length = n ∧ LN.LentB W B g cap X
  os : W.os = V.os
  tape : W.tape = V.tape
  output : W.output = V.output
  size : W.heap.size = V.heap.size
  block : ∀ b, b ≠ g → W.heap[b]? = V.heap[b]?
theorem WO.set {V W : World} {g B cap n k : Nat} (h : WO V g B cap n W) (hk : k < n) (c : Int) : WO V g B cap n (W.setCell ⟨g, k, none⟩ (.int .i64 c)) := by
  obtain ⟨X, hX, hL⟩ := h.lent
  exact ⟨⟨X.set k c, by rw [List.length_set]; exact hX, hL.set (by omega)⟩, h.os, h.tape, h.output, by simpa using h.size, fun b hb => (Below.heap_setCell _ _ _ b hb).trans (h.block b hb)⟩
theorem wo_below {w V W : World} {g B cap n : Nat} (h : WO V g B cap n W) (hV : Below w.heap.size w V) (hg : w.heap.size ≤ g) : Below w.heap.size w W :=
  ⟨h.os.trans hV.os, h.tape.trans hV.tape, h.output.trans hV.output, by rw [h.size]; exact hV.size, fun b hb => (h.block b (by omega)).trans (hV.block b hb)⟩
theorem lent_kind {W : World} {B g cap : Nat} {X : List Int} (h : LN.LentB W B g cap X) : ∃ c, W.heap[g]? = some (.cells c 2 (0, 0)) := by
  have h' := h.own
  unfold LN.OM at h'
  rcases h'.2 with ⟨h0, _⟩ | ⟨g', cap', cur, hv, hb, hh, _⟩
  · cases h0
  · injection hv with e1 _ _
    injection e1 with e1
    injection e1 with e1 _ _
    rw [e1]; exact ⟨cur, hh⟩
set_option maxRecDepth 100000 in
set_option maxHeartbeats 4000000 in
theorem guardDecode_from (hRD : ∀ (v : Value) (raw : List Int) (W : World), LN.RM W v raw → raw.length ≤ 17592186044000 → Calls Tryz.prog 25 #[v] W (RcP W raw)) (v : Value) (raw : List Int) (w : World) (hE : ErrType w) (hv : LN.RM w v raw) (hl : raw.length ≤ 17592186044000) :
    Calls Tryz.prog 13 #[v] w fun e w' => e = .returned (.bool true) ∧ Below w.heap.size w w' := by
  have HRD := hide (fun (W : World) (hb : Below w.heap.size w W) => hRD v raw W (hv.later hb) hl)
  have HPD := hide (fun (W : World) (v : Value) (hv : LN.RM W v raw) => decode_any v raw W hv (by omega))
  have HLN := hide (fun (W : World) (hb : Below w.heap.size w W) => LN.lentLongs_any v raw W (hv.later hb) (by omega))
  have HKL := hide (fun (W : World) (g cap B : Nat) (hL : LN.LentB W B g cap raw) (hb : Below w.heap.size w W) => LN.keptLongs_any g cap B v raw W hL (hv.later hb) (by omega))
  have hr := dcE_rng raw
  have HPL := hide (fun (W : World) (hE : ErrType W) => plain_errV (dcE raw) (dcE raw) W hr.1 hr.2 hE)
  rw [beq_self_eq_true] at HPL
  have hlen := dcO_len raw hl
  unfold RcP at HRD
  unfold DcP at HPD
  generalize dcO raw = o at *
  generalize errV (dcE raw) = ev at *
  generalize dcE raw = e0 at *
  have HSO := hide (fun (l1 p1 l2 p2 : Value) (W : World) (h1 : LG.RM W l1 o.legs) (h2 : LG.RM W l2 o.legs) (h3 : KY.RM W p1 o.pairs) (h4 : KY.RM W p2 o.pairs) => sameOp_eq o l1 p1 l2 p2 W h1 h2 h3 h4 (by omega) (by omega))
  unfold opV at HRD HPD HSO
  have HE := hide hE
  obtain ⟨va, vc, hvv⟩ := LN.rm_lt hv
  subst hvv
  have HV := hide hv
  clear hE hr hv hRD
  go_enter Tryz.func13, Tryz.ntmps13
  go_wp2_with fail
  refine (HRD.out _ (Below.refl _ _)).mono ?_
  rintro e w1 ⟨l0, p0, rfl, hL0, hP0, hb1⟩
  obtain ⟨la0, lc0, rfl⟩ := LG.rm_lt hL0.rm
  obtain ⟨pa0, pc0, rfl⟩ := KY.rm_lt hP0.rm
  have HB1 := hide (hb1.alloc hb1.size (.cells #[.int .i64 o.code, .int .i64 o.acc, .int .i64 o.ass, .int .i64 o.qty, .int .i64 o.name, .int .i64 o.id, .slice la0 o.legs.length lc0, .slice pa0 o.pairs.length pc0] 26))
  have C3 := hide (alloc_new w1 (.cells #[.int .i64 o.code, .int .i64 o.acc, .int .i64 o.ass, .int .i64 o.qty, .int .i64 o.name, .int .i64 o.id, .slice la0 o.legs.length lc0, .slice pa0 o.pairs.length pc0] 26))
  have HL0 := hide (World.ownsRow.alloc hL0 (.cells #[.int .i64 o.code, .int .i64 o.acc, .int .i64 o.ass, .int .i64 o.qty, .int .i64 o.name, .int .i64 o.id, .slice la0 o.legs.length lc0, .slice pa0 o.pairs.length pc0] 26))
  have HP0 := hide (World.ownsRow.alloc hP0 (.cells #[.int .i64 o.code, .int .i64 o.acc, .int .i64 o.ass, .int .i64 o.qty, .int .i64 o.name, .int .i64 o.id, .slice la0 o.legs.length lc0, .slice pa0 o.pairs.length pc0] 26))
  clear hb1 hL0 hP0
  go_wp2_with fail
  refine (HLN.out _ HB1.out).mono ?_
  rintro e w2 ⟨g, cap, rfl, hLB, hb2⟩
  have HB2 := hide (HB1.out.trans (hb2.mono HB1.out.size))
  have C3b := hide (blk_later C3.out hb2)
  have HL0b := hide (owns_lat HL0.out hb2)
  have HP0b := hide (owns_lat HP0.out hb2)
  have HLB := hide hLB
  have HRG : Hid (∀ W, Below w2.heap.size w2 W → LN.RM W (.slice (some ⟨g, 0, none⟩) raw.length cap) raw) := hide (fun W hb => ⟨g, (hLB.later hb).rg⟩)
  clear hb2 hLB C3 HL0 HP0
  go_wp2_with fail
  refine (HPD.out _ _ (HRG.out _ (Below.refl _ _))).mono ?_
  rintro e w3 ⟨l1, p1, rfl, hL1, hP1, hb3⟩
  obtain ⟨la1, lc1, rfl⟩ := LG.rm_lt hL1.rm
  obtain ⟨pa1, pc1, rfl⟩ := KY.rm_lt hP1.rm
  have b23 := hide (hb3.alloc hb3.size (.cells #[.int .i64 o.code, .int .i64 o.acc, .int .i64 o.ass, .int .i64 o.qty, .int .i64 o.name, .int .i64 o.id, .slice la1 o.legs.length lc1, .slice pa1 o.pairs.length pc1] 26))
  have HB3 := hide (HB2.out.trans (b23.out.mono HB2.out.size))
  have C6 := hide (alloc_new w3 (.cells #[.int .i64 o.code, .int .i64 o.acc, .int .i64 o.ass, .int .i64 o.qty, .int .i64 o.name, .int .i64 o.id, .slice la1 o.legs.length lc1, .slice pa1 o.pairs.length pc1] 26))
  have C3c := hide (blk_later C3b.out b23.out)
  have HL0c := hide (owns_lat HL0b.out b23.out)
  have HP0c := hide (owns_lat HP0b.out b23.out)
  have HL1 := hide (World.ownsRow.alloc hL1 (.cells #[.int .i64 o.code, .int .i64 o.acc, .int .i64 o.ass, .int .i64 o.qty, .int .i64 o.name, .int .i64 o.id, .slice la1 o.legs.length lc1, .slice pa1 o.pairs.length pc1] 26))
  have HP1 := hide (World.ownsRow.alloc hP1 (.cells #[.int .i64 o.code, .int .i64 o.acc, .int .i64 o.ass, .int .i64 o.qty, .int .i64 o.name, .int .i64 o.id, .slice la1 o.legs.length lc1, .slice pa1 o.pairs.length pc1] 26))
  have LT1 := hide (fun b hb => (World.ownsRow.lt HL1.out b hb).2)
  have LT1p := hide (fun b hb => (World.ownsRow.lt HP1.out b hb).2)
  clear hb3 hL1 hP1 C3b HL0b HP0b
  go_wp2_with fail
  refine (HPD.out _ _ (HRG.out _ b23.out)).mono ?_
  rintro e w4 ⟨l2, p2, rfl, hL2, hP2, hb4⟩
  obtain ⟨la2, lc2, rfl⟩ := LG.rm_lt hL2.rm
  obtain ⟨pa2, pc2, rfl⟩ := KY.rm_lt hP2.rm
  have b34 := hide (hb4.alloc hb4.size (.cells #[.int .i64 o.code, .int .i64 o.acc, .int .i64 o.ass, .int .i64 o.qty, .int .i64 o.name, .int .i64 o.id, .slice la2 o.legs.length lc2, .slice pa2 o.pairs.length pc2] 26))
  have b24 := hide (b23.out.trans (b34.out.mono b23.out.size))
  have HB4 := hide (HB3.out.trans (b34.out.mono HB3.out.size))
  have HLB4 := hide (HLB.out.later b24.out)
  have X4 : Hid (DS w g o w1.heap.size w3.heap.size w4.heap.size (w3.alloc (.cells #[.int .i64 o.code, .int .i64 o.acc, .int .i64 o.ass, .int .i64 o.qty, .int .i64 o.name, .int .i64 o.id, .slice la1 o.legs.length lc1, .slice pa1 o.pairs.length pc1] 26)).heap.size (.slice la0 o.legs.length lc0) (.slice pa0 o.pairs.length pc0) (.slice la1 o.legs.length lc1) (.slice pa1 o.pairs.length pc1) (.slice la2 o.legs.length lc2) (.slice pa2 o.pairs.length pc2) (w4.alloc (.cells #[.int .i64 o.code, .int .i64 o.acc, .int .i64 o.ass, .int .i64 o.qty, .int .i64 o.name, .int .i64 o.id, .slice la2 o.legs.length lc2, .slice pa2 o.pairs.length pc2] 26))) := hide ⟨HB4.out, lent_kind HLB4.out, blk_later C3c.out b34.out, blk_later C6.out b34.out, alloc_new w4 _, owns_lat HL0c.out b34.out, owns_lat HP0c.out b34.out, World.ownsRow.mono (owns_lat HL1.out b34.out) HB2.out.size, World.ownsRow.mono (owns_lat HP1.out b34.out) HB2.out.size, World.ownsRow.alloc hL2 _, World.ownsRow.alloc hP2 _, LT1.out, LT1p.out, HB3.out.size⟩
  clear hb4 hL2 hP2 C3c C6 HL0c HP0c HL1 HP1 LT1 LT1p b23 b34
  go_wp2_with fail
  refine (HPL.out _ (HE.out.below HB4.out)).mono ?_
  rintro e w5 ⟨rfl, hb⟩
  have X5 := hide (X4.out.later hb)
  have HLB5 := hide (HLB4.out.later hb)
  clear hb X4 HLB4
  go_wp2_with fail
  refine (HPL.out _ (HE.out.below X5.out.low)).mono ?_
  rintro e w6 ⟨rfl, hb⟩
  have X6 := hide (X5.out.later hb)
  have HLB6 := hide (HLB5.out.later hb)
  clear hb X5 HLB5
  obtain ⟨x0, x1, x2, x3, x4, x5, x6, x7⟩ := eight_cells X6.out.c3 rfl
  obtain ⟨y0, y1, y2, y3, y4, y5, y6, y7⟩ := eight_cells X6.out.c6 rfl
  obtain ⟨z0, z1, z2, z3, z4, z5, z6, z7⟩ := eight_cells X6.out.c8 rfl
  go_wp2_with fail
  refine (HSO.out _ _ _ _ _ X6.out.L1.rm X6.out.L0.rm X6.out.P1.rm X6.out.P0.rm).mono ?_
  rintro e w7 ⟨rfl, hb⟩
  have X7 := hide (X6.out.later hb)
  have HLB7 := hide (HLB6.out.later hb)
  clear hb X6 HLB6
  clear x0 x1 x2 x3 x4 x5 x6 x7 y0 y1 y2 y3 y4 y5 y6 y7 z0 z1 z2 z3 z4 z5 z6 z7
  obtain ⟨x0, x1, x2, x3, x4, x5, x6, x7⟩ := eight_cells X7.out.c3 rfl
  obtain ⟨y0, y1, y2, y3, y4, y5, y6, y7⟩ := eight_cells X7.out.c6 rfl
  obtain ⟨z0, z1, z2, z3, z4, z5, z6, z7⟩ := eight_cells X7.out.c8 rfl
  go_wp2_with fail
  refine (HSO.out _ _ _ _ _ X7.out.L2.rm X7.out.L0.rm X7.out.P2.rm X7.out.P0.rm).mono ?_
  rintro e w8 ⟨rfl, hb⟩
  have X8 := hide (X7.out.later hb)
  have HLB8 := hide (HLB7.out.later hb)
  clear hb X7 HLB7
  clear x0 x1 x2 x3 x4 x5 x6 x7 y0 y1 y2 y3 y4 y5 y6 y7 z0 z1 z2 z3 z4 z5 z6 z7
  go_wp2_with fail
  refine (HKL.out _ _ _ _ HLB8.out X8.out.low).mono ?_
  rintro e w9 ⟨rfl, hw9⟩
  obtain rfl := hw9.symm
  go_wp2_with fail
  have HSTOP : True := trivial
  obtain ⟨VV, hVV⟩ : ∃ x, x = w8 := ⟨_, rfl⟩
  subst hVV
  have HGB := hide HLB8.out.base
  have HW0 : Hid (WO VV g _ cap raw.length VV) := hide ⟨⟨raw, rfl, HLB8.out⟩, rfl, rfl, rfl, rfl, fun _ _ => rfl⟩
  go_loopw [10] (fun i wr => ∃ j : Nat, j ≤ raw.length ∧ i = .int .i64 (j : Int) ∧ Hid (WO VV g (w1.alloc (.cells #[.int .i64 o.code, .int .i64 o.acc, .int .i64 o.ass, .int .i64 o.qty, .int .i64 o.name, .int .i64 o.id, .slice la0 o.legs.length lc0, .slice pa0 o.pairs.length pc0] 26)).heap.size cap raw.length wr)) (fun i _ => raw.length - (intOf i).toNat)
  case atStart => exact ⟨0, Nat.zero_le _, rfl, HW0⟩
  case round =>
    clear HW0
    obtain ⟨j, hj, rfl, HWO⟩ := hrel
    by_cases hlt : j < raw.length
    · obtain ⟨Y, hY, hLY⟩ := HWO.out.lent
      obtain ⟨_, _, hcY, hfY⟩ := hLY.parts
      have hcj := hcY j (Y[j]'(by omega)) (by rw [List.getElem?_append_left (by omega)]; exact List.getElem?_eq_getElem _)
      have hfj := hfY j
      have HW2 := hide (HWO.out.set hlt 7)
      have hd : decide ((j : Int) < (raw.length : Int)) = true := by rw [decide_eq_true_eq]; omega
      generalize Y[j]'(by omega) = yj at *
      clear hcY hfY hLY hY HWO
      go_wp2_with fail
      go_roundw
      case rel => exact ⟨j + 1, by omega, by go_num, HW2⟩
      case measure => simp [intOf]; omega
    · have hd : decide ((j : Int) < (raw.length : Int)) = false := by rw [decide_eq_false_iff_not]; omega
      have X9 : Hid (DS w g o w1.heap.size w3.heap.size w4.heap.size (w3.alloc (.cells #[.int .i64 o.code, .int .i64 o.acc, .int .i64 o.ass, .int .i64 o.qty, .int .i64 o.name, .int .i64 o.id, .slice la1 o.legs.length lc1, .slice pa1 o.pairs.length pc1] 26)).heap.size (.slice la0 o.legs.length lc0) (.slice pa0 o.pairs.length pc0) (.slice la1 o.legs.length lc1) (.slice pa1 o.pairs.length pc1) (.slice la2 o.legs.length lc2) (.slice pa2 o.pairs.length pc2) wr) := hide (X8.out.keep (wo_below HWO.out X8.out.low (by have h1 := HGB.out; have h2 := HB1.out.size; omega)) (by obtain ⟨Y, _, hLY⟩ := HWO.out.lent; exact lent_kind hLY) (fun b _ hb => HWO.out.block b hb))
      clear HWO HLB8 X8
      obtain ⟨x0, x1, x2, x3, x4, x5, x6, x7⟩ := eight_cells X9.out.c3 rfl
      obtain ⟨y0, y1, y2, y3, y4, y5, y6, y7⟩ := eight_cells X9.out.c6 rfl
      obtain ⟨z0, z1, z2, z3, z4, z5, z6, z7⟩ := eight_cells X9.out.c8 rfl
      go_wp2_with fail
      refine (HSO.out _ _ _ _ _ X9.out.L1.rm X9.out.L0.rm X9.out.P1.rm X9.out.P0.rm).mono ?_
      rintro e wa ⟨rfl, hb⟩
      have XA := hide (X9.out.later hb)
      clear hb X9
      clear x0 x1 x2 x3 x4 x5 x6 x7 y0 y1 y2 y3 y4 y5 y6 y7 z0 z1 z2 z3 z4 z5 z6 z7
      obtain ⟨x0, x1, x2, x3, x4, x5, x6, x7⟩ := eight_cells XA.out.c3 rfl
      obtain ⟨y0, y1, y2, y3, y4, y5, y6, y7⟩ := eight_cells XA.out.c6 rfl
      obtain ⟨z0, z1, z2, z3, z4, z5, z6, z7⟩ := eight_cells XA.out.c8 rfl
      go_wp2_with fail
      refine (HSO.out _ _ _ _ _ XA.out.L2.rm XA.out.L0.rm XA.out.P2.rm XA.out.P0.rm).mono ?_
      rintro e wb ⟨rfl, hb⟩
      have XB := hide (XA.out.later hb)
      clear hb XA
      clear x0 x1 x2 x3 x4 x5 x6 x7 y0 y1 y2 y3 y4 y5 y6 y7 z0 z1 z2 z3 z4 z5 z6 z7
      obtain ⟨y0, y1, y2, y3, y4, y5, y6, y7⟩ := eight_cells XB.out.c6 rfl
      obtain ⟨z0, z1, z2, z3, z4, z5, z6, z7⟩ := eight_cells XB.out.c8 rfl
      have HAL := hide (lg_two XB.out.L1 XB.out.L2 XB.out.lt1 XB.out.hB)
      have HLOW := hide (XB.out.low.alloc XB.out.low.size (.cells #[.slice la1 o.legs.length lc1, .slice la2 o.legs.length lc2] 23))
      have HAP := hide (LG.apartMarks_sp w.heap.size wb.heap.size 2 2 _ _ _ _ _ HAL.out (fun _ => hlen.1) (by omega) (Nat.le_refl _) HLOW.out.size)
      go_wp2_with fail
      refine HAP.out.mono ?_
      rintro e wc ⟨rfl, hsp⟩
      have XV := hide (XB.out.later ((Below.refl _ _).alloc (Nat.le_refl _) (.cells #[.slice la1 o.legs.length lc1, .slice la2 o.legs.length lc2] 23)))
      have HK : Hid (∀ (b : Nat) (c : Array Value) (t : TypeId) (z : Nat × Nat), (wb.alloc (.cells #[.slice la1 o.legs.length lc1, .slice la2 o.legs.length lc2] 23)).heap[b]? = some (.cells c t z) → t ≠ 38 → wc.heap[b]? = some (.cells c t z)) := hide (fun b c t z hc hne => (hsp.block b (Array.getElem?_eq_some_iff.1 hc).1 (fun k hk e => by
        obtain ⟨c2, fz, h2⟩ := ownsRow_kind (HAL.out.own k hk) b e
        exact kind_ne h2 hc (fun e => hne e.symm) rfl)).trans hc)
      have C6 := hide (HK.out _ _ _ _ XV.out.c6 (by decide))
      have C8 := hide (HK.out _ _ _ _ XV.out.c8 (by decide))
      have hpk : ∀ {B : Nat} {v : Value} {L : List KY.El}, KY.OM (wb.alloc (.cells #[.slice la1 o.legs.length lc1, .slice la2 o.legs.length lc2] 23)) B v L → KY.OM wc B v L := fun {B v L} ho => owns_blk ho (fun b hbv => by
        obtain ⟨c2, fz, h2⟩ := ownsRow_kind ho b hbv
        exact (HK.out _ _ _ _ h2 (by decide)).trans h2.symm)
      have P1 := hide (hpk XV.out.P1)
      have P2 := hide (hpk XV.out.P2)
      have LWC := hide (sp_below hsp XV.out.low (fun k hk b e => (World.ownsRow.lt (HAL.out.own k hk) b e).1))
      have LT := hide XV.out.lt1p
      have HBB := hide XV.out.hB
      clear hsp HK hpk HAP HAL XV XB HLOW y0 y1 y2 y3 y4 y5 y6 y7 z0 z1 z2 z3 z4 z5 z6 z7
      obtain ⟨y0, y1, y2, y3, y4, y5, y6, y7⟩ := eight_cells C6.out rfl
      obtain ⟨z0, z1, z2, z3, z4, z5, z6, z7⟩ := eight_cells C8.out rfl
      have HAL2 := hide (ky_two P1.out P2.out LT.out HBB.out)
      have HLOW2 := hide (LWC.out.alloc LWC.out.size (.cells #[.slice pa1 o.pairs.length pc1, .slice pa2 o.pairs.length pc2] 24))
      have HAP2 := hide (KY.apartMarks_sp w.heap.size wc.heap.size 2 2 _ _ _ _ _ HAL2.out (fun _ => hlen.2) (by omega) (Nat.le_refl _) HLOW2.out.size)
      go_wp2_with fail
      refine HAP2.out.mono ?_
      rintro e wd ⟨rfl, hsp2⟩
      have HFIN := hide (sp_below hsp2 HLOW2.out (fun k hk b e => (World.ownsRow.lt (HAL2.out.own k hk) b e).1))
      clear hsp2 HAP2
      go_wp2_with fail
      go_ret
      exact ⟨rfl, HFIN.out⟩
end Go.Proofs.YtdiamlajmcikhaaGreatDoor
