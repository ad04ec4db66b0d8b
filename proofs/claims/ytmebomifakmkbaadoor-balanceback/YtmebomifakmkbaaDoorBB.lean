/-
  My own text: the law BalanceBack (printed by mkbb.py).
-/
import Derived.Test.YtmebomifakmkbaaDoorBM3
import Derived.Test.YtmebomifakmkbaaDoorB8
import Derived.Test.YtmebomifakmkbaaDoorB9
import Derived.Test.YtmebomifakmkbaaDoorGr0
import Derived.Test.YtmebomifakmkbaaDoorHeld
namespace Go.Proofs.YtmebomifakmkbaaDoor
open Go.RowKit

set_option maxRecDepth 100000 in
set_option maxHeartbeats 2000000 in
theorem back_law (av q n : Int) (v : Value) (L : List Mk) (w : World) (h : RM w v L) (ho : MOk L) (h1 : av ≤ top) (hq1 : q ≤ top) (hl : L.length ≤ 4611686018427387904) (hE : ErrType w) :
    Calls Tryd.prog 8 #[.agg #[.int .i64 av, v], .int .i64 q, .int .i64 n] w fun e w' => e = .returned (.bool true) ∧ Below w.heap.size w w' := by
  have HRM := hide h
  have HO := hide ho
  have H1 := hide h1
  have HQ1 := hide hq1
  have HL := hide hl
  obtain ⟨a, cap, rfl, _, _⟩ := h
  have HWK := hide (fun (W : World) (hb : Below w.heap.size w W) => works_any W (hE.below hb))
  have HMK := hide (fun (W : World) (hb : Below w.heap.size w W) => mark_any av q n _ L W (HRM.out.later hb) HO.out H1.out HQ1.out HL.out)
  have HCR := hide (fun (W : World) (hb : Below w.heap.size w W) => credit_any av q _ L W (HRM.out.later hb) HO.out H1.out HQ1.out HL.out)
  have B0 := hide ((Below.refl w.heap.size w).alloc (Nat.le_refl _) (.cells #[.int .i64 av, .slice a L.length cap] 24))
  have X0 := hide (Px.new w av (.slice a L.length cap))
  obtain ⟨x0, x1⟩ := pair_cells X0.out rfl
  have n0 := ifNeq0
  have n1 := ifNeq
  have q0 := ifEql0
  have q1 := ifEql
  clear ho h1 hq1 hl hE
  go_enter Tryd.func8, Tryd.ntmps8
  go_wp2_with fail
  refine (HWK.out _ B0.out).mono ?_
  rintro e w1 ⟨rfl, hb⟩
  have B1 := hide (B0.out.trans (hb.mono B0.out.size))
  have X1 := hide (blk_later X0.out hb)
  clear x0 x1 hb B0 X0
  obtain ⟨x0, x1⟩ := pair_cells X1.out rfl
  cases hO : markO av L q n with
  | no t x =>
    rw [hO] at HMK
    clear hO
    go_wp2_with fail
    refine (HMK.out _ B1.out).mono ?_
    rintro e w2 ⟨hA, hb⟩
    replace hA := hA.no
    subst hA
    unfold refV
    have B2 := hide (B1.out.trans (hb.mono B1.out.size))
    have bA : Below w2.heap.size w2 (w2.alloc (.cells #[.int .i64 0, .slice Option.none 0 0] 24)) := (Below.refl _ _).alloc (Nat.le_refl _) _
    have B3 := hide (B2.out.trans (bA.mono B2.out.size))
    have X3 := hide (blk_later (blk_later X1.out hb) bA)
    clear hb x0 x1 bA
    obtain ⟨x0, x1⟩ := pair_cells X3.out rfl
    cases hC : creditO av L q with
    | no t x =>
      rw [hC] at HCR
      clear hC
      go_wp2_with fail
      refine (HCR.out _ B3.out).mono ?_
      rintro e wc ⟨hA, hb⟩
      replace hA := hA.no
      subst hA
      unfold refV
      have BC := hide (B3.out.trans (hb.mono B3.out.size))
      have BD := hide (BC.out.alloc BC.out.size (.cells #[.int .i64 0, .slice Option.none 0 0] 24))
      clear hb
      go_wp2_with fail
      go_ret
      exact ⟨rfl, BD.out⟩
    | ok ac Mc =>
      rw [hC] at HCR
      have hbk := debit_back H1.out hC
      have HBK := hide hbk
      have HQQ := hide (credit_ok H1.out hC).2.1
      clear hC hbk
      go_wp2_with fail
      refine (HCR.out _ B3.out).mono ?_
      rintro e wc ⟨hA, hb⟩
      obtain ⟨v', hv', hO'⟩ := hA.ok
      subst hv'
      obtain ⟨a5, c5, hv5⟩ := rm_lt hO'.rm
      subst hv5
      have BC := hide (B3.out.trans (hb.mono B3.out.size))
      have XC := hide (blk_later X3.out hb)
      have bD : Below wc.heap.size wc (wc.alloc (.cells #[.int .i64 ac, .slice a5 Mc.length c5] 24)) := (Below.refl _ _).alloc (Nat.le_refl _) _
      have BD := hide (BC.out.trans (bD.mono BC.out.size))
      have XD := hide (blk_later XC.out bD)
      have CD := hide (alloc_new wc (.cells #[.int .i64 ac, .slice a5 Mc.length c5] 24))
      have RD := hide (hO'.rm.later bD)
      have HDB := hide (debit_any ac q 0 _ Mc _ RD.out HBK.out.2.2.2.mok HBK.out.2.2.2.top HQ1.out (by have := HBK.out.2.2.2.few; omega))
      rw [HBK.out.1] at HDB
      clear hA hO' hb x0 x1
      obtain ⟨x0, x1⟩ := pair_cells XD.out rfl
      obtain ⟨y0, y1⟩ := pair_cells CD.out rfl
      go_wp2_with fail
      refine HDB.out.mono ?_
      rintro e wd ⟨hA, hb⟩
      obtain ⟨v', hv', hO'⟩ := hA.ok
      subst hv'
      obtain ⟨a6, c6, hv6⟩ := rm_lt hO'.rm
      subst hv6
      have BE := hide (BD.out.trans (hb.mono BD.out.size))
      have bF : Below wd.heap.size wd (wd.alloc (.cells #[.int .i64 av, .slice a6 L.length c6] 24)) := (Below.refl _ _).alloc (Nat.le_refl _) _
      have BF := hide (BE.out.trans (bF.mono BE.out.size))
      have XF := hide (blk_later (blk_later XD.out hb) bF)
      have CF := hide (blk_later (blk_later CD.out hb) bF)
      have DF := hide (alloc_new wd (.cells #[.int .i64 av, .slice a6 L.length c6] 24))
      have RF := hide ((RD.out.later hb).later bF)
      have RG := hide (hO'.rm.later bF)
      have RP := hide (HRM.out.later BF.out)
      clear hA hO' hb x0 x1 y0 y1 HDB
      go_wp2_with fail
      generalize wd.alloc (.cells #[.int .i64 av, .slice a6 L.length c6] 24) = V at *
      have T1 : Hid (totV ac Mc = totV av L + q ∧ 0 ≤ totV av L ∧ totV av L + q ≤ top) := hide (by
        obtain ⟨_, h2, h3, h4⟩ := HBK.out
        rw [totV_rt h3, totV_rt h4]
        have := h4.all; have := h3.av0; have := sm_pos h3.ri
        omega)
      have HS1 := hide (fun x : Gr V => sameP_any av av (.slice a6 L.length c6) (.slice a L.length cap) L L x.1 (RG.out.later x.2) (RP.out.later x.2) HL.out HL.out)
      rw [show decide (av = av ∧ L = L) = true by simp] at HS1
      have HT1 := hide (fun x : Gr V => total_any ac (.slice a5 Mc.length c5) Mc x.1 (RF.out.later x.2) HBK.out.2.2.2.mok HBK.out.2.2.2.top (by have := HBK.out.2.2.2.few; omega))
      have HT2 := hide (fun x : Gr V => total_any av (.slice a L.length cap) L x.1 (RP.out.later x.2) HO.out H1.out HL.out)
      rw [T1.out.1] at HT1
      have wq : wrap64 (totV av L + q) = totV av L + q := by have h1 := T1.out.2.1; have h2 := T1.out.2.2; have h3 := HQQ.out; have : top = 9223372036854775807 := rfl; unfold wrap64; omega
      obtain ⟨T2, hT2⟩ : ∃ T2, totV av L + q = T2 := ⟨_, rfl⟩
      have wq1 : wrap64 (totV av L + q) = T2 := by rw [wq]; exact hT2
      have wq2 : IntKind.i64.wrap (totV av L + q) = T2 := by rw [IntKind.wrap_i64]; unfold wrap64 at wq1; exact wq1
      rw [hT2] at HT1
      have heq : (T2 == T2) = true := by simp
      clear wq hT2
      generalize totV av L = T at *
      have g0 : ∀ x : Gr V, x.1.cell? ⟨w.heap.size, 0, none⟩ = some (.int .i64 av) := fun x => (pair_cells (blk_later XF.out x.2) rfl).1
      have g1 : ∀ x : Gr V, x.1.cell? ⟨w.heap.size, 1, none⟩ = some (.slice a L.length cap) := fun x => (pair_cells (blk_later XF.out x.2) rfl).2
      have g2 : ∀ x : Gr V, x.1.cell? ⟨wc.heap.size, 0, none⟩ = some (.int .i64 ac) := fun x => (pair_cells (blk_later CF.out x.2) rfl).1
      have g3 : ∀ x : Gr V, x.1.cell? ⟨wc.heap.size, 1, none⟩ = some (.slice a5 Mc.length c5) := fun x => (pair_cells (blk_later CF.out x.2) rfl).2
      have g4 : ∀ x : Gr V, x.1.cell? ⟨wd.heap.size, 0, none⟩ = some (.int .i64 av) := fun x => (pair_cells (blk_later DF.out x.2) rfl).1
      have g5 : ∀ x : Gr V, x.1.cell? ⟨wd.heap.size, 1, none⟩ = some (.slice a6 L.length c6) := fun x => (pair_cells (blk_later DF.out x.2) rfl).2
      have gq : ∀ x : Gr V, (binOp .eql 29 .nilIface .nilIface).run Tryd.prog x.1 = .ok (.bool true) x.1 := fun x => ifEql0 x.1
      have HG0 := hide ((Below.refl V.heap.size V).drew)
      haveI : Nonempty (Gr V) := ⟨⟨_, HG0.out⟩⟩
      refine region_class (C := fun w' => ∃ x : Gr V, w' = x.1) (by kernel_rfl) (by kernel_rfl) ⟨⟨_, HG0.out⟩, rfl⟩ ?_
      repeat (first
        | go_big_quiet_skip
        | (go_big_quiet_want; (go_big_quiet_op; first
            | go_big_quiet_on
            | (apply Exists.intro; refine ⟨fun x => ?_, ?_⟩; (first
                | (go_at_call 23; exact x.call (HS1.out x))
                | (go_at_call_of 14 c5; exact x.call (HT1.out x))
                | (go_at_call_of 14 cap; exact x.call (HT2.out x))
                ); go_big_quiet_on))))
      refine wpQuiet_nil ?_
      rintro w8 ⟨x, rfl⟩
      obtain ⟨w8, hx8⟩ := x
      dsimp only
      have B8 := hide (BF.out.trans (hx8.mono BF.out.size))
      clear g0 g1 g2 g3 g4 g5 gq
      go_wp2_with fail
      go_ret
      exact ⟨rfl, B8.out⟩
  | ok am Mm =>
    rw [hO] at HMK
    have hbm := unmark_back H1.out hO
    have HBM := hide hbm
    clear hO hbm
    go_wp2_with fail
    refine (HMK.out _ B1.out).mono ?_
    rintro e w2 ⟨hA, hb⟩
    obtain ⟨v', hv', hO'⟩ := hA.ok
    subst hv'
    obtain ⟨a2, c2, hv2⟩ := rm_lt hO'.rm
    subst hv2
    have B2 := hide (B1.out.trans (hb.mono B1.out.size))
    have bA : Below w2.heap.size w2 (w2.alloc (.cells #[.int .i64 am, .slice a2 Mm.length c2] 24)) := (Below.refl _ _).alloc (Nat.le_refl _) _
    have B3 := hide (B2.out.trans (bA.mono B2.out.size))
    have X3 := hide (blk_later (blk_later X1.out hb) bA)
    have C3 := hide (alloc_new w2 (.cells #[.int .i64 am, .slice a2 Mm.length c2] 24))
    have R3 := hide (hO'.rm.later bA)
    have HUM := hide (unmark_any am q n _ Mm _ R3.out HBM.out.2.2.2.mok HBM.out.2.2.2.top HQ1.out (by have := HBM.out.2.2.2.few; omega))
    rw [HBM.out.1] at HUM
    clear hA hO' hb x0 x1 bA
    obtain ⟨x0, x1⟩ := pair_cells X3.out rfl
    obtain ⟨y0, y1⟩ := pair_cells C3.out rfl
    go_wp2_with fail
    refine HUM.out.mono ?_
    rintro e w4 ⟨hA, hb⟩
    obtain ⟨v', hv', hO'⟩ := hA.ok
    subst hv'
    obtain ⟨a4, c4, hv4⟩ := rm_lt hO'.rm
    subst hv4
    have B4 := hide (B3.out.trans (hb.mono B3.out.size))
    have bA : Below w4.heap.size w4 (w4.alloc (.cells #[.int .i64 av, .slice a4 L.length c4] 24)) := (Below.refl _ _).alloc (Nat.le_refl _) _
    have B5 := hide (B4.out.trans (bA.mono B4.out.size))
    have X5 := hide (blk_later (blk_later X3.out hb) bA)
    have C5 := hide (blk_later (blk_later C3.out hb) bA)
    have D5 := hide (alloc_new w4 (.cells #[.int .i64 av, .slice a4 L.length c4] 24))
    have RM5 := hide ((R3.out.later hb).later bA)
    have RU5 := hide (hO'.rm.later bA)
    have RP5 := hide (HRM.out.later B5.out)
    clear hA hO' hb x0 x1 y0 y1 bA HUM
    go_wp2_with fail
    generalize w4.alloc (.cells #[.int .i64 av, .slice a4 L.length c4] 24) = W5 at *
    have HS0 := hide (fun x : Gr W5 => same_any av av (.slice a4 L.length c4) (.slice a L.length cap) L L x.1 (RU5.out.later x.2) (RP5.out.later x.2) HL.out HL.out)
    have HS1 := hide (fun x : Gr W5 => sameP_any av av (.slice a4 L.length c4) (.slice a L.length cap) L L x.1 (RU5.out.later x.2) (RP5.out.later x.2) HL.out HL.out)
    rw [show decide (av = av ∧ L = L) = true by simp] at HS0 HS1
    have HT1 := hide (fun x : Gr W5 => total_any am (.slice a2 Mm.length c2) Mm x.1 (RM5.out.later x.2) HBM.out.2.2.2.mok HBM.out.2.2.2.top (by have := HBM.out.2.2.2.few; omega))
    have HT2 := hide (fun x : Gr W5 => total_any av (.slice a L.length cap) L x.1 (RP5.out.later x.2) HO.out H1.out HL.out)
    rw [show totV am Mm = totV av L by rw [totV_rt HBM.out.2.2.1, totV_rt HBM.out.2.2.2]; exact HBM.out.2.1] at HT1
    have heq : (totV av L != totV av L) = false := by simp
    generalize totV av L = T at *
    have g0 : ∀ x : Gr W5, x.1.cell? ⟨w.heap.size, 0, none⟩ = some (.int .i64 av) := fun x => (pair_cells (blk_later X5.out x.2) rfl).1
    have g1 : ∀ x : Gr W5, x.1.cell? ⟨w.heap.size, 1, none⟩ = some (.slice a L.length cap) := fun x => (pair_cells (blk_later X5.out x.2) rfl).2
    have g2 : ∀ x : Gr W5, x.1.cell? ⟨w2.heap.size, 0, none⟩ = some (.int .i64 am) := fun x => (pair_cells (blk_later C5.out x.2) rfl).1
    have g3 : ∀ x : Gr W5, x.1.cell? ⟨w2.heap.size, 1, none⟩ = some (.slice a2 Mm.length c2) := fun x => (pair_cells (blk_later C5.out x.2) rfl).2
    have g4 : ∀ x : Gr W5, x.1.cell? ⟨w4.heap.size, 0, none⟩ = some (.int .i64 av) := fun x => (pair_cells (blk_later D5.out x.2) rfl).1
    have g5 : ∀ x : Gr W5, x.1.cell? ⟨w4.heap.size, 1, none⟩ = some (.slice a4 L.length c4) := fun x => (pair_cells (blk_later D5.out x.2) rfl).2
    have gq : ∀ x : Gr W5, (binOp .neq 29 .nilIface .nilIface).run Tryd.prog x.1 = .ok (.bool false) x.1 := fun x => ifNeq0 x.1
    have HG0 := hide ((Below.refl W5.heap.size W5).drew)
    haveI : Nonempty (Gr W5) := ⟨⟨_, HG0.out⟩⟩
    refine region_class (C := fun w' => ∃ x : Gr W5, w' = x.1) (by kernel_rfl) (by kernel_rfl) ⟨⟨_, HG0.out⟩, rfl⟩ ?_
    repeat (first
      | go_big_quiet_skip
      | (go_big_quiet_want; (go_big_quiet_op; first
          | go_big_quiet_on
          | (apply Exists.intro; refine ⟨fun x => ?_, ?_⟩; (first
              | (go_at_call 25; exact x.call (HS0.out x))
              | (go_at_call 23; exact x.call (HS1.out x))
              | (go_at_call_of 14 c2; exact x.call (HT1.out x))
              | (go_at_call_of 14 cap; exact x.call (HT2.out x))
              ); go_big_quiet_on))))
    refine wpQuiet_nil ?_
    rintro w9 ⟨x, rfl⟩
    obtain ⟨w9, hx9⟩ := x
    dsimp only
    have B9 := hide (B5.out.trans (hx9.mono B5.out.size))
    have X9 := hide (blk_later X5.out hx9)
    clear g0 g1 g2 g3 g4 g5 gq hx9 HS0 HS1 HT1 HT2 HG0 this heq
    obtain ⟨x0, x1⟩ := pair_cells X9.out rfl
    cases hC : creditO av L q with
    | no t x =>
      rw [hC] at HCR
      clear hC
      go_wp2_with fail
      refine (HCR.out _ B9.out).mono ?_
      rintro e wc ⟨hA, hb⟩
      replace hA := hA.no
      subst hA
      unfold refV
      have BC := hide (B9.out.trans (hb.mono B9.out.size))
      have BD := hide (BC.out.alloc BC.out.size (.cells #[.int .i64 0, .slice Option.none 0 0] 24))
      clear hb
      go_wp2_with fail
      go_ret
      exact ⟨rfl, BD.out⟩
    | ok ac Mc =>
      rw [hC] at HCR
      have hbk := debit_back H1.out hC
      have HBK := hide hbk
      have HQQ := hide (credit_ok H1.out hC).2.1
      clear hC hbk
      go_wp2_with fail
      refine (HCR.out _ B9.out).mono ?_
      rintro e wc ⟨hA, hb⟩
      obtain ⟨v', hv', hO'⟩ := hA.ok
      subst hv'
      obtain ⟨a5, c5, hv5⟩ := rm_lt hO'.rm
      subst hv5
      have BC := hide (B9.out.trans (hb.mono B9.out.size))
      have XC := hide (blk_later X9.out hb)
      have bD : Below wc.heap.size wc (wc.alloc (.cells #[.int .i64 ac, .slice a5 Mc.length c5] 24)) := (Below.refl _ _).alloc (Nat.le_refl _) _
      have BD := hide (BC.out.trans (bD.mono BC.out.size))
      have XD := hide (blk_later XC.out bD)
      have CD := hide (alloc_new wc (.cells #[.int .i64 ac, .slice a5 Mc.length c5] 24))
      have RD := hide (hO'.rm.later bD)
      have HDB := hide (debit_any ac q 0 _ Mc _ RD.out HBK.out.2.2.2.mok HBK.out.2.2.2.top HQ1.out (by have := HBK.out.2.2.2.few; omega))
      rw [HBK.out.1] at HDB
      clear hA hO' hb x0 x1
      obtain ⟨x0, x1⟩ := pair_cells XD.out rfl
      obtain ⟨y0, y1⟩ := pair_cells CD.out rfl
      go_wp2_with fail
      refine HDB.out.mono ?_
      rintro e wd ⟨hA, hb⟩
      obtain ⟨v', hv', hO'⟩ := hA.ok
      subst hv'
      obtain ⟨a6, c6, hv6⟩ := rm_lt hO'.rm
      subst hv6
      have BE := hide (BD.out.trans (hb.mono BD.out.size))
      have bF : Below wd.heap.size wd (wd.alloc (.cells #[.int .i64 av, .slice a6 L.length c6] 24)) := (Below.refl _ _).alloc (Nat.le_refl _) _
      have BF := hide (BE.out.trans (bF.mono BE.out.size))
      have XF := hide (blk_later (blk_later XD.out hb) bF)
      have CF := hide (blk_later (blk_later CD.out hb) bF)
      have DF := hide (alloc_new wd (.cells #[.int .i64 av, .slice a6 L.length c6] 24))
      have RF := hide ((RD.out.later hb).later bF)
      have RG := hide (hO'.rm.later bF)
      have RP := hide (HRM.out.later BF.out)
      clear hA hO' hb x0 x1 y0 y1 HDB
      go_wp2_with fail
      generalize wd.alloc (.cells #[.int .i64 av, .slice a6 L.length c6] 24) = V at *
      have T1 : Hid (totV ac Mc = totV av L + q ∧ 0 ≤ totV av L ∧ totV av L + q ≤ top) := hide (by
        obtain ⟨_, h2, h3, h4⟩ := HBK.out
        rw [totV_rt h3, totV_rt h4]
        have := h4.all; have := h3.av0; have := sm_pos h3.ri
        omega)
      have HS1 := hide (fun x : Gr V => sameP_any av av (.slice a6 L.length c6) (.slice a L.length cap) L L x.1 (RG.out.later x.2) (RP.out.later x.2) HL.out HL.out)
      rw [show decide (av = av ∧ L = L) = true by simp] at HS1
      have HT1 := hide (fun x : Gr V => total_any ac (.slice a5 Mc.length c5) Mc x.1 (RF.out.later x.2) HBK.out.2.2.2.mok HBK.out.2.2.2.top (by have := HBK.out.2.2.2.few; omega))
      have HT2 := hide (fun x : Gr V => total_any av (.slice a L.length cap) L x.1 (RP.out.later x.2) HO.out H1.out HL.out)
      rw [T1.out.1] at HT1
      have wq : wrap64 (totV av L + q) = totV av L + q := by have h1 := T1.out.2.1; have h2 := T1.out.2.2; have h3 := HQQ.out; have : top = 9223372036854775807 := rfl; unfold wrap64; omega
      obtain ⟨T2, hT2⟩ : ∃ T2, totV av L + q = T2 := ⟨_, rfl⟩
      have wq1 : wrap64 (totV av L + q) = T2 := by rw [wq]; exact hT2
      have wq2 : IntKind.i64.wrap (totV av L + q) = T2 := by rw [IntKind.wrap_i64]; unfold wrap64 at wq1; exact wq1
      rw [hT2] at HT1
      have heq : (T2 == T2) = true := by simp
      clear wq hT2
      generalize totV av L = T at *
      have g0 : ∀ x : Gr V, x.1.cell? ⟨w.heap.size, 0, none⟩ = some (.int .i64 av) := fun x => (pair_cells (blk_later XF.out x.2) rfl).1
      have g1 : ∀ x : Gr V, x.1.cell? ⟨w.heap.size, 1, none⟩ = some (.slice a L.length cap) := fun x => (pair_cells (blk_later XF.out x.2) rfl).2
      have g2 : ∀ x : Gr V, x.1.cell? ⟨wc.heap.size, 0, none⟩ = some (.int .i64 ac) := fun x => (pair_cells (blk_later CF.out x.2) rfl).1
      have g3 : ∀ x : Gr V, x.1.cell? ⟨wc.heap.size, 1, none⟩ = some (.slice a5 Mc.length c5) := fun x => (pair_cells (blk_later CF.out x.2) rfl).2
      have g4 : ∀ x : Gr V, x.1.cell? ⟨wd.heap.size, 0, none⟩ = some (.int .i64 av) := fun x => (pair_cells (blk_later DF.out x.2) rfl).1
      have g5 : ∀ x : Gr V, x.1.cell? ⟨wd.heap.size, 1, none⟩ = some (.slice a6 L.length c6) := fun x => (pair_cells (blk_later DF.out x.2) rfl).2
      have gq : ∀ x : Gr V, (binOp .eql 29 .nilIface .nilIface).run Tryd.prog x.1 = .ok (.bool true) x.1 := fun x => ifEql0 x.1
      have HG0 := hide ((Below.refl V.heap.size V).drew)
      haveI : Nonempty (Gr V) := ⟨⟨_, HG0.out⟩⟩
      refine region_class (C := fun w' => ∃ x : Gr V, w' = x.1) (by kernel_rfl) (by kernel_rfl) ⟨⟨_, HG0.out⟩, rfl⟩ ?_
      repeat (first
        | go_big_quiet_skip
        | (go_big_quiet_want; (go_big_quiet_op; first
            | go_big_quiet_on
            | (apply Exists.intro; refine ⟨fun x => ?_, ?_⟩; (first
                | (go_at_call 23; exact x.call (HS1.out x))
                | (go_at_call_of 14 c5; exact x.call (HT1.out x))
                | (go_at_call_of 14 cap; exact x.call (HT2.out x))
                ); go_big_quiet_on))))
      refine wpQuiet_nil ?_
      rintro w8 ⟨x, rfl⟩
      obtain ⟨w8, hx8⟩ := x
      dsimp only
      have B8 := hide (BF.out.trans (hx8.mono BF.out.size))
      clear g0 g1 g2 g3 g4 g5 gq
      go_wp2_with fail
      go_ret
      exact ⟨rfl, B8.out⟩
end Go.Proofs.YtmebomifakmkbaaDoor
