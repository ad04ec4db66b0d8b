/-
  My own text: the law BalanceChecks (printed by mkbx.py).
-/
import Derived.Test.YtmebomifakmkbaaDoorBT
import Derived.Test.YtmebomifakmkbaaDoorBK1
import Derived.Test.YtmebomifakmkbaaDoorGr0
import Derived.Test.YtmebomifakmkbaaDoorHeld
namespace Go.Proofs.YtmebomifakmkbaaDoor
open Go.RowKit

set_option maxRecDepth 100000 in
set_option maxHeartbeats 4000000 in
theorem checks_law (av n : Int) (v : Value) (L : List Mk) (w : World) (h : RM w v L) (ho : MOk L) (h1 : av ≤ top) (hl : L.length ≤ 8796093022000) (hE : ErrType w) :
    Calls Tryd.prog 3 #[.agg #[.int .i64 av, v], .int .i64 n] w fun e w' => e = .returned (.bool true) ∧ Below w.heap.size w w' := by
  have HR := hide h
  have HO := hide ho
  have H1 := hide h1
  have HL := hide hl
  have hl2 : L.length ≤ 4611686018427387904 := by omega
  have HL2 := hide hl2
  obtain ⟨a, cap, rfl, hcp, hcc⟩ := h
  have HC := hide hcc
  have HE := hide hE
  have HWK := hide (fun (W : World) (hb : Below w.heap.size w W) => works_any W (hE.below hb))
  have HRC := hide (fun (W : World) (hw : Below w.heap.size w W) => rCheck_any av _ L W (HR.out.later hw) ho h1 hl2)
  have HLP := hide (fun (W : World) (hw : Below w.heap.size w W) => lentPos_any av _ L W (HR.out.later hw) hl)
  have HTD := hide (fun (W : World) (hw : Below w.heap.size w W) => told_ck av _ L W (HR.out.later hw) ho h1 hl2 (hE.below hw))
  unfold ckP at HRC
  obtain ⟨E, hEv⟩ : ∃ E, ckE (ck av L) = E := ⟨_, rfl⟩
  have HCE : Hid (∀ (W : World) (u : Value), RM W u L → Calls Tryd.prog 11 #[.agg #[.int .i64 av, u]] W fun e w' => e = .returned E ∧ Below W.heap.size W w') := hide (fun W u hu => by rw [← hEv]; exact check_any av u L W hu ho h1 hl2)
  rw [hEv] at HTD
  generalize (ck av L).1 = c1 at *
  generalize (ck av L).2 = c2 at *
  have B0 := hide ((Below.refl w.heap.size w).alloc (Nat.le_refl _) (.cells #[.int .i64 av, .slice a L.length cap] 24))
  have X0 := hide (Px.new w av (.slice a L.length cap))
  obtain ⟨x0, x1⟩ := pair_cells X0.out rfl
  clear ho h1 hl hl2 hE hcc hEv
  go_enter Tryd.func3, Tryd.ntmps3
  go_wp2_with fail
  refine (HRC.out _ B0.out).mono ?_
  rintro e w1 ⟨rfl, hb⟩
  have B1 := hide (B0.out.trans (hb.mono B0.out.size))
  have X1 := hide (blk_later X0.out hb)
  clear hb x0 x1
  obtain ⟨x0, x1⟩ := pair_cells X1.out rfl
  go_wp2_with fail
  refine (HLP.out _ B1.out).mono ?_
  rintro e w2 ⟨g, cl, rfl, hlm, hb⟩
  have bA : Below w2.heap.size w2 (w2.alloc (.cells #[.int .i64 av, .slice (some ⟨g, 0, none⟩) L.length cl] 24)) := (Below.refl _ _).alloc (Nat.le_refl _) _
  have B2 := hide ((B1.out.trans (hb.mono B1.out.size)).trans (bA.mono (Nat.le_trans B1.out.size hb.size)))
  have X2 := hide (blk_later (blk_later X1.out hb) bA)
  have P2 := hide (alloc_new w2 (.cells #[.int .i64 av, .slice (some ⟨g, 0, none⟩) L.length cl] 24))
  have L2 := hide (hlm.later bA)
  clear x0 x1 hb bA hlm
  obtain ⟨x0, x1⟩ := pair_cells X2.out rfl
  obtain ⟨p0, p1⟩ := pair_cells P2.out rfl
  go_wp2_with fail
  refine (HCE.out _ _ L2.out.rm).mono ?_
  rintro e w3 ⟨rfl, hb⟩
  have B3 := hide (B2.out.trans (hb.mono B2.out.size))
  have X3 := hide (blk_later X2.out hb)
  have P3 := hide (blk_later P2.out hb)
  have L3 := hide (L2.out.later hb)
  clear hb x0 x1 p0 p1
  obtain ⟨x0, x1⟩ := pair_cells X3.out rfl
  obtain ⟨p0, p1⟩ := pair_cells P3.out rfl
  go_wp2_with fail
  refine (HTD.out _ B3.out).mono ?_
  rintro e w4 ⟨rfl, hb⟩
  have B4 := hide (B3.out.trans (hb.mono B3.out.size))
  have X4 := hide (blk_later X3.out hb)
  have P4 := hide (blk_later P3.out hb)
  have L4 := hide (L3.out.later hb)
  clear hb x0 x1 p0 p1
  go_wp2_with fail
  refine (HWK.out _ B4.out).mono ?_
  rintro e w5 ⟨rfl, hb⟩
  have B5 := hide (B4.out.trans (hb.mono B4.out.size))
  have X5 := hide (blk_later X4.out hb)
  have P5 := hide (blk_later P4.out hb)
  have L5 := hide (L4.out.later hb)
  clear hb
  go_wp2_with fail
  have HT1 := hide (fun x : Gr w5 => total_any av (.slice (some ⟨g, 0, none⟩) L.length cl) L x.1 (L5.out.rm.later x.2) HO.out H1.out HL2.out)
  have HT2 := hide (fun x : Gr w5 => rTotal_any av (.slice a L.length cap) L x.1 ((HR.out.later B5.out).later x.2) HO.out H1.out HL2.out)
  have HM1 := hide (fun x : Gr w5 => marked_any av n (.slice (some ⟨g, 0, none⟩) L.length cl) L x.1 (L5.out.rm.later x.2) HO.out H1.out HL2.out)
  have HM2 := hide (fun x : Gr w5 => rMarked_any av n (.slice a L.length cap) L x.1 ((HR.out.later B5.out).later x.2) HO.out H1.out HL2.out)
  have HC1 := hide (fun x : Gr w5 => cover_any av n (.slice (some ⟨g, 0, none⟩) L.length cl) L x.1 (L5.out.rm.later x.2) HO.out H1.out HL2.out)
  have HC2 := hide (fun x : Gr w5 => rCover_any av n (.slice a L.length cap) L x.1 ((HR.out.later B5.out).later x.2) HO.out H1.out HL2.out)
  have hq1 : (totV av L != totV av L) = false := by simp
  have hq2 : (mkdV av L n != mkdV av L n) = false := by simp
  have hq3 : (covV av L n != covV av L n) = false := by simp
  generalize totV av L = T1 at *
  generalize mkdV av L n = T2 at *
  generalize covV av L n = T3 at *
  have g0 : ∀ x : Gr w5, x.1.cell? ⟨w.heap.size, 0, none⟩ = some (.int .i64 av) := fun x => (pair_cells (blk_later X5.out x.2) rfl).1
  have g1 : ∀ x : Gr w5, x.1.cell? ⟨w.heap.size, 1, none⟩ = some (.slice a L.length cap) := fun x => (pair_cells (blk_later X5.out x.2) rfl).2
  have g2 : ∀ x : Gr w5, x.1.cell? ⟨w2.heap.size, 0, none⟩ = some (.int .i64 av) := fun x => (pair_cells (blk_later P5.out x.2) rfl).1
  have g3 : ∀ x : Gr w5, x.1.cell? ⟨w2.heap.size, 1, none⟩ = some (.slice (some ⟨g, 0, none⟩) L.length cl) := fun x => (pair_cells (blk_later P5.out x.2) rfl).2
  have HG0 := hide ((Below.refl w5.heap.size w5).drew)
  haveI : Nonempty (Gr w5) := ⟨⟨_, HG0.out⟩⟩
  refine region_class (C := fun w' => ∃ x : Gr w5, w' = x.1) (by kernel_rfl) (by kernel_rfl) ⟨⟨_, HG0.out⟩, rfl⟩ ?_
  repeat (first
    | go_big_quiet_skip
    | (go_big_quiet_want; (go_big_quiet_op; first
        | go_big_quiet_on
        | (apply Exists.intro; refine ⟨fun x => ?_, ?_⟩; (first
            | (go_at_call 14; exact x.call (HT1.out x))
            | (go_at_call 15; exact x.call (HT2.out x))
            | (go_at_call 16; exact x.call (HM1.out x))
            | (go_at_call 17; exact x.call (HM2.out x))
            | (go_at_call 18; exact x.call (HC1.out x))
            | (go_at_call 19; exact x.call (HC2.out x))); go_big_quiet_on))))
  refine wpQuiet_nil ?_
  rintro w8 ⟨x, rfl⟩
  obtain ⟨w8, hx8⟩ := x
  dsimp only
  have B8 := hide (B5.out.trans (hx8.mono B5.out.size))
  have X8 := hide (blk_later X5.out hx8)
  have P8 := hide (blk_later P5.out hx8)
  have L8 := hide (L5.out.later hx8)
  clear g0 g1 g2 g3 hx8 HT1 HT2 HM1 HM2 HC1 HC2 HG0 this hq1 hq2 hq3
  go_wp2_with fail
  go_loopw [9] (fun i wr => ∃ k : Nat, k ≤ L.length ∧ i = .int .i64 (k : Int) ∧ Hid (Px wr w.heap.size av (.slice a L.length cap)) ∧ Hid (Px wr w2.heap.size av (.slice (some ⟨g, 0, none⟩) L.length cl)) ∧ Hid (LentM wr w1.heap.size g cl L) ∧ Hid (Below w.heap.size w wr)) (fun i _ => L.length - (intOf i).toNat)
  case atStart => exact ⟨0, Nat.zero_le _, rfl, X8, P8, L8, B8⟩
  case round =>
    clear X8 P8 L8 B8
    obtain ⟨k, hk, rfl, HX, HP, HLM, HB⟩ := hrel
    obtain ⟨x0, x1⟩ := pair_cells HX.out rfl
    obtain ⟨p0, p1⟩ := pair_cells HP.out rfl
    by_cases hlt : k < L.length
    · obtain ⟨⟨N, Q⟩, hp⟩ : ∃ p, L[k]? = some p := ⟨_, List.getElem?_eq_getElem hlt⟩
      obtain ⟨b, off, ha, hbl, hc⟩ := HC.out.resolve_left (fun h => by rw [h] at hlt; simp at hlt)
      have c0 : wr.cell? ⟨b, off + k * 2, none⟩ = some (.int .i64 N) := (HB.out.cell (p := ⟨b, _, none⟩) hbl).trans (hc k _ hp).1
      subst ha
      have hd1 : decide ((k : Int) < (L.length : Int)) = true := by rw [decide_eq_true_eq]; omega
      have k0 : (0 : Int) ≤ (k : Int) := by omega
      have k1 : (k : Int) < (L.length : Int) := by omega
      have wk : wrap64 ((k : Int) + 1) = (k : Int) + 1 := by have := HL.out; unfold wrap64; omega
      clear hc hp
      go_wp2_with fail
      have HT1 := hide (fun x : Gr wr => total_any av (.slice (some ⟨g, 0, none⟩) L.length cl) L x.1 (HLM.out.rm.later x.2) HO.out H1.out HL2.out)
      have HT2 := hide (fun x : Gr wr => rTotal_any av (.slice (some ⟨b, off, none⟩) L.length cap) L x.1 ((HR.out.later HB.out).later x.2) HO.out H1.out HL2.out)
      have HM1 := hide (fun x : Gr wr => marked_any av N (.slice (some ⟨g, 0, none⟩) L.length cl) L x.1 (HLM.out.rm.later x.2) HO.out H1.out HL2.out)
      have HM2 := hide (fun x : Gr wr => rMarked_any av N (.slice (some ⟨b, off, none⟩) L.length cap) L x.1 ((HR.out.later HB.out).later x.2) HO.out H1.out HL2.out)
      have HC1 := hide (fun x : Gr wr => cover_any av N (.slice (some ⟨g, 0, none⟩) L.length cl) L x.1 (HLM.out.rm.later x.2) HO.out H1.out HL2.out)
      have HC2 := hide (fun x : Gr wr => rCover_any av N (.slice (some ⟨b, off, none⟩) L.length cap) L x.1 ((HR.out.later HB.out).later x.2) HO.out H1.out HL2.out)
      have hq1 : (totV av L != totV av L) = false := by simp
      have hq2 : (mkdV av L N != mkdV av L N) = false := by simp
      have hq3 : (covV av L N != covV av L N) = false := by simp
      generalize totV av L = T1 at *
      generalize mkdV av L N = T2 at *
      generalize covV av L N = T3 at *
      have g0 : ∀ x : Gr wr, x.1.cell? ⟨w.heap.size, 0, none⟩ = some (.int .i64 av) := fun x => (pair_cells (blk_later HX.out x.2) rfl).1
      have g1 : ∀ x : Gr wr, x.1.cell? ⟨w.heap.size, 1, none⟩ = some (.slice (some ⟨b, off, none⟩) L.length cap) := fun x => (pair_cells (blk_later HX.out x.2) rfl).2
      have g2 : ∀ x : Gr wr, x.1.cell? ⟨w2.heap.size, 0, none⟩ = some (.int .i64 av) := fun x => (pair_cells (blk_later HP.out x.2) rfl).1
      have g3 : ∀ x : Gr wr, x.1.cell? ⟨w2.heap.size, 1, none⟩ = some (.slice (some ⟨g, 0, none⟩) L.length cl) := fun x => (pair_cells (blk_later HP.out x.2) rfl).2
      have HG0 := hide ((Below.refl wr.heap.size wr).drew)
      haveI : Nonempty (Gr wr) := ⟨⟨_, HG0.out⟩⟩
      refine region_class (C := fun w' => ∃ x : Gr wr, w' = x.1) (by kernel_rfl) (by kernel_rfl) ⟨⟨_, HG0.out⟩, rfl⟩ ?_
      repeat (first
        | go_big_quiet_skip
        | (go_big_quiet_want; (go_big_quiet_op; first
            | go_big_quiet_on
            | (apply Exists.intro; refine ⟨fun x => ?_, ?_⟩; (first
                | (go_at_call 14; exact x.call (HT1.out x))
                | (go_at_call 15; exact x.call (HT2.out x))
                | (go_at_call 16; exact x.call (HM1.out x))
                | (go_at_call 17; exact x.call (HM2.out x))
                | (go_at_call 18; exact x.call (HC1.out x))
                | (go_at_call 19; exact x.call (HC2.out x))); go_big_quiet_on))))
      refine wpQuiet_nil ?_
      rintro w8 ⟨x, rfl⟩
      obtain ⟨w8, hx8⟩ := x
      dsimp only
      have B9 := hide (HB.out.trans (hx8.mono HB.out.size))
      have X9 := hide (blk_later HX.out hx8)
      have P9 := hide (blk_later HP.out hx8)
      have L9 := hide (HLM.out.later hx8)
      clear g0 g1 g2 g3 hx8 HT1 HT2 HM1 HM2 HC1 HC2 HG0 this hq1 hq2 hq3 c0 x0 x1 p0 p1
      go_wp2_with fail
      go_roundw
      case rel => exact ⟨k + 1, by omega, by go_num, X9, P9, L9, B9⟩
      case measure => first | (rw [wk]; simp [intOf]; omega) | (simp [intOf]; omega)
    · have e : k = L.length := by omega
      subst e
      have HKP := hide (keptPos_any av (.slice a L.length cap) L _ g cl wr (HR.out.later HB.out) HLM.out HL.out)
      go_wp2_with fail
      refine HKP.out.mono ?_
      rintro e w9 ⟨rfl, hb⟩
      have B9 := hide (HB.out.trans (hb.mono HB.out.size))
      clear hb
      go_wp2_with fail
      go_ret
      exact ⟨rfl, B9.out⟩
end Go.Proofs.YtmebomifakmkbaaDoor

