/-
  My own text: the law GuardParts (printed by mkg15.py).
-/
import Derived.Test.YtejdchknpfodeabDoorG14
namespace Go.Proofs.YtejdchknpfodeabDoor
open Go.RowKit

theorem fst0_over {L : List Int} {k : Nat} (h : ¬ fst0 (L.take k) = 0) : fst0 L = fst0 (L.take k) := by
  conv => lhs; rw [← List.take_append_drop k L]
  rw [fst0_app, if_neg h]
theorem idE_one : idE 1 = 0 := by rfl
theorem sbE_one (A S : Int) (p : LG.El) : sbE A S 1 [p] = lgE A S p := by
  unfold sbE
  rw [if_pos idE_one, if_neg (by simp), if_neg (by simp)]
  unfold lgsE
  show (if lgE A S p = 0 then 0 else lgE A S p) = _
  split <;> simp_all
theorem snE_one (A S : Int) (p : KY.El) : snE A S [p] = kyE A S p.1 p.2 := by
  unfold snE
  rw [if_neg (by simp)]
  unfold prsE
  show (if kyE A S p.1 p.2 = 0 then 0 else kyE A S p.1 p.2) = _
  split <;> simp_all
theorem sbE_len {A S i : Int} {L : List LG.El} (h : idE i = 0) : sbE A S i L = if 4 < L.length then 5 else if L.length = 0 then 2 else fst0 (L.map (lgE A S)) := by
  unfold sbE lgsE
  rw [if_pos h]
  by_cases h1 : L.length = 0
  · rw [if_pos h1, if_neg (by omega), if_pos h1]
  · rw [if_neg h1, if_neg h1]
theorem lg_sub {w : World} {L : List LG.El} {b off cap : Nat} (hlt : b < w.heap.size) (hcap : L.length ≤ cap) (hc : ∀ (j : Nat) (p : LG.El), L[j]? = some p → w.cell? ⟨b, off + j * 5, none⟩ = some (.int .i64 p.1) ∧ w.cell? ⟨b, off + j * 5 + 1, none⟩ = some (.int .i64 p.2.1) ∧ w.cell? ⟨b, off + j * 5 + 2, none⟩ = some (.int .i64 p.2.2.1) ∧ w.cell? ⟨b, off + j * 5 + 3, none⟩ = some (.int .i64 p.2.2.2.1) ∧ w.cell? ⟨b, off + j * 5 + 4, none⟩ = some (.int .i64 p.2.2.2.2)) {j : Nat} {p : LG.El} (hj : L[j]? = some p) :
    LG.RM w (.slice (some ⟨b, off + j * 5, none⟩) 1 (cap - j)) [p] := by
  have hl := (List.getElem?_eq_some_iff.1 hj).1
  refine ⟨_, _, rfl, by show 1 ≤ cap - j; omega, .inr ⟨b, off + j * 5, rfl, hlt, fun i q hi => ?_⟩⟩
  match i, hi with
  | 0, hi => cases hi; simpa using hc j p hj
theorem ky_sub {w : World} {L : List KY.El} {b off cap : Nat} (hlt : b < w.heap.size) (hcap : L.length ≤ cap) (hc : ∀ (j : Nat) (p : KY.El), L[j]? = some p → w.cell? ⟨b, off + j * 2, none⟩ = some (.int .i64 p.1) ∧ w.cell? ⟨b, off + j * 2 + 1, none⟩ = some (.int .i64 p.2)) {j : Nat} {p : KY.El} (hj : L[j]? = some p) :
    KY.RM w (.slice (some ⟨b, off + j * 2, none⟩) 1 (cap - j)) [p] := by
  have hl := (List.getElem?_eq_some_iff.1 hj).1
  refine ⟨_, _, rfl, by show 1 ≤ cap - j; omega, .inr ⟨b, off + j * 2, rfl, hlt, fun i q hi => ?_⟩⟩
  match i, hi with
  | 0, hi => cases hi; simpa using hc j p hj
set_option maxRecDepth 100000 in
set_option maxHeartbeats 4000000 in
theorem guardParts_law (A S q h k id : Int) (lv pv : Value) (L : List LG.El) (M : List KY.El) (w : World) (hE : ErrType w) (hL : LG.RM w lv L) (hP : KY.RM w pv M) (hl : L.length ≤ 3518437208800) (hp : M.length ≤ 8796093022000) :
    Calls Tryd.prog 3 #[.agg #[.int .i64 A, .int .i64 S, .int .i64 q, .int .i64 h, .int .i64 k], .int .i64 id, lv, pv] w fun e w' => e = .returned (.bool true) ∧ Below w.heap.size w w' := by
  have HW := hide (fun (W : World) (hb : Below w.heap.size w W) => works_any W (hE.below hb))
  have HCL := hide (fun (i : Int) (W : World) (lv : Value) (L : List LG.El) (h1 : LG.RM W lv L) (h2 : L.length ≤ 4611686018427387904) => check_any A S q h k ⟨5, 0, 0, 0, 0, i, L, []⟩ lv (.slice none 0 0) W h1 (KY.RM.nil W) h2 (by simp))
  have HCP := hide (fun (W : World) (pv : Value) (M : List KY.El) (h1 : KY.RM W pv M) (h2 : M.length ≤ 4611686018427387904) => check_any A S q h k ⟨8, 0, 0, 0, 0, 0, [], M⟩ (.slice none 0 0) pv W (LG.RM.nil W) h1 (by simp) h2)
  have HNL := hide (fun (i : Int) (L : List LG.El) (W : World) => num_errV (sbE A S i L) W (sbE_rng A S i L).1 (sbE_rng A S i L).2)
  have HNP := hide (fun (M : List KY.El) (W : World) => num_errV (snE A S M) W (snE_rng A S M).1 (snE_rng A S M).2)
  unfold opV at HCL HCP
  simp only [chk_5 (o := ⟨5, 0, 0, 0, 0, _, _, _⟩) rfl] at HCL
  simp only [chk_8 (o := ⟨8, 0, 0, 0, 0, 0, _, _⟩) rfl] at HCP
  have HL := hide hL
  have HPP := hide hP
  obtain ⟨la, lc, rfl, hlc, hlr⟩ := hL
  obtain ⟨pa, pc, rfl, hpc, hpr⟩ := hP
  have HLR := hide hlr
  have HPR := hide hpr
  clear hlr hpr hE
  have HB0 := hide ((Below.refl w.heap.size w).alloc (Nat.le_refl _) (.cells #[.int .i64 A, .int .i64 S, .int .i64 q, .int .i64 h, .int .i64 k] 23))
  have Z0 := hide (alloc_new w (.cells #[.int .i64 A, .int .i64 S, .int .i64 q, .int .i64 h, .int .i64 k] 23))
  go_enter Tryd.func3, Tryd.ntmps3
  go_wp2_with fail
  refine (HW.out _ HB0.out).mono ?_
  rintro e w1 ⟨rfl, hb⟩
  have HB1 := hide (HB0.out.trans (hb.mono HB0.out.size))
  have Z1 := hide (blk_later Z0.out hb)
  clear hb
  obtain ⟨x0, x1, x2, x3, x4⟩ := five_cells Z1.out rfl
  cases h1 : decide (id < 1)
  case false =>
    cases h2 : decide (1099511627776 < id)
    case false =>
      have HID := hide (show idE id = 0 from if_pos (by have g := of_decide_eq_false h1; have g2 := of_decide_eq_false h2; omega))
      go_wp2_with fail
      refine (HCL.out id _ _ L (HL.out.later HB1.out) (by omega)).mono ?_
      rintro e w2 ⟨rfl, hb⟩
      have HB2 := hide (HB1.out.trans (hb.mono HB1.out.size))
      have Z2 := hide (blk_later Z1.out hb)
      clear hb x0 x1 x2 x3 x4
      obtain ⟨x0, x1, x2, x3, x4⟩ := five_cells Z2.out rfl
      have HN1 := hide (HNL.out id L)
      have HSB := hide (sbE_len (A := A) (S := S) (L := L) HID.out)
      generalize sbE A S id L = got at *
      generalize errV got = ev at *
      go_wp2_with fail
      refine (HN1.out _).mono ?_
      rintro e w3 ⟨rfl, hw3⟩
      obtain rfl := hw3.symm
      go_wp2_with fail
      have HBB := HB2
      have ZB := Z2
      obtain ⟨WB, hWB⟩ : ∃ x, x = w2 := ⟨_, rfl⟩
      subst hWB
      go_loopw [10, 11] (fun u i wr => ∃ (j : Nat) (c1 : Int), j ≤ L.length ∧ i = .int .i64 (j : Int) ∧ u = .int .i64 c1 ∧ Hid (c1 = fst0 ((L.map (lgE A S)).take j)) ∧ Hid (Below WB.heap.size WB wr)) (fun _ i _ => L.length - (intOf i).toNat)
      case atStart => exact ⟨0, 0, Nat.zero_le _, rfl, rfl, hide (by rw [List.take_zero]; rfl), hide (Below.refl _ _)⟩
      case round =>
        clear x0 x1 x2 x3 x4
        obtain ⟨j, c1, hj, rfl, rfl, HT, HWW⟩ := hrel
        by_cases hlt : j < L.length
        · have hd : decide ((j : Int) < (L.length : Int)) = true := by rw [decide_eq_true_eq]; omega
          by_cases h0 : c1 = 0
          · obtain ⟨p, hp5⟩ : ∃ p, L[j]? = some p := ⟨_, List.getElem?_eq_getElem hlt⟩
            obtain ⟨b, off, ha, hbl, hc⟩ := HLR.out.resolve_left (fun h => by rw [h] at hlt; simp at hlt)
            subst ha
            have HBW := hide (HBB.out.trans (HWW.out.mono HBB.out.size))
            have HSUB := hide (lg_sub hbl hlc hc hp5)
            have HM := hide (show (L.map (lgE A S))[j]? = some (lgE A S p) by rw [List.getElem?_map, hp5]; rfl)
            have HT2 := hide (fst0_take (HT.out.symm.trans h0) HM.out)
            have HCK := hide (fun x : Gr wr => HCL.out 1 x.1 (.slice (some ⟨b, off + j * 5, none⟩) 1 (lc - j)) [p] ((HSUB.out).later (HBW.out.trans (x.2.mono HBW.out.size))) (by simp))
            have HNN := hide (HNL.out 1 [p])
            rw [sbE_one] at HNN
            simp only [sbE_one] at HCK
            generalize errV (lgE A S p) = ev2 at *
            generalize lgE A S p = e2 at *
            subst h0
            have ZZ := hide (blk_later ZB.out HWW.out)
            have HX0 := hide ((Below.refl wr.heap.size wr).drew)
            haveI : Nonempty (Gr wr) := ⟨⟨_, HX0.out⟩⟩
            have zx : ∀ x : Gr wr, _ := fun x => five_cells (blk_later ZZ.out x.2) rfl
            have zx0 := fun x => (zx x).1
            have zx1 := fun x => (zx x).2.1
            have zx2 := fun x => (zx x).2.2.1
            have zx3 := fun x => (zx x).2.2.2.1
            have zx4 := fun x => (zx x).2.2.2.2
            have k0 : (0 : Int) ≤ (j : Int) := by omega
            have k1 : (j : Int) < (L.length : Int) := by omega
            have k2 : ((j : Int) + 1) ≤ (lc : Int) := by omega
            have k3 : IntKind.i64.wrap ((j : Int) + 1) = (j : Int) + 1 := by rw [IntKind.wrap_i64]; omega
            have k4 : wrap64 ((j : Int) + 1) = (j : Int) + 1 := by unfold wrap64; omega
            have k5 : ¬ lc = j := by omega
            clear zx hc hbl hp5 HM HSUB
            go_wp2_with fail
            refine region_class (C := fun w' => ∃ x : Gr wr, w' = x.1) (by kernel_rfl) (by kernel_rfl) ⟨⟨_, HX0.out⟩, rfl⟩ ?_
            repeat (first
              | go_big_quiet_skip
              | (go_big_quiet_want; (go_big_quiet_op; first
                  | go_big_quiet_on
                  | (apply Exists.intro; refine ⟨fun x => ?_, ?_⟩; (first
                      | (go_at_call 6; exact x.call (HCK.out x))
                      | (go_at_call 5; exact x.call ((HNN.out x.1).mono fun e w' hh => ⟨hh.1, by rw [hh.2]; exact Below.refl _ _⟩))); go_big_quiet_on))))
            refine wpQuiet_nil ?_
            rintro w5 ⟨x5, rfl⟩
            obtain ⟨w5, hx⟩ := x5
            dsimp only
            have HW2 := hide (HWW.out.trans (hx.mono HWW.out.size))
            clear hx this zx0 zx1 zx2 zx3 zx4
            go_wp2_with fail
            go_roundw
            case rel => exact ⟨j + 1, e2, by omega, by go_num, rfl, hide HT2.out.symm, HW2⟩
            case measure => simp [intOf]; omega
          · have hd1 : (c1 == 0) = false := by rw [beq_eq_false_iff_ne]; exact h0
            have HF := hide (show fst0 (L.map (lgE A S)) = c1 by rw [fst0_over (by rw [← HT.out]; exact h0), ← HT.out])
            have HB5 := hide (HBB.out.trans (HWW.out.mono HBB.out.size))
            have Z5 := hide (blk_later ZB.out HWW.out)
            obtain ⟨x0, x1, x2, x3, x4⟩ := five_cells Z5.out rfl
            clear HBB ZB
            by_cases h4 : 4 < L.length
            · have hq : got = 5 := by rw [HSB.out]; exact if_pos h4
              have hd4 : decide (4 < (L.length : Int)) = true := by rw [decide_eq_true_eq]; omega
              have hd5 : ((L.length : Int) == 0) = false := by rw [beq_eq_false_iff_ne]; omega
              subst hq
              clear h4 HSB
              go_wp2_with fail
              refine (HCP.out _ _ M (HPP.out.later HB5.out) (by omega)).mono ?_
              rintro e w6 ⟨rfl, hb⟩
              have HB6 := hide (HB5.out.trans (hb.mono HB5.out.size))
              have Z6 := hide (blk_later Z5.out hb)
              clear hb x0 x1 x2 x3 x4
              obtain ⟨x0, x1, x2, x3, x4⟩ := five_cells Z6.out rfl
              have HN2 := hide (HNP.out M)
              have HSN : Hid (snE A S M = if 64 < M.length then 5 else fst0 (M.map fun p => kyE A S p.1 p.2)) := hide rfl
              generalize snE A S M = got2 at *
              generalize errV got2 = ev3 at *
              go_wp2_with fail
              refine (HN2.out _).mono ?_
              rintro e w7 ⟨rfl, hw7⟩
              obtain rfl := hw7.symm
              go_wp2_with fail
              have HBB := HB6
              have ZB := Z6
              clear HF HT HWW hd
              obtain ⟨WB, hWB⟩ : ∃ x, x = w6 := ⟨_, rfl⟩
              subst hWB
              go_loopw [10, 12] (fun u i wr => ∃ (j : Nat) (c1 : Int), j ≤ M.length ∧ i = .int .i64 (j : Int) ∧ u = .int .i64 c1 ∧ Hid (c1 = fst0 ((M.map (fun p => kyE A S p.1 p.2)).take j)) ∧ Hid (Below WB.heap.size WB wr)) (fun _ i _ => M.length - (intOf i).toNat)
              case atStart => exact ⟨0, 0, Nat.zero_le _, rfl, rfl, hide (by rw [List.take_zero]; rfl), hide (Below.refl _ _)⟩
              case round =>
                clear x0 x1 x2 x3 x4
                obtain ⟨j, c1, hj, rfl, rfl, HT, HWW⟩ := hrel
                by_cases hlt : j < M.length
                · have hd : decide ((j : Int) < (M.length : Int)) = true := by rw [decide_eq_true_eq]; omega
                  by_cases h0 : c1 = 0
                  · obtain ⟨p, hp5⟩ : ∃ p, M[j]? = some p := ⟨_, List.getElem?_eq_getElem hlt⟩
                    obtain ⟨b, off, ha, hbl, hc⟩ := HPR.out.resolve_left (fun h => by rw [h] at hlt; simp at hlt)
                    subst ha
                    have HBW := hide (HBB.out.trans (HWW.out.mono HBB.out.size))
                    have HSUB := hide (ky_sub hbl hpc hc hp5)
                    have HM := hide (show (M.map (fun p => kyE A S p.1 p.2))[j]? = some (kyE A S p.1 p.2) by rw [List.getElem?_map, hp5]; rfl)
                    have HT2 := hide (fst0_take (HT.out.symm.trans h0) HM.out)
                    have HCK := hide (fun x : Gr wr => HCP.out x.1 (.slice (some ⟨b, off + j * 2, none⟩) 1 (pc - j)) [p] ((HSUB.out).later (HBW.out.trans (x.2.mono HBW.out.size))) (by simp))
                    have HNN := hide (HNP.out [p])
                    rw [snE_one] at HNN
                    simp only [snE_one] at HCK
                    generalize errV (kyE A S p.1 p.2) = ev2 at *
                    generalize kyE A S p.1 p.2 = e2 at *
                    subst h0
                    have ZZ := hide (blk_later ZB.out HWW.out)
                    have HX0 := hide ((Below.refl wr.heap.size wr).drew)
                    haveI : Nonempty (Gr wr) := ⟨⟨_, HX0.out⟩⟩
                    have zx : ∀ x : Gr wr, _ := fun x => five_cells (blk_later ZZ.out x.2) rfl
                    have zx0 := fun x => (zx x).1
                    have zx1 := fun x => (zx x).2.1
                    have zx2 := fun x => (zx x).2.2.1
                    have zx3 := fun x => (zx x).2.2.2.1
                    have zx4 := fun x => (zx x).2.2.2.2
                    have k0 : (0 : Int) ≤ (j : Int) := by omega
                    have k1 : (j : Int) < (M.length : Int) := by omega
                    have k2 : ((j : Int) + 1) ≤ (pc : Int) := by omega
                    have k3 : IntKind.i64.wrap ((j : Int) + 1) = (j : Int) + 1 := by rw [IntKind.wrap_i64]; omega
                    have k4 : wrap64 ((j : Int) + 1) = (j : Int) + 1 := by unfold wrap64; omega
                    have k5 : ¬ pc = j := by omega
                    clear zx hc hbl hp5 HM HSUB
                    go_wp2_with fail
                    refine region_class (C := fun w' => ∃ x : Gr wr, w' = x.1) (by kernel_rfl) (by kernel_rfl) ⟨⟨_, HX0.out⟩, rfl⟩ ?_
                    repeat (first
                      | go_big_quiet_skip
                      | (go_big_quiet_want; (go_big_quiet_op; first
                          | go_big_quiet_on
                          | (apply Exists.intro; refine ⟨fun x => ?_, ?_⟩; (first
                              | (go_at_call 6; exact x.call (HCK.out x))
                              | (go_at_call 5; exact x.call ((HNN.out x.1).mono fun e w' hh => ⟨hh.1, by rw [hh.2]; exact Below.refl _ _⟩))); go_big_quiet_on))))
                    refine wpQuiet_nil ?_
                    rintro w5 ⟨x5, rfl⟩
                    obtain ⟨w5, hx⟩ := x5
                    dsimp only
                    have HW2 := hide (HWW.out.trans (hx.mono HWW.out.size))
                    clear hx this zx0 zx1 zx2 zx3 zx4
                    go_wp2_with fail
                    go_roundw
                    case rel => exact ⟨j + 1, e2, by omega, by go_num, rfl, hide HT2.out.symm, HW2⟩
                    case measure => simp [intOf]; omega
                  · have hd1 : (c1 == 0) = false := by rw [beq_eq_false_iff_ne]; exact h0
                    have HF := hide (show fst0 (M.map (fun p => kyE A S p.1 p.2)) = c1 by rw [fst0_over (by rw [← HT.out]; exact h0), ← HT.out])
                    have HBF := hide (HBB.out.trans (HWW.out.mono HBB.out.size))
                    by_cases h6 : 64 < M.length
                    · have hq : got2 = 5 := by rw [HSN.out]; exact if_pos h6
                      have hd6 : decide (64 < (M.length : Int)) = true := by rw [decide_eq_true_eq]; omega
                      subst hq
                      clear h6
                      go_wp2_with fail
                      go_ret
                      exact ⟨rfl, HBF.out⟩
                    · have hq : got2 = c1 := by rw [HSN.out, if_neg h6]; exact HF.out
                      have hd6 : decide (64 < (M.length : Int)) = false := by rw [decide_eq_false_iff_not]; omega
                      have hd7 : (c1 == c1) = true := by simp
                      subst hq
                      clear h6
                      go_wp2_with fail
                      go_ret
                      exact ⟨rfl, HBF.out⟩
                · have hd : decide ((j : Int) < (M.length : Int)) = false := by rw [decide_eq_false_iff_not]; omega
                  have HF := hide (show fst0 (M.map (fun p => kyE A S p.1 p.2)) = c1 by
                    have h1 := HT.out
                    rw [List.take_of_length_le (by simp; omega)] at h1
                    exact h1.symm)
                  have HBF := hide (HBB.out.trans (HWW.out.mono HBB.out.size))
                  by_cases h6 : 64 < M.length
                  · have hq : got2 = 5 := by rw [HSN.out]; exact if_pos h6
                    have hd6 : decide (64 < (M.length : Int)) = true := by rw [decide_eq_true_eq]; omega
                    subst hq
                    clear h6
                    go_wp2_with fail
                    go_ret
                    exact ⟨rfl, HBF.out⟩
                  · have hq : got2 = c1 := by rw [HSN.out, if_neg h6]; exact HF.out
                    have hd6 : decide (64 < (M.length : Int)) = false := by rw [decide_eq_false_iff_not]; omega
                    have hd7 : (c1 == c1) = true := by simp
                    subst hq
                    clear h6
                    go_wp2_with fail
                    go_ret
                    exact ⟨rfl, HBF.out⟩
            · have hd4 : decide (4 < (L.length : Int)) = false := by rw [decide_eq_false_iff_not]; omega
              by_cases h5 : L.length = 0
              · have hq : got = 2 := by rw [HSB.out, if_neg h4]; exact if_pos h5
                have hd5 : ((L.length : Int) == 0) = true := by rw [beq_iff_eq]; omega
                subst hq
                clear h4 h5 HSB
                go_wp2_with fail
                refine (HCP.out _ _ M (HPP.out.later HB5.out) (by omega)).mono ?_
                rintro e w6 ⟨rfl, hb⟩
                have HB6 := hide (HB5.out.trans (hb.mono HB5.out.size))
                have Z6 := hide (blk_later Z5.out hb)
                clear hb x0 x1 x2 x3 x4
                obtain ⟨x0, x1, x2, x3, x4⟩ := five_cells Z6.out rfl
                have HN2 := hide (HNP.out M)
                have HSN : Hid (snE A S M = if 64 < M.length then 5 else fst0 (M.map fun p => kyE A S p.1 p.2)) := hide rfl
                generalize snE A S M = got2 at *
                generalize errV got2 = ev3 at *
                go_wp2_with fail
                refine (HN2.out _).mono ?_
                rintro e w7 ⟨rfl, hw7⟩
                obtain rfl := hw7.symm
                go_wp2_with fail
                have HBB := HB6
                have ZB := Z6
                clear HF HT HWW hd
                obtain ⟨WB, hWB⟩ : ∃ x, x = w6 := ⟨_, rfl⟩
                subst hWB
                go_loopw [10, 12] (fun u i wr => ∃ (j : Nat) (c1 : Int), j ≤ M.length ∧ i = .int .i64 (j : Int) ∧ u = .int .i64 c1 ∧ Hid (c1 = fst0 ((M.map (fun p => kyE A S p.1 p.2)).take j)) ∧ Hid (Below WB.heap.size WB wr)) (fun _ i _ => M.length - (intOf i).toNat)
                case atStart => exact ⟨0, 0, Nat.zero_le _, rfl, rfl, hide (by rw [List.take_zero]; rfl), hide (Below.refl _ _)⟩
                case round =>
                  clear x0 x1 x2 x3 x4
                  obtain ⟨j, c1, hj, rfl, rfl, HT, HWW⟩ := hrel
                  by_cases hlt : j < M.length
                  · have hd : decide ((j : Int) < (M.length : Int)) = true := by rw [decide_eq_true_eq]; omega
                    by_cases h0 : c1 = 0
                    · obtain ⟨p, hp5⟩ : ∃ p, M[j]? = some p := ⟨_, List.getElem?_eq_getElem hlt⟩
                      obtain ⟨b, off, ha, hbl, hc⟩ := HPR.out.resolve_left (fun h => by rw [h] at hlt; simp at hlt)
                      subst ha
                      have HBW := hide (HBB.out.trans (HWW.out.mono HBB.out.size))
                      have HSUB := hide (ky_sub hbl hpc hc hp5)
                      have HM := hide (show (M.map (fun p => kyE A S p.1 p.2))[j]? = some (kyE A S p.1 p.2) by rw [List.getElem?_map, hp5]; rfl)
                      have HT2 := hide (fst0_take (HT.out.symm.trans h0) HM.out)
                      have HCK := hide (fun x : Gr wr => HCP.out x.1 (.slice (some ⟨b, off + j * 2, none⟩) 1 (pc - j)) [p] ((HSUB.out).later (HBW.out.trans (x.2.mono HBW.out.size))) (by simp))
                      have HNN := hide (HNP.out [p])
                      rw [snE_one] at HNN
                      simp only [snE_one] at HCK
                      generalize errV (kyE A S p.1 p.2) = ev2 at *
                      generalize kyE A S p.1 p.2 = e2 at *
                      subst h0
                      have ZZ := hide (blk_later ZB.out HWW.out)
                      have HX0 := hide ((Below.refl wr.heap.size wr).drew)
                      haveI : Nonempty (Gr wr) := ⟨⟨_, HX0.out⟩⟩
                      have zx : ∀ x : Gr wr, _ := fun x => five_cells (blk_later ZZ.out x.2) rfl
                      have zx0 := fun x => (zx x).1
                      have zx1 := fun x => (zx x).2.1
                      have zx2 := fun x => (zx x).2.2.1
                      have zx3 := fun x => (zx x).2.2.2.1
                      have zx4 := fun x => (zx x).2.2.2.2
                      have k0 : (0 : Int) ≤ (j : Int) := by omega
                      have k1 : (j : Int) < (M.length : Int) := by omega
                      have k2 : ((j : Int) + 1) ≤ (pc : Int) := by omega
                      have k3 : IntKind.i64.wrap ((j : Int) + 1) = (j : Int) + 1 := by rw [IntKind.wrap_i64]; omega
                      have k4 : wrap64 ((j : Int) + 1) = (j : Int) + 1 := by unfold wrap64; omega
                      have k5 : ¬ pc = j := by omega
                      clear zx hc hbl hp5 HM HSUB
                      go_wp2_with fail
                      refine region_class (C := fun w' => ∃ x : Gr wr, w' = x.1) (by kernel_rfl) (by kernel_rfl) ⟨⟨_, HX0.out⟩, rfl⟩ ?_
                      repeat (first
                        | go_big_quiet_skip
                        | (go_big_quiet_want; (go_big_quiet_op; first
                            | go_big_quiet_on
                            | (apply Exists.intro; refine ⟨fun x => ?_, ?_⟩; (first
                                | (go_at_call 6; exact x.call (HCK.out x))
                                | (go_at_call 5; exact x.call ((HNN.out x.1).mono fun e w' hh => ⟨hh.1, by rw [hh.2]; exact Below.refl _ _⟩))); go_big_quiet_on))))
                      refine wpQuiet_nil ?_
                      rintro w5 ⟨x5, rfl⟩
                      obtain ⟨w5, hx⟩ := x5
                      dsimp only
                      have HW2 := hide (HWW.out.trans (hx.mono HWW.out.size))
                      clear hx this zx0 zx1 zx2 zx3 zx4
                      go_wp2_with fail
                      go_roundw
                      case rel => exact ⟨j + 1, e2, by omega, by go_num, rfl, hide HT2.out.symm, HW2⟩
                      case measure => simp [intOf]; omega
                    · have hd1 : (c1 == 0) = false := by rw [beq_eq_false_iff_ne]; exact h0
                      have HF := hide (show fst0 (M.map (fun p => kyE A S p.1 p.2)) = c1 by rw [fst0_over (by rw [← HT.out]; exact h0), ← HT.out])
                      have HBF := hide (HBB.out.trans (HWW.out.mono HBB.out.size))
                      by_cases h6 : 64 < M.length
                      · have hq : got2 = 5 := by rw [HSN.out]; exact if_pos h6
                        have hd6 : decide (64 < (M.length : Int)) = true := by rw [decide_eq_true_eq]; omega
                        subst hq
                        clear h6
                        go_wp2_with fail
                        go_ret
                        exact ⟨rfl, HBF.out⟩
                      · have hq : got2 = c1 := by rw [HSN.out, if_neg h6]; exact HF.out
                        have hd6 : decide (64 < (M.length : Int)) = false := by rw [decide_eq_false_iff_not]; omega
                        have hd7 : (c1 == c1) = true := by simp
                        subst hq
                        clear h6
                        go_wp2_with fail
                        go_ret
                        exact ⟨rfl, HBF.out⟩
                  · have hd : decide ((j : Int) < (M.length : Int)) = false := by rw [decide_eq_false_iff_not]; omega
                    have HF := hide (show fst0 (M.map (fun p => kyE A S p.1 p.2)) = c1 by
                      have h1 := HT.out
                      rw [List.take_of_length_le (by simp; omega)] at h1
                      exact h1.symm)
                    have HBF := hide (HBB.out.trans (HWW.out.mono HBB.out.size))
                    by_cases h6 : 64 < M.length
                    · have hq : got2 = 5 := by rw [HSN.out]; exact if_pos h6
                      have hd6 : decide (64 < (M.length : Int)) = true := by rw [decide_eq_true_eq]; omega
                      subst hq
                      clear h6
                      go_wp2_with fail
                      go_ret
                      exact ⟨rfl, HBF.out⟩
                    · have hq : got2 = c1 := by rw [HSN.out, if_neg h6]; exact HF.out
                      have hd6 : decide (64 < (M.length : Int)) = false := by rw [decide_eq_false_iff_not]; omega
                      have hd7 : (c1 == c1) = true := by simp
                      subst hq
                      clear h6
                      go_wp2_with fail
                      go_ret
                      exact ⟨rfl, HBF.out⟩
              · have hq : got = c1 := by rw [HSB.out, if_neg h4, if_neg h5]; exact HF.out
                have hd5 : ((L.length : Int) == 0) = false := by rw [beq_eq_false_iff_ne]; omega
                have hd7 : (c1 != c1) = false := by simp
                subst hq
                clear h4 h5 HSB
                go_wp2_with fail
                refine (HCP.out _ _ M (HPP.out.later HB5.out) (by omega)).mono ?_
                rintro e w6 ⟨rfl, hb⟩
                have HB6 := hide (HB5.out.trans (hb.mono HB5.out.size))
                have Z6 := hide (blk_later Z5.out hb)
                clear hb x0 x1 x2 x3 x4
                obtain ⟨x0, x1, x2, x3, x4⟩ := five_cells Z6.out rfl
                have HN2 := hide (HNP.out M)
                have HSN : Hid (snE A S M = if 64 < M.length then 5 else fst0 (M.map fun p => kyE A S p.1 p.2)) := hide rfl
                generalize snE A S M = got2 at *
                generalize errV got2 = ev3 at *
                go_wp2_with fail
                refine (HN2.out _).mono ?_
                rintro e w7 ⟨rfl, hw7⟩
                obtain rfl := hw7.symm
                go_wp2_with fail
                have HBB := HB6
                have ZB := Z6
                clear HF HT HWW hd
                obtain ⟨WB, hWB⟩ : ∃ x, x = w6 := ⟨_, rfl⟩
                subst hWB
                go_loopw [10, 12] (fun u i wr => ∃ (j : Nat) (c1 : Int), j ≤ M.length ∧ i = .int .i64 (j : Int) ∧ u = .int .i64 c1 ∧ Hid (c1 = fst0 ((M.map (fun p => kyE A S p.1 p.2)).take j)) ∧ Hid (Below WB.heap.size WB wr)) (fun _ i _ => M.length - (intOf i).toNat)
                case atStart => exact ⟨0, 0, Nat.zero_le _, rfl, rfl, hide (by rw [List.take_zero]; rfl), hide (Below.refl _ _)⟩
                case round =>
                  clear x0 x1 x2 x3 x4
                  obtain ⟨j, c1, hj, rfl, rfl, HT, HWW⟩ := hrel
                  by_cases hlt : j < M.length
                  · have hd : decide ((j : Int) < (M.length : Int)) = true := by rw [decide_eq_true_eq]; omega
                    by_cases h0 : c1 = 0
                    · obtain ⟨p, hp5⟩ : ∃ p, M[j]? = some p := ⟨_, List.getElem?_eq_getElem hlt⟩
                      obtain ⟨b, off, ha, hbl, hc⟩ := HPR.out.resolve_left (fun h => by rw [h] at hlt; simp at hlt)
                      subst ha
                      have HBW := hide (HBB.out.trans (HWW.out.mono HBB.out.size))
                      have HSUB := hide (ky_sub hbl hpc hc hp5)
                      have HM := hide (show (M.map (fun p => kyE A S p.1 p.2))[j]? = some (kyE A S p.1 p.2) by rw [List.getElem?_map, hp5]; rfl)
                      have HT2 := hide (fst0_take (HT.out.symm.trans h0) HM.out)
                      have HCK := hide (fun x : Gr wr => HCP.out x.1 (.slice (some ⟨b, off + j * 2, none⟩) 1 (pc - j)) [p] ((HSUB.out).later (HBW.out.trans (x.2.mono HBW.out.size))) (by simp))
                      have HNN := hide (HNP.out [p])
                      rw [snE_one] at HNN
                      simp only [snE_one] at HCK
                      generalize errV (kyE A S p.1 p.2) = ev2 at *
                      generalize kyE A S p.1 p.2 = e2 at *
                      subst h0
                      have ZZ := hide (blk_later ZB.out HWW.out)
                      have HX0 := hide ((Below.refl wr.heap.size wr).drew)
                      haveI : Nonempty (Gr wr) := ⟨⟨_, HX0.out⟩⟩
                      have zx : ∀ x : Gr wr, _ := fun x => five_cells (blk_later ZZ.out x.2) rfl
                      have zx0 := fun x => (zx x).1
                      have zx1 := fun x => (zx x).2.1
                      have zx2 := fun x => (zx x).2.2.1
                      have zx3 := fun x => (zx x).2.2.2.1
                      have zx4 := fun x => (zx x).2.2.2.2
                      have k0 : (0 : Int) ≤ (j : Int) := by omega
                      have k1 : (j : Int) < (M.length : Int) := by omega
                      have k2 : ((j : Int) + 1) ≤ (pc : Int) := by omega
                      have k3 : IntKind.i64.wrap ((j : Int) + 1) = (j : Int) + 1 := by rw [IntKind.wrap_i64]; omega
                      have k4 : wrap64 ((j : Int) + 1) = (j : Int) + 1 := by unfold wrap64; omega
                      have k5 : ¬ pc = j := by omega
                      clear zx hc hbl hp5 HM HSUB
                      go_wp2_with fail
                      refine region_class (C := fun w' => ∃ x : Gr wr, w' = x.1) (by kernel_rfl) (by kernel_rfl) ⟨⟨_, HX0.out⟩, rfl⟩ ?_
                      repeat (first
                        | go_big_quiet_skip
                        | (go_big_quiet_want; (go_big_quiet_op; first
                            | go_big_quiet_on
                            | (apply Exists.intro; refine ⟨fun x => ?_, ?_⟩; (first
                                | (go_at_call 6; exact x.call (HCK.out x))
                                | (go_at_call 5; exact x.call ((HNN.out x.1).mono fun e w' hh => ⟨hh.1, by rw [hh.2]; exact Below.refl _ _⟩))); go_big_quiet_on))))
                      refine wpQuiet_nil ?_
                      rintro w5 ⟨x5, rfl⟩
                      obtain ⟨w5, hx⟩ := x5
                      dsimp only
                      have HW2 := hide (HWW.out.trans (hx.mono HWW.out.size))
                      clear hx this zx0 zx1 zx2 zx3 zx4
                      go_wp2_with fail
                      go_roundw
                      case rel => exact ⟨j + 1, e2, by omega, by go_num, rfl, hide HT2.out.symm, HW2⟩
                      case measure => simp [intOf]; omega
                    · have hd1 : (c1 == 0) = false := by rw [beq_eq_false_iff_ne]; exact h0
                      have HF := hide (show fst0 (M.map (fun p => kyE A S p.1 p.2)) = c1 by rw [fst0_over (by rw [← HT.out]; exact h0), ← HT.out])
                      have HBF := hide (HBB.out.trans (HWW.out.mono HBB.out.size))
                      by_cases h6 : 64 < M.length
                      · have hq : got2 = 5 := by rw [HSN.out]; exact if_pos h6
                        have hd6 : decide (64 < (M.length : Int)) = true := by rw [decide_eq_true_eq]; omega
                        subst hq
                        clear h6
                        go_wp2_with fail
                        go_ret
                        exact ⟨rfl, HBF.out⟩
                      · have hq : got2 = c1 := by rw [HSN.out, if_neg h6]; exact HF.out
                        have hd6 : decide (64 < (M.length : Int)) = false := by rw [decide_eq_false_iff_not]; omega
                        have hd7 : (c1 == c1) = true := by simp
                        subst hq
                        clear h6
                        go_wp2_with fail
                        go_ret
                        exact ⟨rfl, HBF.out⟩
                  · have hd : decide ((j : Int) < (M.length : Int)) = false := by rw [decide_eq_false_iff_not]; omega
                    have HF := hide (show fst0 (M.map (fun p => kyE A S p.1 p.2)) = c1 by
                      have h1 := HT.out
                      rw [List.take_of_length_le (by simp; omega)] at h1
                      exact h1.symm)
                    have HBF := hide (HBB.out.trans (HWW.out.mono HBB.out.size))
                    by_cases h6 : 64 < M.length
                    · have hq : got2 = 5 := by rw [HSN.out]; exact if_pos h6
                      have hd6 : decide (64 < (M.length : Int)) = true := by rw [decide_eq_true_eq]; omega
                      subst hq
                      clear h6
                      go_wp2_with fail
                      go_ret
                      exact ⟨rfl, HBF.out⟩
                    · have hq : got2 = c1 := by rw [HSN.out, if_neg h6]; exact HF.out
                      have hd6 : decide (64 < (M.length : Int)) = false := by rw [decide_eq_false_iff_not]; omega
                      have hd7 : (c1 == c1) = true := by simp
                      subst hq
                      clear h6
                      go_wp2_with fail
                      go_ret
                      exact ⟨rfl, HBF.out⟩
        · have hd : decide ((j : Int) < (L.length : Int)) = false := by rw [decide_eq_false_iff_not]; omega
          have HF := hide (show fst0 (L.map (lgE A S)) = c1 by
            have h1 := HT.out
            rw [List.take_of_length_le (by simp; omega)] at h1
            exact h1.symm)
          have HB5 := hide (HBB.out.trans (HWW.out.mono HBB.out.size))
          have Z5 := hide (blk_later ZB.out HWW.out)
          obtain ⟨x0, x1, x2, x3, x4⟩ := five_cells Z5.out rfl
          clear HBB ZB
          by_cases h4 : 4 < L.length
          · have hq : got = 5 := by rw [HSB.out]; exact if_pos h4
            have hd4 : decide (4 < (L.length : Int)) = true := by rw [decide_eq_true_eq]; omega
            have hd5 : ((L.length : Int) == 0) = false := by rw [beq_eq_false_iff_ne]; omega
            subst hq
            clear h4 HSB
            go_wp2_with fail
            refine (HCP.out _ _ M (HPP.out.later HB5.out) (by omega)).mono ?_
            rintro e w6 ⟨rfl, hb⟩
            have HB6 := hide (HB5.out.trans (hb.mono HB5.out.size))
            have Z6 := hide (blk_later Z5.out hb)
            clear hb x0 x1 x2 x3 x4
            obtain ⟨x0, x1, x2, x3, x4⟩ := five_cells Z6.out rfl
            have HN2 := hide (HNP.out M)
            have HSN : Hid (snE A S M = if 64 < M.length then 5 else fst0 (M.map fun p => kyE A S p.1 p.2)) := hide rfl
            generalize snE A S M = got2 at *
            generalize errV got2 = ev3 at *
            go_wp2_with fail
            refine (HN2.out _).mono ?_
            rintro e w7 ⟨rfl, hw7⟩
            obtain rfl := hw7.symm
            go_wp2_with fail
            have HBB := HB6
            have ZB := Z6
            clear HF HT HWW hd
            obtain ⟨WB, hWB⟩ : ∃ x, x = w6 := ⟨_, rfl⟩
            subst hWB
            go_loopw [10, 12] (fun u i wr => ∃ (j : Nat) (c1 : Int), j ≤ M.length ∧ i = .int .i64 (j : Int) ∧ u = .int .i64 c1 ∧ Hid (c1 = fst0 ((M.map (fun p => kyE A S p.1 p.2)).take j)) ∧ Hid (Below WB.heap.size WB wr)) (fun _ i _ => M.length - (intOf i).toNat)
            case atStart => exact ⟨0, 0, Nat.zero_le _, rfl, rfl, hide (by rw [List.take_zero]; rfl), hide (Below.refl _ _)⟩
            case round =>
              clear x0 x1 x2 x3 x4
              obtain ⟨j, c1, hj, rfl, rfl, HT, HWW⟩ := hrel
              by_cases hlt : j < M.length
              · have hd : decide ((j : Int) < (M.length : Int)) = true := by rw [decide_eq_true_eq]; omega
                by_cases h0 : c1 = 0
                · obtain ⟨p, hp5⟩ : ∃ p, M[j]? = some p := ⟨_, List.getElem?_eq_getElem hlt⟩
                  obtain ⟨b, off, ha, hbl, hc⟩ := HPR.out.resolve_left (fun h => by rw [h] at hlt; simp at hlt)
                  subst ha
                  have HBW := hide (HBB.out.trans (HWW.out.mono HBB.out.size))
                  have HSUB := hide (ky_sub hbl hpc hc hp5)
                  have HM := hide (show (M.map (fun p => kyE A S p.1 p.2))[j]? = some (kyE A S p.1 p.2) by rw [List.getElem?_map, hp5]; rfl)
                  have HT2 := hide (fst0_take (HT.out.symm.trans h0) HM.out)
                  have HCK := hide (fun x : Gr wr => HCP.out x.1 (.slice (some ⟨b, off + j * 2, none⟩) 1 (pc - j)) [p] ((HSUB.out).later (HBW.out.trans (x.2.mono HBW.out.size))) (by simp))
                  have HNN := hide (HNP.out [p])
                  rw [snE_one] at HNN
                  simp only [snE_one] at HCK
                  generalize errV (kyE A S p.1 p.2) = ev2 at *
                  generalize kyE A S p.1 p.2 = e2 at *
                  subst h0
                  have ZZ := hide (blk_later ZB.out HWW.out)
                  have HX0 := hide ((Below.refl wr.heap.size wr).drew)
                  haveI : Nonempty (Gr wr) := ⟨⟨_, HX0.out⟩⟩
                  have zx : ∀ x : Gr wr, _ := fun x => five_cells (blk_later ZZ.out x.2) rfl
                  have zx0 := fun x => (zx x).1
                  have zx1 := fun x => (zx x).2.1
                  have zx2 := fun x => (zx x).2.2.1
                  have zx3 := fun x => (zx x).2.2.2.1
                  have zx4 := fun x => (zx x).2.2.2.2
                  have k0 : (0 : Int) ≤ (j : Int) := by omega
                  have k1 : (j : Int) < (M.length : Int) := by omega
                  have k2 : ((j : Int) + 1) ≤ (pc : Int) := by omega
                  have k3 : IntKind.i64.wrap ((j : Int) + 1) = (j : Int) + 1 := by rw [IntKind.wrap_i64]; omega
                  have k4 : wrap64 ((j : Int) + 1) = (j : Int) + 1 := by unfold wrap64; omega
                  have k5 : ¬ pc = j := by omega
                  clear zx hc hbl hp5 HM HSUB
                  go_wp2_with fail
                  refine region_class (C := fun w' => ∃ x : Gr wr, w' = x.1) (by kernel_rfl) (by kernel_rfl) ⟨⟨_, HX0.out⟩, rfl⟩ ?_
                  repeat (first
                    | go_big_quiet_skip
                    | (go_big_quiet_want; (go_big_quiet_op; first
                        | go_big_quiet_on
                        | (apply Exists.intro; refine ⟨fun x => ?_, ?_⟩; (first
                            | (go_at_call 6; exact x.call (HCK.out x))
                            | (go_at_call 5; exact x.call ((HNN.out x.1).mono fun e w' hh => ⟨hh.1, by rw [hh.2]; exact Below.refl _ _⟩))); go_big_quiet_on))))
                  refine wpQuiet_nil ?_
                  rintro w5 ⟨x5, rfl⟩
                  obtain ⟨w5, hx⟩ := x5
                  dsimp only
                  have HW2 := hide (HWW.out.trans (hx.mono HWW.out.size))
                  clear hx this zx0 zx1 zx2 zx3 zx4
                  go_wp2_with fail
                  go_roundw
                  case rel => exact ⟨j + 1, e2, by omega, by go_num, rfl, hide HT2.out.symm, HW2⟩
                  case measure => simp [intOf]; omega
                · have hd1 : (c1 == 0) = false := by rw [beq_eq_false_iff_ne]; exact h0
                  have HF := hide (show fst0 (M.map (fun p => kyE A S p.1 p.2)) = c1 by rw [fst0_over (by rw [← HT.out]; exact h0), ← HT.out])
                  have HBF := hide (HBB.out.trans (HWW.out.mono HBB.out.size))
                  by_cases h6 : 64 < M.length
                  · have hq : got2 = 5 := by rw [HSN.out]; exact if_pos h6
                    have hd6 : decide (64 < (M.length : Int)) = true := by rw [decide_eq_true_eq]; omega
                    subst hq
                    clear h6
                    go_wp2_with fail
                    go_ret
                    exact ⟨rfl, HBF.out⟩
                  · have hq : got2 = c1 := by rw [HSN.out, if_neg h6]; exact HF.out
                    have hd6 : decide (64 < (M.length : Int)) = false := by rw [decide_eq_false_iff_not]; omega
                    have hd7 : (c1 == c1) = true := by simp
                    subst hq
                    clear h6
                    go_wp2_with fail
                    go_ret
                    exact ⟨rfl, HBF.out⟩
              · have hd : decide ((j : Int) < (M.length : Int)) = false := by rw [decide_eq_false_iff_not]; omega
                have HF := hide (show fst0 (M.map (fun p => kyE A S p.1 p.2)) = c1 by
                  have h1 := HT.out
                  rw [List.take_of_length_le (by simp; omega)] at h1
                  exact h1.symm)
                have HBF := hide (HBB.out.trans (HWW.out.mono HBB.out.size))
                by_cases h6 : 64 < M.length
                · have hq : got2 = 5 := by rw [HSN.out]; exact if_pos h6
                  have hd6 : decide (64 < (M.length : Int)) = true := by rw [decide_eq_true_eq]; omega
                  subst hq
                  clear h6
                  go_wp2_with fail
                  go_ret
                  exact ⟨rfl, HBF.out⟩
                · have hq : got2 = c1 := by rw [HSN.out, if_neg h6]; exact HF.out
                  have hd6 : decide (64 < (M.length : Int)) = false := by rw [decide_eq_false_iff_not]; omega
                  have hd7 : (c1 == c1) = true := by simp
                  subst hq
                  clear h6
                  go_wp2_with fail
                  go_ret
                  exact ⟨rfl, HBF.out⟩
          · have hd4 : decide (4 < (L.length : Int)) = false := by rw [decide_eq_false_iff_not]; omega
            by_cases h5 : L.length = 0
            · have hq : got = 2 := by rw [HSB.out, if_neg h4]; exact if_pos h5
              have hd5 : ((L.length : Int) == 0) = true := by rw [beq_iff_eq]; omega
              subst hq
              clear h4 h5 HSB
              go_wp2_with fail
              refine (HCP.out _ _ M (HPP.out.later HB5.out) (by omega)).mono ?_
              rintro e w6 ⟨rfl, hb⟩
              have HB6 := hide (HB5.out.trans (hb.mono HB5.out.size))
              have Z6 := hide (blk_later Z5.out hb)
              clear hb x0 x1 x2 x3 x4
              obtain ⟨x0, x1, x2, x3, x4⟩ := five_cells Z6.out rfl
              have HN2 := hide (HNP.out M)
              have HSN : Hid (snE A S M = if 64 < M.length then 5 else fst0 (M.map fun p => kyE A S p.1 p.2)) := hide rfl
              generalize snE A S M = got2 at *
              generalize errV got2 = ev3 at *
              go_wp2_with fail
              refine (HN2.out _).mono ?_
              rintro e w7 ⟨rfl, hw7⟩
              obtain rfl := hw7.symm
              go_wp2_with fail
              have HBB := HB6
              have ZB := Z6
              clear HF HT HWW hd
              obtain ⟨WB, hWB⟩ : ∃ x, x = w6 := ⟨_, rfl⟩
              subst hWB
              go_loopw [10, 12] (fun u i wr => ∃ (j : Nat) (c1 : Int), j ≤ M.length ∧ i = .int .i64 (j : Int) ∧ u = .int .i64 c1 ∧ Hid (c1 = fst0 ((M.map (fun p => kyE A S p.1 p.2)).take j)) ∧ Hid (Below WB.heap.size WB wr)) (fun _ i _ => M.length - (intOf i).toNat)
              case atStart => exact ⟨0, 0, Nat.zero_le _, rfl, rfl, hide (by rw [List.take_zero]; rfl), hide (Below.refl _ _)⟩
              case round =>
                clear x0 x1 x2 x3 x4
                obtain ⟨j, c1, hj, rfl, rfl, HT, HWW⟩ := hrel
                by_cases hlt : j < M.length
                · have hd : decide ((j : Int) < (M.length : Int)) = true := by rw [decide_eq_true_eq]; omega
                  by_cases h0 : c1 = 0
                  · obtain ⟨p, hp5⟩ : ∃ p, M[j]? = some p := ⟨_, List.getElem?_eq_getElem hlt⟩
                    obtain ⟨b, off, ha, hbl, hc⟩ := HPR.out.resolve_left (fun h => by rw [h] at hlt; simp at hlt)
                    subst ha
                    have HBW := hide (HBB.out.trans (HWW.out.mono HBB.out.size))
                    have HSUB := hide (ky_sub hbl hpc hc hp5)
                    have HM := hide (show (M.map (fun p => kyE A S p.1 p.2))[j]? = some (kyE A S p.1 p.2) by rw [List.getElem?_map, hp5]; rfl)
                    have HT2 := hide (fst0_take (HT.out.symm.trans h0) HM.out)
                    have HCK := hide (fun x : Gr wr => HCP.out x.1 (.slice (some ⟨b, off + j * 2, none⟩) 1 (pc - j)) [p] ((HSUB.out).later (HBW.out.trans (x.2.mono HBW.out.size))) (by simp))
                    have HNN := hide (HNP.out [p])
                    rw [snE_one] at HNN
                    simp only [snE_one] at HCK
                    generalize errV (kyE A S p.1 p.2) = ev2 at *
                    generalize kyE A S p.1 p.2 = e2 at *
                    subst h0
                    have ZZ := hide (blk_later ZB.out HWW.out)
                    have HX0 := hide ((Below.refl wr.heap.size wr).drew)
                    haveI : Nonempty (Gr wr) := ⟨⟨_, HX0.out⟩⟩
                    have zx : ∀ x : Gr wr, _ := fun x => five_cells (blk_later ZZ.out x.2) rfl
                    have zx0 := fun x => (zx x).1
                    have zx1 := fun x => (zx x).2.1
                    have zx2 := fun x => (zx x).2.2.1
                    have zx3 := fun x => (zx x).2.2.2.1
                    have zx4 := fun x => (zx x).2.2.2.2
                    have k0 : (0 : Int) ≤ (j : Int) := by omega
                    have k1 : (j : Int) < (M.length : Int) := by omega
                    have k2 : ((j : Int) + 1) ≤ (pc : Int) := by omega
                    have k3 : IntKind.i64.wrap ((j : Int) + 1) = (j : Int) + 1 := by rw [IntKind.wrap_i64]; omega
                    have k4 : wrap64 ((j : Int) + 1) = (j : Int) + 1 := by unfold wrap64; omega
                    have k5 : ¬ pc = j := by omega
                    clear zx hc hbl hp5 HM HSUB
                    go_wp2_with fail
                    refine region_class (C := fun w' => ∃ x : Gr wr, w' = x.1) (by kernel_rfl) (by kernel_rfl) ⟨⟨_, HX0.out⟩, rfl⟩ ?_
                    repeat (first
                      | go_big_quiet_skip
                      | (go_big_quiet_want; (go_big_quiet_op; first
                          | go_big_quiet_on
                          | (apply Exists.intro; refine ⟨fun x => ?_, ?_⟩; (first
                              | (go_at_call 6; exact x.call (HCK.out x))
                              | (go_at_call 5; exact x.call ((HNN.out x.1).mono fun e w' hh => ⟨hh.1, by rw [hh.2]; exact Below.refl _ _⟩))); go_big_quiet_on))))
                    refine wpQuiet_nil ?_
                    rintro w5 ⟨x5, rfl⟩
                    obtain ⟨w5, hx⟩ := x5
                    dsimp only
                    have HW2 := hide (HWW.out.trans (hx.mono HWW.out.size))
                    clear hx this zx0 zx1 zx2 zx3 zx4
                    go_wp2_with fail
                    go_roundw
                    case rel => exact ⟨j + 1, e2, by omega, by go_num, rfl, hide HT2.out.symm, HW2⟩
                    case measure => simp [intOf]; omega
                  · have hd1 : (c1 == 0) = false := by rw [beq_eq_false_iff_ne]; exact h0
                    have HF := hide (show fst0 (M.map (fun p => kyE A S p.1 p.2)) = c1 by rw [fst0_over (by rw [← HT.out]; exact h0), ← HT.out])
                    have HBF := hide (HBB.out.trans (HWW.out.mono HBB.out.size))
                    by_cases h6 : 64 < M.length
                    · have hq : got2 = 5 := by rw [HSN.out]; exact if_pos h6
                      have hd6 : decide (64 < (M.length : Int)) = true := by rw [decide_eq_true_eq]; omega
                      subst hq
                      clear h6
                      go_wp2_with fail
                      go_ret
                      exact ⟨rfl, HBF.out⟩
                    · have hq : got2 = c1 := by rw [HSN.out, if_neg h6]; exact HF.out
                      have hd6 : decide (64 < (M.length : Int)) = false := by rw [decide_eq_false_iff_not]; omega
                      have hd7 : (c1 == c1) = true := by simp
                      subst hq
                      clear h6
                      go_wp2_with fail
                      go_ret
                      exact ⟨rfl, HBF.out⟩
                · have hd : decide ((j : Int) < (M.length : Int)) = false := by rw [decide_eq_false_iff_not]; omega
                  have HF := hide (show fst0 (M.map (fun p => kyE A S p.1 p.2)) = c1 by
                    have h1 := HT.out
                    rw [List.take_of_length_le (by simp; omega)] at h1
                    exact h1.symm)
                  have HBF := hide (HBB.out.trans (HWW.out.mono HBB.out.size))
                  by_cases h6 : 64 < M.length
                  · have hq : got2 = 5 := by rw [HSN.out]; exact if_pos h6
                    have hd6 : decide (64 < (M.length : Int)) = true := by rw [decide_eq_true_eq]; omega
                    subst hq
                    clear h6
                    go_wp2_with fail
                    go_ret
                    exact ⟨rfl, HBF.out⟩
                  · have hq : got2 = c1 := by rw [HSN.out, if_neg h6]; exact HF.out
                    have hd6 : decide (64 < (M.length : Int)) = false := by rw [decide_eq_false_iff_not]; omega
                    have hd7 : (c1 == c1) = true := by simp
                    subst hq
                    clear h6
                    go_wp2_with fail
                    go_ret
                    exact ⟨rfl, HBF.out⟩
            · have hq : got = c1 := by rw [HSB.out, if_neg h4, if_neg h5]; exact HF.out
              have hd5 : ((L.length : Int) == 0) = false := by rw [beq_eq_false_iff_ne]; omega
              have hd7 : (c1 != c1) = false := by simp
              subst hq
              clear h4 h5 HSB
              go_wp2_with fail
              refine (HCP.out _ _ M (HPP.out.later HB5.out) (by omega)).mono ?_
              rintro e w6 ⟨rfl, hb⟩
              have HB6 := hide (HB5.out.trans (hb.mono HB5.out.size))
              have Z6 := hide (blk_later Z5.out hb)
              clear hb x0 x1 x2 x3 x4
              obtain ⟨x0, x1, x2, x3, x4⟩ := five_cells Z6.out rfl
              have HN2 := hide (HNP.out M)
              have HSN : Hid (snE A S M = if 64 < M.length then 5 else fst0 (M.map fun p => kyE A S p.1 p.2)) := hide rfl
              generalize snE A S M = got2 at *
              generalize errV got2 = ev3 at *
              go_wp2_with fail
              refine (HN2.out _).mono ?_
              rintro e w7 ⟨rfl, hw7⟩
              obtain rfl := hw7.symm
              go_wp2_with fail
              have HBB := HB6
              have ZB := Z6
              clear HF HT HWW hd
              obtain ⟨WB, hWB⟩ : ∃ x, x = w6 := ⟨_, rfl⟩
              subst hWB
              go_loopw [10, 12] (fun u i wr => ∃ (j : Nat) (c1 : Int), j ≤ M.length ∧ i = .int .i64 (j : Int) ∧ u = .int .i64 c1 ∧ Hid (c1 = fst0 ((M.map (fun p => kyE A S p.1 p.2)).take j)) ∧ Hid (Below WB.heap.size WB wr)) (fun _ i _ => M.length - (intOf i).toNat)
              case atStart => exact ⟨0, 0, Nat.zero_le _, rfl, rfl, hide (by rw [List.take_zero]; rfl), hide (Below.refl _ _)⟩
              case round =>
                clear x0 x1 x2 x3 x4
                obtain ⟨j, c1, hj, rfl, rfl, HT, HWW⟩ := hrel
                by_cases hlt : j < M.length
                · have hd : decide ((j : Int) < (M.length : Int)) = true := by rw [decide_eq_true_eq]; omega
                  by_cases h0 : c1 = 0
                  · obtain ⟨p, hp5⟩ : ∃ p, M[j]? = some p := ⟨_, List.getElem?_eq_getElem hlt⟩
                    obtain ⟨b, off, ha, hbl, hc⟩ := HPR.out.resolve_left (fun h => by rw [h] at hlt; simp at hlt)
                    subst ha
                    have HBW := hide (HBB.out.trans (HWW.out.mono HBB.out.size))
                    have HSUB := hide (ky_sub hbl hpc hc hp5)
                    have HM := hide (show (M.map (fun p => kyE A S p.1 p.2))[j]? = some (kyE A S p.1 p.2) by rw [List.getElem?_map, hp5]; rfl)
                    have HT2 := hide (fst0_take (HT.out.symm.trans h0) HM.out)
                    have HCK := hide (fun x : Gr wr => HCP.out x.1 (.slice (some ⟨b, off + j * 2, none⟩) 1 (pc - j)) [p] ((HSUB.out).later (HBW.out.trans (x.2.mono HBW.out.size))) (by simp))
                    have HNN := hide (HNP.out [p])
                    rw [snE_one] at HNN
                    simp only [snE_one] at HCK
                    generalize errV (kyE A S p.1 p.2) = ev2 at *
                    generalize kyE A S p.1 p.2 = e2 at *
                    subst h0
                    have ZZ := hide (blk_later ZB.out HWW.out)
                    have HX0 := hide ((Below.refl wr.heap.size wr).drew)
                    haveI : Nonempty (Gr wr) := ⟨⟨_, HX0.out⟩⟩
                    have zx : ∀ x : Gr wr, _ := fun x => five_cells (blk_later ZZ.out x.2) rfl
                    have zx0 := fun x => (zx x).1
                    have zx1 := fun x => (zx x).2.1
                    have zx2 := fun x => (zx x).2.2.1
                    have zx3 := fun x => (zx x).2.2.2.1
                    have zx4 := fun x => (zx x).2.2.2.2
                    have k0 : (0 : Int) ≤ (j : Int) := by omega
                    have k1 : (j : Int) < (M.length : Int) := by omega
                    have k2 : ((j : Int) + 1) ≤ (pc : Int) := by omega
                    have k3 : IntKind.i64.wrap ((j : Int) + 1) = (j : Int) + 1 := by rw [IntKind.wrap_i64]; omega
                    have k4 : wrap64 ((j : Int) + 1) = (j : Int) + 1 := by unfold wrap64; omega
                    have k5 : ¬ pc = j := by omega
                    clear zx hc hbl hp5 HM HSUB
                    go_wp2_with fail
                    refine region_class (C := fun w' => ∃ x : Gr wr, w' = x.1) (by kernel_rfl) (by kernel_rfl) ⟨⟨_, HX0.out⟩, rfl⟩ ?_
                    repeat (first
                      | go_big_quiet_skip
                      | (go_big_quiet_want; (go_big_quiet_op; first
                          | go_big_quiet_on
                          | (apply Exists.intro; refine ⟨fun x => ?_, ?_⟩; (first
                              | (go_at_call 6; exact x.call (HCK.out x))
                              | (go_at_call 5; exact x.call ((HNN.out x.1).mono fun e w' hh => ⟨hh.1, by rw [hh.2]; exact Below.refl _ _⟩))); go_big_quiet_on))))
                    refine wpQuiet_nil ?_
                    rintro w5 ⟨x5, rfl⟩
                    obtain ⟨w5, hx⟩ := x5
                    dsimp only
                    have HW2 := hide (HWW.out.trans (hx.mono HWW.out.size))
                    clear hx this zx0 zx1 zx2 zx3 zx4
                    go_wp2_with fail
                    go_roundw
                    case rel => exact ⟨j + 1, e2, by omega, by go_num, rfl, hide HT2.out.symm, HW2⟩
                    case measure => simp [intOf]; omega
                  · have hd1 : (c1 == 0) = false := by rw [beq_eq_false_iff_ne]; exact h0
                    have HF := hide (show fst0 (M.map (fun p => kyE A S p.1 p.2)) = c1 by rw [fst0_over (by rw [← HT.out]; exact h0), ← HT.out])
                    have HBF := hide (HBB.out.trans (HWW.out.mono HBB.out.size))
                    by_cases h6 : 64 < M.length
                    · have hq : got2 = 5 := by rw [HSN.out]; exact if_pos h6
                      have hd6 : decide (64 < (M.length : Int)) = true := by rw [decide_eq_true_eq]; omega
                      subst hq
                      clear h6
                      go_wp2_with fail
                      go_ret
                      exact ⟨rfl, HBF.out⟩
                    · have hq : got2 = c1 := by rw [HSN.out, if_neg h6]; exact HF.out
                      have hd6 : decide (64 < (M.length : Int)) = false := by rw [decide_eq_false_iff_not]; omega
                      have hd7 : (c1 == c1) = true := by simp
                      subst hq
                      clear h6
                      go_wp2_with fail
                      go_ret
                      exact ⟨rfl, HBF.out⟩
                · have hd : decide ((j : Int) < (M.length : Int)) = false := by rw [decide_eq_false_iff_not]; omega
                  have HF := hide (show fst0 (M.map (fun p => kyE A S p.1 p.2)) = c1 by
                    have h1 := HT.out
                    rw [List.take_of_length_le (by simp; omega)] at h1
                    exact h1.symm)
                  have HBF := hide (HBB.out.trans (HWW.out.mono HBB.out.size))
                  by_cases h6 : 64 < M.length
                  · have hq : got2 = 5 := by rw [HSN.out]; exact if_pos h6
                    have hd6 : decide (64 < (M.length : Int)) = true := by rw [decide_eq_true_eq]; omega
                    subst hq
                    clear h6
                    go_wp2_with fail
                    go_ret
                    exact ⟨rfl, HBF.out⟩
                  · have hq : got2 = c1 := by rw [HSN.out, if_neg h6]; exact HF.out
                    have hd6 : decide (64 < (M.length : Int)) = false := by rw [decide_eq_false_iff_not]; omega
                    have hd7 : (c1 == c1) = true := by simp
                    subst hq
                    clear h6
                    go_wp2_with fail
                    go_ret
                    exact ⟨rfl, HBF.out⟩
    case true =>
      have HID := hide idE_one
      go_wp2_with fail
      refine (HCL.out 1 _ _ L (HL.out.later HB1.out) (by omega)).mono ?_
      rintro e w2 ⟨rfl, hb⟩
      have HB2 := hide (HB1.out.trans (hb.mono HB1.out.size))
      have Z2 := hide (blk_later Z1.out hb)
      clear hb x0 x1 x2 x3 x4
      obtain ⟨x0, x1, x2, x3, x4⟩ := five_cells Z2.out rfl
      have HN1 := hide (HNL.out 1 L)
      have HSB := hide (sbE_len (A := A) (S := S) (L := L) HID.out)
      generalize sbE A S 1 L = got at *
      generalize errV got = ev at *
      go_wp2_with fail
      refine (HN1.out _).mono ?_
      rintro e w3 ⟨rfl, hw3⟩
      obtain rfl := hw3.symm
      go_wp2_with fail
      have HBB := HB2
      have ZB := Z2
      obtain ⟨WB, hWB⟩ : ∃ x, x = w2 := ⟨_, rfl⟩
      subst hWB
      go_loopw [10, 11] (fun u i wr => ∃ (j : Nat) (c1 : Int), j ≤ L.length ∧ i = .int .i64 (j : Int) ∧ u = .int .i64 c1 ∧ Hid (c1 = fst0 ((L.map (lgE A S)).take j)) ∧ Hid (Below WB.heap.size WB wr)) (fun _ i _ => L.length - (intOf i).toNat)
      case atStart => exact ⟨0, 0, Nat.zero_le _, rfl, rfl, hide (by rw [List.take_zero]; rfl), hide (Below.refl _ _)⟩
      case round =>
        clear x0 x1 x2 x3 x4
        obtain ⟨j, c1, hj, rfl, rfl, HT, HWW⟩ := hrel
        by_cases hlt : j < L.length
        · have hd : decide ((j : Int) < (L.length : Int)) = true := by rw [decide_eq_true_eq]; omega
          by_cases h0 : c1 = 0
          · obtain ⟨p, hp5⟩ : ∃ p, L[j]? = some p := ⟨_, List.getElem?_eq_getElem hlt⟩
            obtain ⟨b, off, ha, hbl, hc⟩ := HLR.out.resolve_left (fun h => by rw [h] at hlt; simp at hlt)
            subst ha
            have HBW := hide (HBB.out.trans (HWW.out.mono HBB.out.size))
            have HSUB := hide (lg_sub hbl hlc hc hp5)
            have HM := hide (show (L.map (lgE A S))[j]? = some (lgE A S p) by rw [List.getElem?_map, hp5]; rfl)
            have HT2 := hide (fst0_take (HT.out.symm.trans h0) HM.out)
            have HCK := hide (fun x : Gr wr => HCL.out 1 x.1 (.slice (some ⟨b, off + j * 5, none⟩) 1 (lc - j)) [p] ((HSUB.out).later (HBW.out.trans (x.2.mono HBW.out.size))) (by simp))
            have HNN := hide (HNL.out 1 [p])
            rw [sbE_one] at HNN
            simp only [sbE_one] at HCK
            generalize errV (lgE A S p) = ev2 at *
            generalize lgE A S p = e2 at *
            subst h0
            have ZZ := hide (blk_later ZB.out HWW.out)
            have HX0 := hide ((Below.refl wr.heap.size wr).drew)
            haveI : Nonempty (Gr wr) := ⟨⟨_, HX0.out⟩⟩
            have zx : ∀ x : Gr wr, _ := fun x => five_cells (blk_later ZZ.out x.2) rfl
            have zx0 := fun x => (zx x).1
            have zx1 := fun x => (zx x).2.1
            have zx2 := fun x => (zx x).2.2.1
            have zx3 := fun x => (zx x).2.2.2.1
            have zx4 := fun x => (zx x).2.2.2.2
            have k0 : (0 : Int) ≤ (j : Int) := by omega
            have k1 : (j : Int) < (L.length : Int) := by omega
            have k2 : ((j : Int) + 1) ≤ (lc : Int) := by omega
            have k3 : IntKind.i64.wrap ((j : Int) + 1) = (j : Int) + 1 := by rw [IntKind.wrap_i64]; omega
            have k4 : wrap64 ((j : Int) + 1) = (j : Int) + 1 := by unfold wrap64; omega
            have k5 : ¬ lc = j := by omega
            clear zx hc hbl hp5 HM HSUB
            go_wp2_with fail
            refine region_class (C := fun w' => ∃ x : Gr wr, w' = x.1) (by kernel_rfl) (by kernel_rfl) ⟨⟨_, HX0.out⟩, rfl⟩ ?_
            repeat (first
              | go_big_quiet_skip
              | (go_big_quiet_want; (go_big_quiet_op; first
                  | go_big_quiet_on
                  | (apply Exists.intro; refine ⟨fun x => ?_, ?_⟩; (first
                      | (go_at_call 6; exact x.call (HCK.out x))
                      | (go_at_call 5; exact x.call ((HNN.out x.1).mono fun e w' hh => ⟨hh.1, by rw [hh.2]; exact Below.refl _ _⟩))); go_big_quiet_on))))
            refine wpQuiet_nil ?_
            rintro w5 ⟨x5, rfl⟩
            obtain ⟨w5, hx⟩ := x5
            dsimp only
            have HW2 := hide (HWW.out.trans (hx.mono HWW.out.size))
            clear hx this zx0 zx1 zx2 zx3 zx4
            go_wp2_with fail
            go_roundw
            case rel => exact ⟨j + 1, e2, by omega, by go_num, rfl, hide HT2.out.symm, HW2⟩
            case measure => simp [intOf]; omega
          · have hd1 : (c1 == 0) = false := by rw [beq_eq_false_iff_ne]; exact h0
            have HF := hide (show fst0 (L.map (lgE A S)) = c1 by rw [fst0_over (by rw [← HT.out]; exact h0), ← HT.out])
            have HB5 := hide (HBB.out.trans (HWW.out.mono HBB.out.size))
            have Z5 := hide (blk_later ZB.out HWW.out)
            obtain ⟨x0, x1, x2, x3, x4⟩ := five_cells Z5.out rfl
            clear HBB ZB
            by_cases h4 : 4 < L.length
            · have hq : got = 5 := by rw [HSB.out]; exact if_pos h4
              have hd4 : decide (4 < (L.length : Int)) = true := by rw [decide_eq_true_eq]; omega
              have hd5 : ((L.length : Int) == 0) = false := by rw [beq_eq_false_iff_ne]; omega
              subst hq
              clear h4 HSB
              go_wp2_with fail
              refine (HCP.out _ _ M (HPP.out.later HB5.out) (by omega)).mono ?_
              rintro e w6 ⟨rfl, hb⟩
              have HB6 := hide (HB5.out.trans (hb.mono HB5.out.size))
              have Z6 := hide (blk_later Z5.out hb)
              clear hb x0 x1 x2 x3 x4
              obtain ⟨x0, x1, x2, x3, x4⟩ := five_cells Z6.out rfl
              have HN2 := hide (HNP.out M)
              have HSN : Hid (snE A S M = if 64 < M.length then 5 else fst0 (M.map fun p => kyE A S p.1 p.2)) := hide rfl
              generalize snE A S M = got2 at *
              generalize errV got2 = ev3 at *
              go_wp2_with fail
              refine (HN2.out _).mono ?_
              rintro e w7 ⟨rfl, hw7⟩
              obtain rfl := hw7.symm
              go_wp2_with fail
              have HBB := HB6
              have ZB := Z6
              clear HF HT HWW hd
              obtain ⟨WB, hWB⟩ : ∃ x, x = w6 := ⟨_, rfl⟩
              subst hWB
              go_loopw [10, 12] (fun u i wr => ∃ (j : Nat) (c1 : Int), j ≤ M.length ∧ i = .int .i64 (j : Int) ∧ u = .int .i64 c1 ∧ Hid (c1 = fst0 ((M.map (fun p => kyE A S p.1 p.2)).take j)) ∧ Hid (Below WB.heap.size WB wr)) (fun _ i _ => M.length - (intOf i).toNat)
              case atStart => exact ⟨0, 0, Nat.zero_le _, rfl, rfl, hide (by rw [List.take_zero]; rfl), hide (Below.refl _ _)⟩
              case round =>
                clear x0 x1 x2 x3 x4
                obtain ⟨j, c1, hj, rfl, rfl, HT, HWW⟩ := hrel
                by_cases hlt : j < M.length
                · have hd : decide ((j : Int) < (M.length : Int)) = true := by rw [decide_eq_true_eq]; omega
                  by_cases h0 : c1 = 0
                  · obtain ⟨p, hp5⟩ : ∃ p, M[j]? = some p := ⟨_, List.getElem?_eq_getElem hlt⟩
                    obtain ⟨b, off, ha, hbl, hc⟩ := HPR.out.resolve_left (fun h => by rw [h] at hlt; simp at hlt)
                    subst ha
                    have HBW := hide (HBB.out.trans (HWW.out.mono HBB.out.size))
                    have HSUB := hide (ky_sub hbl hpc hc hp5)
                    have HM := hide (show (M.map (fun p => kyE A S p.1 p.2))[j]? = some (kyE A S p.1 p.2) by rw [List.getElem?_map, hp5]; rfl)
                    have HT2 := hide (fst0_take (HT.out.symm.trans h0) HM.out)
                    have HCK := hide (fun x : Gr wr => HCP.out x.1 (.slice (some ⟨b, off + j * 2, none⟩) 1 (pc - j)) [p] ((HSUB.out).later (HBW.out.trans (x.2.mono HBW.out.size))) (by simp))
                    have HNN := hide (HNP.out [p])
                    rw [snE_one] at HNN
                    simp only [snE_one] at HCK
                    generalize errV (kyE A S p.1 p.2) = ev2 at *
                    generalize kyE A S p.1 p.2 = e2 at *
                    subst h0
                    have ZZ := hide (blk_later ZB.out HWW.out)
                    have HX0 := hide ((Below.refl wr.heap.size wr).drew)
                    haveI : Nonempty (Gr wr) := ⟨⟨_, HX0.out⟩⟩
                    have zx : ∀ x : Gr wr, _ := fun x => five_cells (blk_later ZZ.out x.2) rfl
                    have zx0 := fun x => (zx x).1
                    have zx1 := fun x => (zx x).2.1
                    have zx2 := fun x => (zx x).2.2.1
                    have zx3 := fun x => (zx x).2.2.2.1
                    have zx4 := fun x => (zx x).2.2.2.2
                    have k0 : (0 : Int) ≤ (j : Int) := by omega
                    have k1 : (j : Int) < (M.length : Int) := by omega
                    have k2 : ((j : Int) + 1) ≤ (pc : Int) := by omega
                    have k3 : IntKind.i64.wrap ((j : Int) + 1) = (j : Int) + 1 := by rw [IntKind.wrap_i64]; omega
                    have k4 : wrap64 ((j : Int) + 1) = (j : Int) + 1 := by unfold wrap64; omega
                    have k5 : ¬ pc = j := by omega
                    clear zx hc hbl hp5 HM HSUB
                    go_wp2_with fail
                    refine region_class (C := fun w' => ∃ x : Gr wr, w' = x.1) (by kernel_rfl) (by kernel_rfl) ⟨⟨_, HX0.out⟩, rfl⟩ ?_
                    repeat (first
                      | go_big_quiet_skip
                      | (go_big_quiet_want; (go_big_quiet_op; first
                          | go_big_quiet_on
                          | (apply Exists.intro; refine ⟨fun x => ?_, ?_⟩; (first
                              | (go_at_call 6; exact x.call (HCK.out x))
                              | (go_at_call 5; exact x.call ((HNN.out x.1).mono fun e w' hh => ⟨hh.1, by rw [hh.2]; exact Below.refl _ _⟩))); go_big_quiet_on))))
                    refine wpQuiet_nil ?_
                    rintro w5 ⟨x5, rfl⟩
                    obtain ⟨w5, hx⟩ := x5
                    dsimp only
                    have HW2 := hide (HWW.out.trans (hx.mono HWW.out.size))
                    clear hx this zx0 zx1 zx2 zx3 zx4
                    go_wp2_with fail
                    go_roundw
                    case rel => exact ⟨j + 1, e2, by omega, by go_num, rfl, hide HT2.out.symm, HW2⟩
                    case measure => simp [intOf]; omega
                  · have hd1 : (c1 == 0) = false := by rw [beq_eq_false_iff_ne]; exact h0
                    have HF := hide (show fst0 (M.map (fun p => kyE A S p.1 p.2)) = c1 by rw [fst0_over (by rw [← HT.out]; exact h0), ← HT.out])
                    have HBF := hide (HBB.out.trans (HWW.out.mono HBB.out.size))
                    by_cases h6 : 64 < M.length
                    · have hq : got2 = 5 := by rw [HSN.out]; exact if_pos h6
                      have hd6 : decide (64 < (M.length : Int)) = true := by rw [decide_eq_true_eq]; omega
                      subst hq
                      clear h6
                      go_wp2_with fail
                      go_ret
                      exact ⟨rfl, HBF.out⟩
                    · have hq : got2 = c1 := by rw [HSN.out, if_neg h6]; exact HF.out
                      have hd6 : decide (64 < (M.length : Int)) = false := by rw [decide_eq_false_iff_not]; omega
                      have hd7 : (c1 == c1) = true := by simp
                      subst hq
                      clear h6
                      go_wp2_with fail
                      go_ret
                      exact ⟨rfl, HBF.out⟩
                · have hd : decide ((j : Int) < (M.length : Int)) = false := by rw [decide_eq_false_iff_not]; omega
                  have HF := hide (show fst0 (M.map (fun p => kyE A S p.1 p.2)) = c1 by
                    have h1 := HT.out
                    rw [List.take_of_length_le (by simp; omega)] at h1
                    exact h1.symm)
                  have HBF := hide (HBB.out.trans (HWW.out.mono HBB.out.size))
                  by_cases h6 : 64 < M.length
                  · have hq : got2 = 5 := by rw [HSN.out]; exact if_pos h6
                    have hd6 : decide (64 < (M.length : Int)) = true := by rw [decide_eq_true_eq]; omega
                    subst hq
                    clear h6
                    go_wp2_with fail
                    go_ret
                    exact ⟨rfl, HBF.out⟩
                  · have hq : got2 = c1 := by rw [HSN.out, if_neg h6]; exact HF.out
                    have hd6 : decide (64 < (M.length : Int)) = false := by rw [decide_eq_false_iff_not]; omega
                    have hd7 : (c1 == c1) = true := by simp
                    subst hq
                    clear h6
                    go_wp2_with fail
                    go_ret
                    exact ⟨rfl, HBF.out⟩
            · have hd4 : decide (4 < (L.length : Int)) = false := by rw [decide_eq_false_iff_not]; omega
              by_cases h5 : L.length = 0
              · have hq : got = 2 := by rw [HSB.out, if_neg h4]; exact if_pos h5
                have hd5 : ((L.length : Int) == 0) = true := by rw [beq_iff_eq]; omega
                subst hq
                clear h4 h5 HSB
                go_wp2_with fail
                refine (HCP.out _ _ M (HPP.out.later HB5.out) (by omega)).mono ?_
                rintro e w6 ⟨rfl, hb⟩
                have HB6 := hide (HB5.out.trans (hb.mono HB5.out.size))
                have Z6 := hide (blk_later Z5.out hb)
                clear hb x0 x1 x2 x3 x4
                obtain ⟨x0, x1, x2, x3, x4⟩ := five_cells Z6.out rfl
                have HN2 := hide (HNP.out M)
                have HSN : Hid (snE A S M = if 64 < M.length then 5 else fst0 (M.map fun p => kyE A S p.1 p.2)) := hide rfl
                generalize snE A S M = got2 at *
                generalize errV got2 = ev3 at *
                go_wp2_with fail
                refine (HN2.out _).mono ?_
                rintro e w7 ⟨rfl, hw7⟩
                obtain rfl := hw7.symm
                go_wp2_with fail
                have HBB := HB6
                have ZB := Z6
                clear HF HT HWW hd
                obtain ⟨WB, hWB⟩ : ∃ x, x = w6 := ⟨_, rfl⟩
                subst hWB
                go_loopw [10, 12] (fun u i wr => ∃ (j : Nat) (c1 : Int), j ≤ M.length ∧ i = .int .i64 (j : Int) ∧ u = .int .i64 c1 ∧ Hid (c1 = fst0 ((M.map (fun p => kyE A S p.1 p.2)).take j)) ∧ Hid (Below WB.heap.size WB wr)) (fun _ i _ => M.length - (intOf i).toNat)
                case atStart => exact ⟨0, 0, Nat.zero_le _, rfl, rfl, hide (by rw [List.take_zero]; rfl), hide (Below.refl _ _)⟩
                case round =>
                  clear x0 x1 x2 x3 x4
                  obtain ⟨j, c1, hj, rfl, rfl, HT, HWW⟩ := hrel
                  by_cases hlt : j < M.length
                  · have hd : decide ((j : Int) < (M.length : Int)) = true := by rw [decide_eq_true_eq]; omega
                    by_cases h0 : c1 = 0
                    · obtain ⟨p, hp5⟩ : ∃ p, M[j]? = some p := ⟨_, List.getElem?_eq_getElem hlt⟩
                      obtain ⟨b, off, ha, hbl, hc⟩ := HPR.out.resolve_left (fun h => by rw [h] at hlt; simp at hlt)
                      subst ha
                      have HBW := hide (HBB.out.trans (HWW.out.mono HBB.out.size))
                      have HSUB := hide (ky_sub hbl hpc hc hp5)
                      have HM := hide (show (M.map (fun p => kyE A S p.1 p.2))[j]? = some (kyE A S p.1 p.2) by rw [List.getElem?_map, hp5]; rfl)
                      have HT2 := hide (fst0_take (HT.out.symm.trans h0) HM.out)
                      have HCK := hide (fun x : Gr wr => HCP.out x.1 (.slice (some ⟨b, off + j * 2, none⟩) 1 (pc - j)) [p] ((HSUB.out).later (HBW.out.trans (x.2.mono HBW.out.size))) (by simp))
                      have HNN := hide (HNP.out [p])
                      rw [snE_one] at HNN
                      simp only [snE_one] at HCK
                      generalize errV (kyE A S p.1 p.2) = ev2 at *
                      generalize kyE A S p.1 p.2 = e2 at *
                      subst h0
                      have ZZ := hide (blk_later ZB.out HWW.out)
                      have HX0 := hide ((Below.refl wr.heap.size wr).drew)
                      haveI : Nonempty (Gr wr) := ⟨⟨_, HX0.out⟩⟩
                      have zx : ∀ x : Gr wr, _ := fun x => five_cells (blk_later ZZ.out x.2) rfl
                      have zx0 := fun x => (zx x).1
                      have zx1 := fun x => (zx x).2.1
                      have zx2 := fun x => (zx x).2.2.1
                      have zx3 := fun x => (zx x).2.2.2.1
                      have zx4 := fun x => (zx x).2.2.2.2
                      have k0 : (0 : Int) ≤ (j : Int) := by omega
                      have k1 : (j : Int) < (M.length : Int) := by omega
                      have k2 : ((j : Int) + 1) ≤ (pc : Int) := by omega
                      have k3 : IntKind.i64.wrap ((j : Int) + 1) = (j : Int) + 1 := by rw [IntKind.wrap_i64]; omega
                      have k4 : wrap64 ((j : Int) + 1) = (j : Int) + 1 := by unfold wrap64; omega
                      have k5 : ¬ pc = j := by omega
                      clear zx hc hbl hp5 HM HSUB
                      go_wp2_with fail
                      refine region_class (C := fun w' => ∃ x : Gr wr, w' = x.1) (by kernel_rfl) (by kernel_rfl) ⟨⟨_, HX0.out⟩, rfl⟩ ?_
                      repeat (first
                        | go_big_quiet_skip
                        | (go_big_quiet_want; (go_big_quiet_op; first
                            | go_big_quiet_on
                            | (apply Exists.intro; refine ⟨fun x => ?_, ?_⟩; (first
                                | (go_at_call 6; exact x.call (HCK.out x))
                                | (go_at_call 5; exact x.call ((HNN.out x.1).mono fun e w' hh => ⟨hh.1, by rw [hh.2]; exact Below.refl _ _⟩))); go_big_quiet_on))))
                      refine wpQuiet_nil ?_
                      rintro w5 ⟨x5, rfl⟩
                      obtain ⟨w5, hx⟩ := x5
                      dsimp only
                      have HW2 := hide (HWW.out.trans (hx.mono HWW.out.size))
                      clear hx this zx0 zx1 zx2 zx3 zx4
                      go_wp2_with fail
                      go_roundw
                      case rel => exact ⟨j + 1, e2, by omega, by go_num, rfl, hide HT2.out.symm, HW2⟩
                      case measure => simp [intOf]; omega
                    · have hd1 : (c1 == 0) = false := by rw [beq_eq_false_iff_ne]; exact h0
                      have HF := hide (show fst0 (M.map (fun p => kyE A S p.1 p.2)) = c1 by rw [fst0_over (by rw [← HT.out]; exact h0), ← HT.out])
                      have HBF := hide (HBB.out.trans (HWW.out.mono HBB.out.size))
                      by_cases h6 : 64 < M.length
                      · have hq : got2 = 5 := by rw [HSN.out]; exact if_pos h6
                        have hd6 : decide (64 < (M.length : Int)) = true := by rw [decide_eq_true_eq]; omega
                        subst hq
                        clear h6
                        go_wp2_with fail
                        go_ret
                        exact ⟨rfl, HBF.out⟩
                      · have hq : got2 = c1 := by rw [HSN.out, if_neg h6]; exact HF.out
                        have hd6 : decide (64 < (M.length : Int)) = false := by rw [decide_eq_false_iff_not]; omega
                        have hd7 : (c1 == c1) = true := by simp
                        subst hq
                        clear h6
                        go_wp2_with fail
                        go_ret
                        exact ⟨rfl, HBF.out⟩
                  · have hd : decide ((j : Int) < (M.length : Int)) = false := by rw [decide_eq_false_iff_not]; omega
                    have HF := hide (show fst0 (M.map (fun p => kyE A S p.1 p.2)) = c1 by
                      have h1 := HT.out
                      rw [List.take_of_length_le (by simp; omega)] at h1
                      exact h1.symm)
                    have HBF := hide (HBB.out.trans (HWW.out.mono HBB.out.size))
                    by_cases h6 : 64 < M.length
                    · have hq : got2 = 5 := by rw [HSN.out]; exact if_pos h6
                      have hd6 : decide (64 < (M.length : Int)) = true := by rw [decide_eq_true_eq]; omega
                      subst hq
                      clear h6
                      go_wp2_with fail
                      go_ret
                      exact ⟨rfl, HBF.out⟩
                    · have hq : got2 = c1 := by rw [HSN.out, if_neg h6]; exact HF.out
                      have hd6 : decide (64 < (M.length : Int)) = false := by rw [decide_eq_false_iff_not]; omega
                      have hd7 : (c1 == c1) = true := by simp
                      subst hq
                      clear h6
                      go_wp2_with fail
                      go_ret
                      exact ⟨rfl, HBF.out⟩
              · have hq : got = c1 := by rw [HSB.out, if_neg h4, if_neg h5]; exact HF.out
                have hd5 : ((L.length : Int) == 0) = false := by rw [beq_eq_false_iff_ne]; omega
                have hd7 : (c1 != c1) = false := by simp
                subst hq
                clear h4 h5 HSB
                go_wp2_with fail
                refine (HCP.out _ _ M (HPP.out.later HB5.out) (by omega)).mono ?_
                rintro e w6 ⟨rfl, hb⟩
                have HB6 := hide (HB5.out.trans (hb.mono HB5.out.size))
                have Z6 := hide (blk_later Z5.out hb)
                clear hb x0 x1 x2 x3 x4
                obtain ⟨x0, x1, x2, x3, x4⟩ := five_cells Z6.out rfl
                have HN2 := hide (HNP.out M)
                have HSN : Hid (snE A S M = if 64 < M.length then 5 else fst0 (M.map fun p => kyE A S p.1 p.2)) := hide rfl
                generalize snE A S M = got2 at *
                generalize errV got2 = ev3 at *
                go_wp2_with fail
                refine (HN2.out _).mono ?_
                rintro e w7 ⟨rfl, hw7⟩
                obtain rfl := hw7.symm
                go_wp2_with fail
                have HBB := HB6
                have ZB := Z6
                clear HF HT HWW hd
                obtain ⟨WB, hWB⟩ : ∃ x, x = w6 := ⟨_, rfl⟩
                subst hWB
                go_loopw [10, 12] (fun u i wr => ∃ (j : Nat) (c1 : Int), j ≤ M.length ∧ i = .int .i64 (j : Int) ∧ u = .int .i64 c1 ∧ Hid (c1 = fst0 ((M.map (fun p => kyE A S p.1 p.2)).take j)) ∧ Hid (Below WB.heap.size WB wr)) (fun _ i _ => M.length - (intOf i).toNat)
                case atStart => exact ⟨0, 0, Nat.zero_le _, rfl, rfl, hide (by rw [List.take_zero]; rfl), hide (Below.refl _ _)⟩
                case round =>
                  clear x0 x1 x2 x3 x4
                  obtain ⟨j, c1, hj, rfl, rfl, HT, HWW⟩ := hrel
                  by_cases hlt : j < M.length
                  · have hd : decide ((j : Int) < (M.length : Int)) = true := by rw [decide_eq_true_eq]; omega
                    by_cases h0 : c1 = 0
                    · obtain ⟨p, hp5⟩ : ∃ p, M[j]? = some p := ⟨_, List.getElem?_eq_getElem hlt⟩
                      obtain ⟨b, off, ha, hbl, hc⟩ := HPR.out.resolve_left (fun h => by rw [h] at hlt; simp at hlt)
                      subst ha
                      have HBW := hide (HBB.out.trans (HWW.out.mono HBB.out.size))
                      have HSUB := hide (ky_sub hbl hpc hc hp5)
                      have HM := hide (show (M.map (fun p => kyE A S p.1 p.2))[j]? = some (kyE A S p.1 p.2) by rw [List.getElem?_map, hp5]; rfl)
                      have HT2 := hide (fst0_take (HT.out.symm.trans h0) HM.out)
                      have HCK := hide (fun x : Gr wr => HCP.out x.1 (.slice (some ⟨b, off + j * 2, none⟩) 1 (pc - j)) [p] ((HSUB.out).later (HBW.out.trans (x.2.mono HBW.out.size))) (by simp))
                      have HNN := hide (HNP.out [p])
                      rw [snE_one] at HNN
                      simp only [snE_one] at HCK
                      generalize errV (kyE A S p.1 p.2) = ev2 at *
                      generalize kyE A S p.1 p.2 = e2 at *
                      subst h0
                      have ZZ := hide (blk_later ZB.out HWW.out)
                      have HX0 := hide ((Below.refl wr.heap.size wr).drew)
                      haveI : Nonempty (Gr wr) := ⟨⟨_, HX0.out⟩⟩
                      have zx : ∀ x : Gr wr, _ := fun x => five_cells (blk_later ZZ.out x.2) rfl
                      have zx0 := fun x => (zx x).1
                      have zx1 := fun x => (zx x).2.1
                      have zx2 := fun x => (zx x).2.2.1
                      have zx3 := fun x => (zx x).2.2.2.1
                      have zx4 := fun x => (zx x).2.2.2.2
                      have k0 : (0 : Int) ≤ (j : Int) := by omega
                      have k1 : (j : Int) < (M.length : Int) := by omega
                      have k2 : ((j : Int) + 1) ≤ (pc : Int) := by omega
                      have k3 : IntKind.i64.wrap ((j : Int) + 1) = (j : Int) + 1 := by rw [IntKind.wrap_i64]; omega
                      have k4 : wrap64 ((j : Int) + 1) = (j : Int) + 1 := by unfold wrap64; omega
                      have k5 : ¬ pc = j := by omega
                      clear zx hc hbl hp5 HM HSUB
                      go_wp2_with fail
                      refine region_class (C := fun w' => ∃ x : Gr wr, w' = x.1) (by kernel_rfl) (by kernel_rfl) ⟨⟨_, HX0.out⟩, rfl⟩ ?_
                      repeat (first
                        | go_big_quiet_skip
                        | (go_big_quiet_want; (go_big_quiet_op; first
                            | go_big_quiet_on
                            | (apply Exists.intro; refine ⟨fun x => ?_, ?_⟩; (first
                                | (go_at_call 6; exact x.call (HCK.out x))
                                | (go_at_call 5; exact x.call ((HNN.out x.1).mono fun e w' hh => ⟨hh.1, by rw [hh.2]; exact Below.refl _ _⟩))); go_big_quiet_on))))
                      refine wpQuiet_nil ?_
                      rintro w5 ⟨x5, rfl⟩
                      obtain ⟨w5, hx⟩ := x5
                      dsimp only
                      have HW2 := hide (HWW.out.trans (hx.mono HWW.out.size))
                      clear hx this zx0 zx1 zx2 zx3 zx4
                      go_wp2_with fail
                      go_roundw
                      case rel => exact ⟨j + 1, e2, by omega, by go_num, rfl, hide HT2.out.symm, HW2⟩
                      case measure => simp [intOf]; omega
                    · have hd1 : (c1 == 0) = false := by rw [beq_eq_false_iff_ne]; exact h0
                      have HF := hide (show fst0 (M.map (fun p => kyE A S p.1 p.2)) = c1 by rw [fst0_over (by rw [← HT.out]; exact h0), ← HT.out])
                      have HBF := hide (HBB.out.trans (HWW.out.mono HBB.out.size))
                      by_cases h6 : 64 < M.length
                      · have hq : got2 = 5 := by rw [HSN.out]; exact if_pos h6
                        have hd6 : decide (64 < (M.length : Int)) = true := by rw [decide_eq_true_eq]; omega
                        subst hq
                        clear h6
                        go_wp2_with fail
                        go_ret
                        exact ⟨rfl, HBF.out⟩
                      · have hq : got2 = c1 := by rw [HSN.out, if_neg h6]; exact HF.out
                        have hd6 : decide (64 < (M.length : Int)) = false := by rw [decide_eq_false_iff_not]; omega
                        have hd7 : (c1 == c1) = true := by simp
                        subst hq
                        clear h6
                        go_wp2_with fail
                        go_ret
                        exact ⟨rfl, HBF.out⟩
                  · have hd : decide ((j : Int) < (M.length : Int)) = false := by rw [decide_eq_false_iff_not]; omega
                    have HF := hide (show fst0 (M.map (fun p => kyE A S p.1 p.2)) = c1 by
                      have h1 := HT.out
                      rw [List.take_of_length_le (by simp; omega)] at h1
                      exact h1.symm)
                    have HBF := hide (HBB.out.trans (HWW.out.mono HBB.out.size))
                    by_cases h6 : 64 < M.length
                    · have hq : got2 = 5 := by rw [HSN.out]; exact if_pos h6
                      have hd6 : decide (64 < (M.length : Int)) = true := by rw [decide_eq_true_eq]; omega
                      subst hq
                      clear h6
                      go_wp2_with fail
                      go_ret
                      exact ⟨rfl, HBF.out⟩
                    · have hq : got2 = c1 := by rw [HSN.out, if_neg h6]; exact HF.out
                      have hd6 : decide (64 < (M.length : Int)) = false := by rw [decide_eq_false_iff_not]; omega
                      have hd7 : (c1 == c1) = true := by simp
                      subst hq
                      clear h6
                      go_wp2_with fail
                      go_ret
                      exact ⟨rfl, HBF.out⟩
        · have hd : decide ((j : Int) < (L.length : Int)) = false := by rw [decide_eq_false_iff_not]; omega
          have HF := hide (show fst0 (L.map (lgE A S)) = c1 by
            have h1 := HT.out
            rw [List.take_of_length_le (by simp; omega)] at h1
            exact h1.symm)
          have HB5 := hide (HBB.out.trans (HWW.out.mono HBB.out.size))
          have Z5 := hide (blk_later ZB.out HWW.out)
          obtain ⟨x0, x1, x2, x3, x4⟩ := five_cells Z5.out rfl
          clear HBB ZB
          by_cases h4 : 4 < L.length
          · have hq : got = 5 := by rw [HSB.out]; exact if_pos h4
            have hd4 : decide (4 < (L.length : Int)) = true := by rw [decide_eq_true_eq]; omega
            have hd5 : ((L.length : Int) == 0) = false := by rw [beq_eq_false_iff_ne]; omega
            subst hq
            clear h4 HSB
            go_wp2_with fail
            refine (HCP.out _ _ M (HPP.out.later HB5.out) (by omega)).mono ?_
            rintro e w6 ⟨rfl, hb⟩
            have HB6 := hide (HB5.out.trans (hb.mono HB5.out.size))
            have Z6 := hide (blk_later Z5.out hb)
            clear hb x0 x1 x2 x3 x4
            obtain ⟨x0, x1, x2, x3, x4⟩ := five_cells Z6.out rfl
            have HN2 := hide (HNP.out M)
            have HSN : Hid (snE A S M = if 64 < M.length then 5 else fst0 (M.map fun p => kyE A S p.1 p.2)) := hide rfl
            generalize snE A S M = got2 at *
            generalize errV got2 = ev3 at *
            go_wp2_with fail
            refine (HN2.out _).mono ?_
            rintro e w7 ⟨rfl, hw7⟩
            obtain rfl := hw7.symm
            go_wp2_with fail
            have HBB := HB6
            have ZB := Z6
            clear HF HT HWW hd
            obtain ⟨WB, hWB⟩ : ∃ x, x = w6 := ⟨_, rfl⟩
            subst hWB
            go_loopw [10, 12] (fun u i wr => ∃ (j : Nat) (c1 : Int), j ≤ M.length ∧ i = .int .i64 (j : Int) ∧ u = .int .i64 c1 ∧ Hid (c1 = fst0 ((M.map (fun p => kyE A S p.1 p.2)).take j)) ∧ Hid (Below WB.heap.size WB wr)) (fun _ i _ => M.length - (intOf i).toNat)
            case atStart => exact ⟨0, 0, Nat.zero_le _, rfl, rfl, hide (by rw [List.take_zero]; rfl), hide (Below.refl _ _)⟩
            case round =>
              clear x0 x1 x2 x3 x4
              obtain ⟨j, c1, hj, rfl, rfl, HT, HWW⟩ := hrel
              by_cases hlt : j < M.length
              · have hd : decide ((j : Int) < (M.length : Int)) = true := by rw [decide_eq_true_eq]; omega
                by_cases h0 : c1 = 0
                · obtain ⟨p, hp5⟩ : ∃ p, M[j]? = some p := ⟨_, List.getElem?_eq_getElem hlt⟩
                  obtain ⟨b, off, ha, hbl, hc⟩ := HPR.out.resolve_left (fun h => by rw [h] at hlt; simp at hlt)
                  subst ha
                  have HBW := hide (HBB.out.trans (HWW.out.mono HBB.out.size))
                  have HSUB := hide (ky_sub hbl hpc hc hp5)
                  have HM := hide (show (M.map (fun p => kyE A S p.1 p.2))[j]? = some (kyE A S p.1 p.2) by rw [List.getElem?_map, hp5]; rfl)
                  have HT2 := hide (fst0_take (HT.out.symm.trans h0) HM.out)
                  have HCK := hide (fun x : Gr wr => HCP.out x.1 (.slice (some ⟨b, off + j * 2, none⟩) 1 (pc - j)) [p] ((HSUB.out).later (HBW.out.trans (x.2.mono HBW.out.size))) (by simp))
                  have HNN := hide (HNP.out [p])
                  rw [snE_one] at HNN
                  simp only [snE_one] at HCK
                  generalize errV (kyE A S p.1 p.2) = ev2 at *
                  generalize kyE A S p.1 p.2 = e2 at *
                  subst h0
                  have ZZ := hide (blk_later ZB.out HWW.out)
                  have HX0 := hide ((Below.refl wr.heap.size wr).drew)
                  haveI : Nonempty (Gr wr) := ⟨⟨_, HX0.out⟩⟩
                  have zx : ∀ x : Gr wr, _ := fun x => five_cells (blk_later ZZ.out x.2) rfl
                  have zx0 := fun x => (zx x).1
                  have zx1 := fun x => (zx x).2.1
                  have zx2 := fun x => (zx x).2.2.1
                  have zx3 := fun x => (zx x).2.2.2.1
                  have zx4 := fun x => (zx x).2.2.2.2
                  have k0 : (0 : Int) ≤ (j : Int) := by omega
                  have k1 : (j : Int) < (M.length : Int) := by omega
                  have k2 : ((j : Int) + 1) ≤ (pc : Int) := by omega
                  have k3 : IntKind.i64.wrap ((j : Int) + 1) = (j : Int) + 1 := by rw [IntKind.wrap_i64]; omega
                  have k4 : wrap64 ((j : Int) + 1) = (j : Int) + 1 := by unfold wrap64; omega
                  have k5 : ¬ pc = j := by omega
                  clear zx hc hbl hp5 HM HSUB
                  go_wp2_with fail
                  refine region_class (C := fun w' => ∃ x : Gr wr, w' = x.1) (by kernel_rfl) (by kernel_rfl) ⟨⟨_, HX0.out⟩, rfl⟩ ?_
                  repeat (first
                    | go_big_quiet_skip
                    | (go_big_quiet_want; (go_big_quiet_op; first
                        | go_big_quiet_on
                        | (apply Exists.intro; refine ⟨fun x => ?_, ?_⟩; (first
                            | (go_at_call 6; exact x.call (HCK.out x))
                            | (go_at_call 5; exact x.call ((HNN.out x.1).mono fun e w' hh => ⟨hh.1, by rw [hh.2]; exact Below.refl _ _⟩))); go_big_quiet_on))))
                  refine wpQuiet_nil ?_
                  rintro w5 ⟨x5, rfl⟩
                  obtain ⟨w5, hx⟩ := x5
                  dsimp only
                  have HW2 := hide (HWW.out.trans (hx.mono HWW.out.size))
                  clear hx this zx0 zx1 zx2 zx3 zx4
                  go_wp2_with fail
                  go_roundw
                  case rel => exact ⟨j + 1, e2, by omega, by go_num, rfl, hide HT2.out.symm, HW2⟩
                  case measure => simp [intOf]; omega
                · have hd1 : (c1 == 0) = false := by rw [beq_eq_false_iff_ne]; exact h0
                  have HF := hide (show fst0 (M.map (fun p => kyE A S p.1 p.2)) = c1 by rw [fst0_over (by rw [← HT.out]; exact h0), ← HT.out])
                  have HBF := hide (HBB.out.trans (HWW.out.mono HBB.out.size))
                  by_cases h6 : 64 < M.length
                  · have hq : got2 = 5 := by rw [HSN.out]; exact if_pos h6
                    have hd6 : decide (64 < (M.length : Int)) = true := by rw [decide_eq_true_eq]; omega
                    subst hq
                    clear h6
                    go_wp2_with fail
                    go_ret
                    exact ⟨rfl, HBF.out⟩
                  · have hq : got2 = c1 := by rw [HSN.out, if_neg h6]; exact HF.out
                    have hd6 : decide (64 < (M.length : Int)) = false := by rw [decide_eq_false_iff_not]; omega
                    have hd7 : (c1 == c1) = true := by simp
                    subst hq
                    clear h6
                    go_wp2_with fail
                    go_ret
                    exact ⟨rfl, HBF.out⟩
              · have hd : decide ((j : Int) < (M.length : Int)) = false := by rw [decide_eq_false_iff_not]; omega
                have HF := hide (show fst0 (M.map (fun p => kyE A S p.1 p.2)) = c1 by
                  have h1 := HT.out
                  rw [List.take_of_length_le (by simp; omega)] at h1
                  exact h1.symm)
                have HBF := hide (HBB.out.trans (HWW.out.mono HBB.out.size))
                by_cases h6 : 64 < M.length
                · have hq : got2 = 5 := by rw [HSN.out]; exact if_pos h6
                  have hd6 : decide (64 < (M.length : Int)) = true := by rw [decide_eq_true_eq]; omega
                  subst hq
                  clear h6
                  go_wp2_with fail
                  go_ret
                  exact ⟨rfl, HBF.out⟩
                · have hq : got2 = c1 := by rw [HSN.out, if_neg h6]; exact HF.out
                  have hd6 : decide (64 < (M.length : Int)) = false := by rw [decide_eq_false_iff_not]; omega
                  have hd7 : (c1 == c1) = true := by simp
                  subst hq
                  clear h6
                  go_wp2_with fail
                  go_ret
                  exact ⟨rfl, HBF.out⟩
          · have hd4 : decide (4 < (L.length : Int)) = false := by rw [decide_eq_false_iff_not]; omega
            by_cases h5 : L.length = 0
            · have hq : got = 2 := by rw [HSB.out, if_neg h4]; exact if_pos h5
              have hd5 : ((L.length : Int) == 0) = true := by rw [beq_iff_eq]; omega
              subst hq
              clear h4 h5 HSB
              go_wp2_with fail
              refine (HCP.out _ _ M (HPP.out.later HB5.out) (by omega)).mono ?_
              rintro e w6 ⟨rfl, hb⟩
              have HB6 := hide (HB5.out.trans (hb.mono HB5.out.size))
              have Z6 := hide (blk_later Z5.out hb)
              clear hb x0 x1 x2 x3 x4
              obtain ⟨x0, x1, x2, x3, x4⟩ := five_cells Z6.out rfl
              have HN2 := hide (HNP.out M)
              have HSN : Hid (snE A S M = if 64 < M.length then 5 else fst0 (M.map fun p => kyE A S p.1 p.2)) := hide rfl
              generalize snE A S M = got2 at *
              generalize errV got2 = ev3 at *
              go_wp2_with fail
              refine (HN2.out _).mono ?_
              rintro e w7 ⟨rfl, hw7⟩
              obtain rfl := hw7.symm
              go_wp2_with fail
              have HBB := HB6
              have ZB := Z6
              clear HF HT HWW hd
              obtain ⟨WB, hWB⟩ : ∃ x, x = w6 := ⟨_, rfl⟩
              subst hWB
              go_loopw [10, 12] (fun u i wr => ∃ (j : Nat) (c1 : Int), j ≤ M.length ∧ i = .int .i64 (j : Int) ∧ u = .int .i64 c1 ∧ Hid (c1 = fst0 ((M.map (fun p => kyE A S p.1 p.2)).take j)) ∧ Hid (Below WB.heap.size WB wr)) (fun _ i _ => M.length - (intOf i).toNat)
              case atStart => exact ⟨0, 0, Nat.zero_le _, rfl, rfl, hide (by rw [List.take_zero]; rfl), hide (Below.refl _ _)⟩
              case round =>
                clear x0 x1 x2 x3 x4
                obtain ⟨j, c1, hj, rfl, rfl, HT, HWW⟩ := hrel
                by_cases hlt : j < M.length
                · have hd : decide ((j : Int) < (M.length : Int)) = true := by rw [decide_eq_true_eq]; omega
                  by_cases h0 : c1 = 0
                  · obtain ⟨p, hp5⟩ : ∃ p, M[j]? = some p := ⟨_, List.getElem?_eq_getElem hlt⟩
                    obtain ⟨b, off, ha, hbl, hc⟩ := HPR.out.resolve_left (fun h => by rw [h] at hlt; simp at hlt)
                    subst ha
                    have HBW := hide (HBB.out.trans (HWW.out.mono HBB.out.size))
                    have HSUB := hide (ky_sub hbl hpc hc hp5)
                    have HM := hide (show (M.map (fun p => kyE A S p.1 p.2))[j]? = some (kyE A S p.1 p.2) by rw [List.getElem?_map, hp5]; rfl)
                    have HT2 := hide (fst0_take (HT.out.symm.trans h0) HM.out)
                    have HCK := hide (fun x : Gr wr => HCP.out x.1 (.slice (some ⟨b, off + j * 2, none⟩) 1 (pc - j)) [p] ((HSUB.out).later (HBW.out.trans (x.2.mono HBW.out.size))) (by simp))
                    have HNN := hide (HNP.out [p])
                    rw [snE_one] at HNN
                    simp only [snE_one] at HCK
                    generalize errV (kyE A S p.1 p.2) = ev2 at *
                    generalize kyE A S p.1 p.2 = e2 at *
                    subst h0
                    have ZZ := hide (blk_later ZB.out HWW.out)
                    have HX0 := hide ((Below.refl wr.heap.size wr).drew)
                    haveI : Nonempty (Gr wr) := ⟨⟨_, HX0.out⟩⟩
                    have zx : ∀ x : Gr wr, _ := fun x => five_cells (blk_later ZZ.out x.2) rfl
                    have zx0 := fun x => (zx x).1
                    have zx1 := fun x => (zx x).2.1
                    have zx2 := fun x => (zx x).2.2.1
                    have zx3 := fun x => (zx x).2.2.2.1
                    have zx4 := fun x => (zx x).2.2.2.2
                    have k0 : (0 : Int) ≤ (j : Int) := by omega
                    have k1 : (j : Int) < (M.length : Int) := by omega
                    have k2 : ((j : Int) + 1) ≤ (pc : Int) := by omega
                    have k3 : IntKind.i64.wrap ((j : Int) + 1) = (j : Int) + 1 := by rw [IntKind.wrap_i64]; omega
                    have k4 : wrap64 ((j : Int) + 1) = (j : Int) + 1 := by unfold wrap64; omega
                    have k5 : ¬ pc = j := by omega
                    clear zx hc hbl hp5 HM HSUB
                    go_wp2_with fail
                    refine region_class (C := fun w' => ∃ x : Gr wr, w' = x.1) (by kernel_rfl) (by kernel_rfl) ⟨⟨_, HX0.out⟩, rfl⟩ ?_
                    repeat (first
                      | go_big_quiet_skip
                      | (go_big_quiet_want; (go_big_quiet_op; first
                          | go_big_quiet_on
                          | (apply Exists.intro; refine ⟨fun x => ?_, ?_⟩; (first
                              | (go_at_call 6; exact x.call (HCK.out x))
                              | (go_at_call 5; exact x.call ((HNN.out x.1).mono fun e w' hh => ⟨hh.1, by rw [hh.2]; exact Below.refl _ _⟩))); go_big_quiet_on))))
                    refine wpQuiet_nil ?_
                    rintro w5 ⟨x5, rfl⟩
                    obtain ⟨w5, hx⟩ := x5
                    dsimp only
                    have HW2 := hide (HWW.out.trans (hx.mono HWW.out.size))
                    clear hx this zx0 zx1 zx2 zx3 zx4
                    go_wp2_with fail
                    go_roundw
                    case rel => exact ⟨j + 1, e2, by omega, by go_num, rfl, hide HT2.out.symm, HW2⟩
                    case measure => simp [intOf]; omega
                  · have hd1 : (c1 == 0) = false := by rw [beq_eq_false_iff_ne]; exact h0
                    have HF := hide (show fst0 (M.map (fun p => kyE A S p.1 p.2)) = c1 by rw [fst0_over (by rw [← HT.out]; exact h0), ← HT.out])
                    have HBF := hide (HBB.out.trans (HWW.out.mono HBB.out.size))
                    by_cases h6 : 64 < M.length
                    · have hq : got2 = 5 := by rw [HSN.out]; exact if_pos h6
                      have hd6 : decide (64 < (M.length : Int)) = true := by rw [decide_eq_true_eq]; omega
                      subst hq
                      clear h6
                      go_wp2_with fail
                      go_ret
                      exact ⟨rfl, HBF.out⟩
                    · have hq : got2 = c1 := by rw [HSN.out, if_neg h6]; exact HF.out
                      have hd6 : decide (64 < (M.length : Int)) = false := by rw [decide_eq_false_iff_not]; omega
                      have hd7 : (c1 == c1) = true := by simp
                      subst hq
                      clear h6
                      go_wp2_with fail
                      go_ret
                      exact ⟨rfl, HBF.out⟩
                · have hd : decide ((j : Int) < (M.length : Int)) = false := by rw [decide_eq_false_iff_not]; omega
                  have HF := hide (show fst0 (M.map (fun p => kyE A S p.1 p.2)) = c1 by
                    have h1 := HT.out
                    rw [List.take_of_length_le (by simp; omega)] at h1
                    exact h1.symm)
                  have HBF := hide (HBB.out.trans (HWW.out.mono HBB.out.size))
                  by_cases h6 : 64 < M.length
                  · have hq : got2 = 5 := by rw [HSN.out]; exact if_pos h6
                    have hd6 : decide (64 < (M.length : Int)) = true := by rw [decide_eq_true_eq]; omega
                    subst hq
                    clear h6
                    go_wp2_with fail
                    go_ret
                    exact ⟨rfl, HBF.out⟩
                  · have hq : got2 = c1 := by rw [HSN.out, if_neg h6]; exact HF.out
                    have hd6 : decide (64 < (M.length : Int)) = false := by rw [decide_eq_false_iff_not]; omega
                    have hd7 : (c1 == c1) = true := by simp
                    subst hq
                    clear h6
                    go_wp2_with fail
                    go_ret
                    exact ⟨rfl, HBF.out⟩
            · have hq : got = c1 := by rw [HSB.out, if_neg h4, if_neg h5]; exact HF.out
              have hd5 : ((L.length : Int) == 0) = false := by rw [beq_eq_false_iff_ne]; omega
              have hd7 : (c1 != c1) = false := by simp
              subst hq
              clear h4 h5 HSB
              go_wp2_with fail
              refine (HCP.out _ _ M (HPP.out.later HB5.out) (by omega)).mono ?_
              rintro e w6 ⟨rfl, hb⟩
              have HB6 := hide (HB5.out.trans (hb.mono HB5.out.size))
              have Z6 := hide (blk_later Z5.out hb)
              clear hb x0 x1 x2 x3 x4
              obtain ⟨x0, x1, x2, x3, x4⟩ := five_cells Z6.out rfl
              have HN2 := hide (HNP.out M)
              have HSN : Hid (snE A S M = if 64 < M.length then 5 else fst0 (M.map fun p => kyE A S p.1 p.2)) := hide rfl
              generalize snE A S M = got2 at *
              generalize errV got2 = ev3 at *
              go_wp2_with fail
              refine (HN2.out _).mono ?_
              rintro e w7 ⟨rfl, hw7⟩
              obtain rfl := hw7.symm
              go_wp2_with fail
              have HBB := HB6
              have ZB := Z6
              clear HF HT HWW hd
              obtain ⟨WB, hWB⟩ : ∃ x, x = w6 := ⟨_, rfl⟩
              subst hWB
              go_loopw [10, 12] (fun u i wr => ∃ (j : Nat) (c1 : Int), j ≤ M.length ∧ i = .int .i64 (j : Int) ∧ u = .int .i64 c1 ∧ Hid (c1 = fst0 ((M.map (fun p => kyE A S p.1 p.2)).take j)) ∧ Hid (Below WB.heap.size WB wr)) (fun _ i _ => M.length - (intOf i).toNat)
              case atStart => exact ⟨0, 0, Nat.zero_le _, rfl, rfl, hide (by rw [List.take_zero]; rfl), hide (Below.refl _ _)⟩
              case round =>
                clear x0 x1 x2 x3 x4
                obtain ⟨j, c1, hj, rfl, rfl, HT, HWW⟩ := hrel
                by_cases hlt : j < M.length
                · have hd : decide ((j : Int) < (M.length : Int)) = true := by rw [decide_eq_true_eq]; omega
                  by_cases h0 : c1 = 0
                  · obtain ⟨p, hp5⟩ : ∃ p, M[j]? = some p := ⟨_, List.getElem?_eq_getElem hlt⟩
                    obtain ⟨b, off, ha, hbl, hc⟩ := HPR.out.resolve_left (fun h => by rw [h] at hlt; simp at hlt)
                    subst ha
                    have HBW := hide (HBB.out.trans (HWW.out.mono HBB.out.size))
                    have HSUB := hide (ky_sub hbl hpc hc hp5)
                    have HM := hide (show (M.map (fun p => kyE A S p.1 p.2))[j]? = some (kyE A S p.1 p.2) by rw [List.getElem?_map, hp5]; rfl)
                    have HT2 := hide (fst0_take (HT.out.symm.trans h0) HM.out)
                    have HCK := hide (fun x : Gr wr => HCP.out x.1 (.slice (some ⟨b, off + j * 2, none⟩) 1 (pc - j)) [p] ((HSUB.out).later (HBW.out.trans (x.2.mono HBW.out.size))) (by simp))
                    have HNN := hide (HNP.out [p])
                    rw [snE_one] at HNN
                    simp only [snE_one] at HCK
                    generalize errV (kyE A S p.1 p.2) = ev2 at *
                    generalize kyE A S p.1 p.2 = e2 at *
                    subst h0
                    have ZZ := hide (blk_later ZB.out HWW.out)
                    have HX0 := hide ((Below.refl wr.heap.size wr).drew)
                    haveI : Nonempty (Gr wr) := ⟨⟨_, HX0.out⟩⟩
                    have zx : ∀ x : Gr wr, _ := fun x => five_cells (blk_later ZZ.out x.2) rfl
                    have zx0 := fun x => (zx x).1
                    have zx1 := fun x => (zx x).2.1
                    have zx2 := fun x => (zx x).2.2.1
                    have zx3 := fun x => (zx x).2.2.2.1
                    have zx4 := fun x => (zx x).2.2.2.2
                    have k0 : (0 : Int) ≤ (j : Int) := by omega
                    have k1 : (j : Int) < (M.length : Int) := by omega
                    have k2 : ((j : Int) + 1) ≤ (pc : Int) := by omega
                    have k3 : IntKind.i64.wrap ((j : Int) + 1) = (j : Int) + 1 := by rw [IntKind.wrap_i64]; omega
                    have k4 : wrap64 ((j : Int) + 1) = (j : Int) + 1 := by unfold wrap64; omega
                    have k5 : ¬ pc = j := by omega
                    clear zx hc hbl hp5 HM HSUB
                    go_wp2_with fail
                    refine region_class (C := fun w' => ∃ x : Gr wr, w' = x.1) (by kernel_rfl) (by kernel_rfl) ⟨⟨_, HX0.out⟩, rfl⟩ ?_
                    repeat (first
                      | go_big_quiet_skip
                      | (go_big_quiet_want; (go_big_quiet_op; first
                          | go_big_quiet_on
                          | (apply Exists.intro; refine ⟨fun x => ?_, ?_⟩; (first
                              | (go_at_call 6; exact x.call (HCK.out x))
                              | (go_at_call 5; exact x.call ((HNN.out x.1).mono fun e w' hh => ⟨hh.1, by rw [hh.2]; exact Below.refl _ _⟩))); go_big_quiet_on))))
                    refine wpQuiet_nil ?_
                    rintro w5 ⟨x5, rfl⟩
                    obtain ⟨w5, hx⟩ := x5
                    dsimp only
                    have HW2 := hide (HWW.out.trans (hx.mono HWW.out.size))
                    clear hx this zx0 zx1 zx2 zx3 zx4
                    go_wp2_with fail
                    go_roundw
                    case rel => exact ⟨j + 1, e2, by omega, by go_num, rfl, hide HT2.out.symm, HW2⟩
                    case measure => simp [intOf]; omega
                  · have hd1 : (c1 == 0) = false := by rw [beq_eq_false_iff_ne]; exact h0
                    have HF := hide (show fst0 (M.map (fun p => kyE A S p.1 p.2)) = c1 by rw [fst0_over (by rw [← HT.out]; exact h0), ← HT.out])
                    have HBF := hide (HBB.out.trans (HWW.out.mono HBB.out.size))
                    by_cases h6 : 64 < M.length
                    · have hq : got2 = 5 := by rw [HSN.out]; exact if_pos h6
                      have hd6 : decide (64 < (M.length : Int)) = true := by rw [decide_eq_true_eq]; omega
                      subst hq
                      clear h6
                      go_wp2_with fail
                      go_ret
                      exact ⟨rfl, HBF.out⟩
                    · have hq : got2 = c1 := by rw [HSN.out, if_neg h6]; exact HF.out
                      have hd6 : decide (64 < (M.length : Int)) = false := by rw [decide_eq_false_iff_not]; omega
                      have hd7 : (c1 == c1) = true := by simp
                      subst hq
                      clear h6
                      go_wp2_with fail
                      go_ret
                      exact ⟨rfl, HBF.out⟩
                · have hd : decide ((j : Int) < (M.length : Int)) = false := by rw [decide_eq_false_iff_not]; omega
                  have HF := hide (show fst0 (M.map (fun p => kyE A S p.1 p.2)) = c1 by
                    have h1 := HT.out
                    rw [List.take_of_length_le (by simp; omega)] at h1
                    exact h1.symm)
                  have HBF := hide (HBB.out.trans (HWW.out.mono HBB.out.size))
                  by_cases h6 : 64 < M.length
                  · have hq : got2 = 5 := by rw [HSN.out]; exact if_pos h6
                    have hd6 : decide (64 < (M.length : Int)) = true := by rw [decide_eq_true_eq]; omega
                    subst hq
                    clear h6
                    go_wp2_with fail
                    go_ret
                    exact ⟨rfl, HBF.out⟩
                  · have hq : got2 = c1 := by rw [HSN.out, if_neg h6]; exact HF.out
                    have hd6 : decide (64 < (M.length : Int)) = false := by rw [decide_eq_false_iff_not]; omega
                    have hd7 : (c1 == c1) = true := by simp
                    subst hq
                    clear h6
                    go_wp2_with fail
                    go_ret
                    exact ⟨rfl, HBF.out⟩
  case true =>
    have HID := hide idE_one
    go_wp2_with fail
    refine (HCL.out 1 _ _ L (HL.out.later HB1.out) (by omega)).mono ?_
    rintro e w2 ⟨rfl, hb⟩
    have HB2 := hide (HB1.out.trans (hb.mono HB1.out.size))
    have Z2 := hide (blk_later Z1.out hb)
    clear hb x0 x1 x2 x3 x4
    obtain ⟨x0, x1, x2, x3, x4⟩ := five_cells Z2.out rfl
    have HN1 := hide (HNL.out 1 L)
    have HSB := hide (sbE_len (A := A) (S := S) (L := L) HID.out)
    generalize sbE A S 1 L = got at *
    generalize errV got = ev at *
    go_wp2_with fail
    refine (HN1.out _).mono ?_
    rintro e w3 ⟨rfl, hw3⟩
    obtain rfl := hw3.symm
    go_wp2_with fail
    have HBB := HB2
    have ZB := Z2
    obtain ⟨WB, hWB⟩ : ∃ x, x = w2 := ⟨_, rfl⟩
    subst hWB
    go_loopw [10, 11] (fun u i wr => ∃ (j : Nat) (c1 : Int), j ≤ L.length ∧ i = .int .i64 (j : Int) ∧ u = .int .i64 c1 ∧ Hid (c1 = fst0 ((L.map (lgE A S)).take j)) ∧ Hid (Below WB.heap.size WB wr)) (fun _ i _ => L.length - (intOf i).toNat)
    case atStart => exact ⟨0, 0, Nat.zero_le _, rfl, rfl, hide (by rw [List.take_zero]; rfl), hide (Below.refl _ _)⟩
    case round =>
      clear x0 x1 x2 x3 x4
      obtain ⟨j, c1, hj, rfl, rfl, HT, HWW⟩ := hrel
      by_cases hlt : j < L.length
      · have hd : decide ((j : Int) < (L.length : Int)) = true := by rw [decide_eq_true_eq]; omega
        by_cases h0 : c1 = 0
        · obtain ⟨p, hp5⟩ : ∃ p, L[j]? = some p := ⟨_, List.getElem?_eq_getElem hlt⟩
          obtain ⟨b, off, ha, hbl, hc⟩ := HLR.out.resolve_left (fun h => by rw [h] at hlt; simp at hlt)
          subst ha
          have HBW := hide (HBB.out.trans (HWW.out.mono HBB.out.size))
          have HSUB := hide (lg_sub hbl hlc hc hp5)
          have HM := hide (show (L.map (lgE A S))[j]? = some (lgE A S p) by rw [List.getElem?_map, hp5]; rfl)
          have HT2 := hide (fst0_take (HT.out.symm.trans h0) HM.out)
          have HCK := hide (fun x : Gr wr => HCL.out 1 x.1 (.slice (some ⟨b, off + j * 5, none⟩) 1 (lc - j)) [p] ((HSUB.out).later (HBW.out.trans (x.2.mono HBW.out.size))) (by simp))
          have HNN := hide (HNL.out 1 [p])
          rw [sbE_one] at HNN
          simp only [sbE_one] at HCK
          generalize errV (lgE A S p) = ev2 at *
          generalize lgE A S p = e2 at *
          subst h0
          have ZZ := hide (blk_later ZB.out HWW.out)
          have HX0 := hide ((Below.refl wr.heap.size wr).drew)
          haveI : Nonempty (Gr wr) := ⟨⟨_, HX0.out⟩⟩
          have zx : ∀ x : Gr wr, _ := fun x => five_cells (blk_later ZZ.out x.2) rfl
          have zx0 := fun x => (zx x).1
          have zx1 := fun x => (zx x).2.1
          have zx2 := fun x => (zx x).2.2.1
          have zx3 := fun x => (zx x).2.2.2.1
          have zx4 := fun x => (zx x).2.2.2.2
          have k0 : (0 : Int) ≤ (j : Int) := by omega
          have k1 : (j : Int) < (L.length : Int) := by omega
          have k2 : ((j : Int) + 1) ≤ (lc : Int) := by omega
          have k3 : IntKind.i64.wrap ((j : Int) + 1) = (j : Int) + 1 := by rw [IntKind.wrap_i64]; omega
          have k4 : wrap64 ((j : Int) + 1) = (j : Int) + 1 := by unfold wrap64; omega
          have k5 : ¬ lc = j := by omega
          clear zx hc hbl hp5 HM HSUB
          go_wp2_with fail
          refine region_class (C := fun w' => ∃ x : Gr wr, w' = x.1) (by kernel_rfl) (by kernel_rfl) ⟨⟨_, HX0.out⟩, rfl⟩ ?_
          repeat (first
            | go_big_quiet_skip
            | (go_big_quiet_want; (go_big_quiet_op; first
                | go_big_quiet_on
                | (apply Exists.intro; refine ⟨fun x => ?_, ?_⟩; (first
                    | (go_at_call 6; exact x.call (HCK.out x))
                    | (go_at_call 5; exact x.call ((HNN.out x.1).mono fun e w' hh => ⟨hh.1, by rw [hh.2]; exact Below.refl _ _⟩))); go_big_quiet_on))))
          refine wpQuiet_nil ?_
          rintro w5 ⟨x5, rfl⟩
          obtain ⟨w5, hx⟩ := x5
          dsimp only
          have HW2 := hide (HWW.out.trans (hx.mono HWW.out.size))
          clear hx this zx0 zx1 zx2 zx3 zx4
          go_wp2_with fail
          go_roundw
          case rel => exact ⟨j + 1, e2, by omega, by go_num, rfl, hide HT2.out.symm, HW2⟩
          case measure => simp [intOf]; omega
        · have hd1 : (c1 == 0) = false := by rw [beq_eq_false_iff_ne]; exact h0
          have HF := hide (show fst0 (L.map (lgE A S)) = c1 by rw [fst0_over (by rw [← HT.out]; exact h0), ← HT.out])
          have HB5 := hide (HBB.out.trans (HWW.out.mono HBB.out.size))
          have Z5 := hide (blk_later ZB.out HWW.out)
          obtain ⟨x0, x1, x2, x3, x4⟩ := five_cells Z5.out rfl
          clear HBB ZB
          by_cases h4 : 4 < L.length
          · have hq : got = 5 := by rw [HSB.out]; exact if_pos h4
            have hd4 : decide (4 < (L.length : Int)) = true := by rw [decide_eq_true_eq]; omega
            have hd5 : ((L.length : Int) == 0) = false := by rw [beq_eq_false_iff_ne]; omega
            subst hq
            clear h4 HSB
            go_wp2_with fail
            refine (HCP.out _ _ M (HPP.out.later HB5.out) (by omega)).mono ?_
            rintro e w6 ⟨rfl, hb⟩
            have HB6 := hide (HB5.out.trans (hb.mono HB5.out.size))
            have Z6 := hide (blk_later Z5.out hb)
            clear hb x0 x1 x2 x3 x4
            obtain ⟨x0, x1, x2, x3, x4⟩ := five_cells Z6.out rfl
            have HN2 := hide (HNP.out M)
            have HSN : Hid (snE A S M = if 64 < M.length then 5 else fst0 (M.map fun p => kyE A S p.1 p.2)) := hide rfl
            generalize snE A S M = got2 at *
            generalize errV got2 = ev3 at *
            go_wp2_with fail
            refine (HN2.out _).mono ?_
            rintro e w7 ⟨rfl, hw7⟩
            obtain rfl := hw7.symm
            go_wp2_with fail
            have HBB := HB6
            have ZB := Z6
            clear HF HT HWW hd
            obtain ⟨WB, hWB⟩ : ∃ x, x = w6 := ⟨_, rfl⟩
            subst hWB
            go_loopw [10, 12] (fun u i wr => ∃ (j : Nat) (c1 : Int), j ≤ M.length ∧ i = .int .i64 (j : Int) ∧ u = .int .i64 c1 ∧ Hid (c1 = fst0 ((M.map (fun p => kyE A S p.1 p.2)).take j)) ∧ Hid (Below WB.heap.size WB wr)) (fun _ i _ => M.length - (intOf i).toNat)
            case atStart => exact ⟨0, 0, Nat.zero_le _, rfl, rfl, hide (by rw [List.take_zero]; rfl), hide (Below.refl _ _)⟩
            case round =>
              clear x0 x1 x2 x3 x4
              obtain ⟨j, c1, hj, rfl, rfl, HT, HWW⟩ := hrel
              by_cases hlt : j < M.length
              · have hd : decide ((j : Int) < (M.length : Int)) = true := by rw [decide_eq_true_eq]; omega
                by_cases h0 : c1 = 0
                · obtain ⟨p, hp5⟩ : ∃ p, M[j]? = some p := ⟨_, List.getElem?_eq_getElem hlt⟩
                  obtain ⟨b, off, ha, hbl, hc⟩ := HPR.out.resolve_left (fun h => by rw [h] at hlt; simp at hlt)
                  subst ha
                  have HBW := hide (HBB.out.trans (HWW.out.mono HBB.out.size))
                  have HSUB := hide (ky_sub hbl hpc hc hp5)
                  have HM := hide (show (M.map (fun p => kyE A S p.1 p.2))[j]? = some (kyE A S p.1 p.2) by rw [List.getElem?_map, hp5]; rfl)
                  have HT2 := hide (fst0_take (HT.out.symm.trans h0) HM.out)
                  have HCK := hide (fun x : Gr wr => HCP.out x.1 (.slice (some ⟨b, off + j * 2, none⟩) 1 (pc - j)) [p] ((HSUB.out).later (HBW.out.trans (x.2.mono HBW.out.size))) (by simp))
                  have HNN := hide (HNP.out [p])
                  rw [snE_one] at HNN
                  simp only [snE_one] at HCK
                  generalize errV (kyE A S p.1 p.2) = ev2 at *
                  generalize kyE A S p.1 p.2 = e2 at *
                  subst h0
                  have ZZ := hide (blk_later ZB.out HWW.out)
                  have HX0 := hide ((Below.refl wr.heap.size wr).drew)
                  haveI : Nonempty (Gr wr) := ⟨⟨_, HX0.out⟩⟩
                  have zx : ∀ x : Gr wr, _ := fun x => five_cells (blk_later ZZ.out x.2) rfl
                  have zx0 := fun x => (zx x).1
                  have zx1 := fun x => (zx x).2.1
                  have zx2 := fun x => (zx x).2.2.1
                  have zx3 := fun x => (zx x).2.2.2.1
                  have zx4 := fun x => (zx x).2.2.2.2
                  have k0 : (0 : Int) ≤ (j : Int) := by omega
                  have k1 : (j : Int) < (M.length : Int) := by omega
                  have k2 : ((j : Int) + 1) ≤ (pc : Int) := by omega
                  have k3 : IntKind.i64.wrap ((j : Int) + 1) = (j : Int) + 1 := by rw [IntKind.wrap_i64]; omega
                  have k4 : wrap64 ((j : Int) + 1) = (j : Int) + 1 := by unfold wrap64; omega
                  have k5 : ¬ pc = j := by omega
                  clear zx hc hbl hp5 HM HSUB
                  go_wp2_with fail
                  refine region_class (C := fun w' => ∃ x : Gr wr, w' = x.1) (by kernel_rfl) (by kernel_rfl) ⟨⟨_, HX0.out⟩, rfl⟩ ?_
                  repeat (first
                    | go_big_quiet_skip
                    | (go_big_quiet_want; (go_big_quiet_op; first
                        | go_big_quiet_on
                        | (apply Exists.intro; refine ⟨fun x => ?_, ?_⟩; (first
                            | (go_at_call 6; exact x.call (HCK.out x))
                            | (go_at_call 5; exact x.call ((HNN.out x.1).mono fun e w' hh => ⟨hh.1, by rw [hh.2]; exact Below.refl _ _⟩))); go_big_quiet_on))))
                  refine wpQuiet_nil ?_
                  rintro w5 ⟨x5, rfl⟩
                  obtain ⟨w5, hx⟩ := x5
                  dsimp only
                  have HW2 := hide (HWW.out.trans (hx.mono HWW.out.size))
                  clear hx this zx0 zx1 zx2 zx3 zx4
                  go_wp2_with fail
                  go_roundw
                  case rel => exact ⟨j + 1, e2, by omega, by go_num, rfl, hide HT2.out.symm, HW2⟩
                  case measure => simp [intOf]; omega
                · have hd1 : (c1 == 0) = false := by rw [beq_eq_false_iff_ne]; exact h0
                  have HF := hide (show fst0 (M.map (fun p => kyE A S p.1 p.2)) = c1 by rw [fst0_over (by rw [← HT.out]; exact h0), ← HT.out])
                  have HBF := hide (HBB.out.trans (HWW.out.mono HBB.out.size))
                  by_cases h6 : 64 < M.length
                  · have hq : got2 = 5 := by rw [HSN.out]; exact if_pos h6
                    have hd6 : decide (64 < (M.length : Int)) = true := by rw [decide_eq_true_eq]; omega
                    subst hq
                    clear h6
                    go_wp2_with fail
                    go_ret
                    exact ⟨rfl, HBF.out⟩
                  · have hq : got2 = c1 := by rw [HSN.out, if_neg h6]; exact HF.out
                    have hd6 : decide (64 < (M.length : Int)) = false := by rw [decide_eq_false_iff_not]; omega
                    have hd7 : (c1 == c1) = true := by simp
                    subst hq
                    clear h6
                    go_wp2_with fail
                    go_ret
                    exact ⟨rfl, HBF.out⟩
              · have hd : decide ((j : Int) < (M.length : Int)) = false := by rw [decide_eq_false_iff_not]; omega
                have HF := hide (show fst0 (M.map (fun p => kyE A S p.1 p.2)) = c1 by
                  have h1 := HT.out
                  rw [List.take_of_length_le (by simp; omega)] at h1
                  exact h1.symm)
                have HBF := hide (HBB.out.trans (HWW.out.mono HBB.out.size))
                by_cases h6 : 64 < M.length
                · have hq : got2 = 5 := by rw [HSN.out]; exact if_pos h6
                  have hd6 : decide (64 < (M.length : Int)) = true := by rw [decide_eq_true_eq]; omega
                  subst hq
                  clear h6
                  go_wp2_with fail
                  go_ret
                  exact ⟨rfl, HBF.out⟩
                · have hq : got2 = c1 := by rw [HSN.out, if_neg h6]; exact HF.out
                  have hd6 : decide (64 < (M.length : Int)) = false := by rw [decide_eq_false_iff_not]; omega
                  have hd7 : (c1 == c1) = true := by simp
                  subst hq
                  clear h6
                  go_wp2_with fail
                  go_ret
                  exact ⟨rfl, HBF.out⟩
          · have hd4 : decide (4 < (L.length : Int)) = false := by rw [decide_eq_false_iff_not]; omega
            by_cases h5 : L.length = 0
            · have hq : got = 2 := by rw [HSB.out, if_neg h4]; exact if_pos h5
              have hd5 : ((L.length : Int) == 0) = true := by rw [beq_iff_eq]; omega
              subst hq
              clear h4 h5 HSB
              go_wp2_with fail
              refine (HCP.out _ _ M (HPP.out.later HB5.out) (by omega)).mono ?_
              rintro e w6 ⟨rfl, hb⟩
              have HB6 := hide (HB5.out.trans (hb.mono HB5.out.size))
              have Z6 := hide (blk_later Z5.out hb)
              clear hb x0 x1 x2 x3 x4
              obtain ⟨x0, x1, x2, x3, x4⟩ := five_cells Z6.out rfl
              have HN2 := hide (HNP.out M)
              have HSN : Hid (snE A S M = if 64 < M.length then 5 else fst0 (M.map fun p => kyE A S p.1 p.2)) := hide rfl
              generalize snE A S M = got2 at *
              generalize errV got2 = ev3 at *
              go_wp2_with fail
              refine (HN2.out _).mono ?_
              rintro e w7 ⟨rfl, hw7⟩
              obtain rfl := hw7.symm
              go_wp2_with fail
              have HBB := HB6
              have ZB := Z6
              clear HF HT HWW hd
              obtain ⟨WB, hWB⟩ : ∃ x, x = w6 := ⟨_, rfl⟩
              subst hWB
              go_loopw [10, 12] (fun u i wr => ∃ (j : Nat) (c1 : Int), j ≤ M.length ∧ i = .int .i64 (j : Int) ∧ u = .int .i64 c1 ∧ Hid (c1 = fst0 ((M.map (fun p => kyE A S p.1 p.2)).take j)) ∧ Hid (Below WB.heap.size WB wr)) (fun _ i _ => M.length - (intOf i).toNat)
              case atStart => exact ⟨0, 0, Nat.zero_le _, rfl, rfl, hide (by rw [List.take_zero]; rfl), hide (Below.refl _ _)⟩
              case round =>
                clear x0 x1 x2 x3 x4
                obtain ⟨j, c1, hj, rfl, rfl, HT, HWW⟩ := hrel
                by_cases hlt : j < M.length
                · have hd : decide ((j : Int) < (M.length : Int)) = true := by rw [decide_eq_true_eq]; omega
                  by_cases h0 : c1 = 0
                  · obtain ⟨p, hp5⟩ : ∃ p, M[j]? = some p := ⟨_, List.getElem?_eq_getElem hlt⟩
                    obtain ⟨b, off, ha, hbl, hc⟩ := HPR.out.resolve_left (fun h => by rw [h] at hlt; simp at hlt)
                    subst ha
                    have HBW := hide (HBB.out.trans (HWW.out.mono HBB.out.size))
                    have HSUB := hide (ky_sub hbl hpc hc hp5)
                    have HM := hide (show (M.map (fun p => kyE A S p.1 p.2))[j]? = some (kyE A S p.1 p.2) by rw [List.getElem?_map, hp5]; rfl)
                    have HT2 := hide (fst0_take (HT.out.symm.trans h0) HM.out)
                    have HCK := hide (fun x : Gr wr => HCP.out x.1 (.slice (some ⟨b, off + j * 2, none⟩) 1 (pc - j)) [p] ((HSUB.out).later (HBW.out.trans (x.2.mono HBW.out.size))) (by simp))
                    have HNN := hide (HNP.out [p])
                    rw [snE_one] at HNN
                    simp only [snE_one] at HCK
                    generalize errV (kyE A S p.1 p.2) = ev2 at *
                    generalize kyE A S p.1 p.2 = e2 at *
                    subst h0
                    have ZZ := hide (blk_later ZB.out HWW.out)
                    have HX0 := hide ((Below.refl wr.heap.size wr).drew)
                    haveI : Nonempty (Gr wr) := ⟨⟨_, HX0.out⟩⟩
                    have zx : ∀ x : Gr wr, _ := fun x => five_cells (blk_later ZZ.out x.2) rfl
                    have zx0 := fun x => (zx x).1
                    have zx1 := fun x => (zx x).2.1
                    have zx2 := fun x => (zx x).2.2.1
                    have zx3 := fun x => (zx x).2.2.2.1
                    have zx4 := fun x => (zx x).2.2.2.2
                    have k0 : (0 : Int) ≤ (j : Int) := by omega
                    have k1 : (j : Int) < (M.length : Int) := by omega
                    have k2 : ((j : Int) + 1) ≤ (pc : Int) := by omega
                    have k3 : IntKind.i64.wrap ((j : Int) + 1) = (j : Int) + 1 := by rw [IntKind.wrap_i64]; omega
                    have k4 : wrap64 ((j : Int) + 1) = (j : Int) + 1 := by unfold wrap64; omega
                    have k5 : ¬ pc = j := by omega
                    clear zx hc hbl hp5 HM HSUB
                    go_wp2_with fail
                    refine region_class (C := fun w' => ∃ x : Gr wr, w' = x.1) (by kernel_rfl) (by kernel_rfl) ⟨⟨_, HX0.out⟩, rfl⟩ ?_
                    repeat (first
                      | go_big_quiet_skip
                      | (go_big_quiet_want; (go_big_quiet_op; first
                          | go_big_quiet_on
                          | (apply Exists.intro; refine ⟨fun x => ?_, ?_⟩; (first
                              | (go_at_call 6; exact x.call (HCK.out x))
                              | (go_at_call 5; exact x.call ((HNN.out x.1).mono fun e w' hh => ⟨hh.1, by rw [hh.2]; exact Below.refl _ _⟩))); go_big_quiet_on))))
                    refine wpQuiet_nil ?_
                    rintro w5 ⟨x5, rfl⟩
                    obtain ⟨w5, hx⟩ := x5
                    dsimp only
                    have HW2 := hide (HWW.out.trans (hx.mono HWW.out.size))
                    clear hx this zx0 zx1 zx2 zx3 zx4
                    go_wp2_with fail
                    go_roundw
                    case rel => exact ⟨j + 1, e2, by omega, by go_num, rfl, hide HT2.out.symm, HW2⟩
                    case measure => simp [intOf]; omega
                  · have hd1 : (c1 == 0) = false := by rw [beq_eq_false_iff_ne]; exact h0
                    have HF := hide (show fst0 (M.map (fun p => kyE A S p.1 p.2)) = c1 by rw [fst0_over (by rw [← HT.out]; exact h0), ← HT.out])
                    have HBF := hide (HBB.out.trans (HWW.out.mono HBB.out.size))
                    by_cases h6 : 64 < M.length
                    · have hq : got2 = 5 := by rw [HSN.out]; exact if_pos h6
                      have hd6 : decide (64 < (M.length : Int)) = true := by rw [decide_eq_true_eq]; omega
                      subst hq
                      clear h6
                      go_wp2_with fail
                      go_ret
                      exact ⟨rfl, HBF.out⟩
                    · have hq : got2 = c1 := by rw [HSN.out, if_neg h6]; exact HF.out
                      have hd6 : decide (64 < (M.length : Int)) = false := by rw [decide_eq_false_iff_not]; omega
                      have hd7 : (c1 == c1) = true := by simp
                      subst hq
                      clear h6
                      go_wp2_with fail
                      go_ret
                      exact ⟨rfl, HBF.out⟩
                · have hd : decide ((j : Int) < (M.length : Int)) = false := by rw [decide_eq_false_iff_not]; omega
                  have HF := hide (show fst0 (M.map (fun p => kyE A S p.1 p.2)) = c1 by
                    have h1 := HT.out
                    rw [List.take_of_length_le (by simp; omega)] at h1
                    exact h1.symm)
                  have HBF := hide (HBB.out.trans (HWW.out.mono HBB.out.size))
                  by_cases h6 : 64 < M.length
                  · have hq : got2 = 5 := by rw [HSN.out]; exact if_pos h6
                    have hd6 : decide (64 < (M.length : Int)) = true := by rw [decide_eq_true_eq]; omega
                    subst hq
                    clear h6
                    go_wp2_with fail
                    go_ret
                    exact ⟨rfl, HBF.out⟩
                  · have hq : got2 = c1 := by rw [HSN.out, if_neg h6]; exact HF.out
                    have hd6 : decide (64 < (M.length : Int)) = false := by rw [decide_eq_false_iff_not]; omega
                    have hd7 : (c1 == c1) = true := by simp
                    subst hq
                    clear h6
                    go_wp2_with fail
                    go_ret
                    exact ⟨rfl, HBF.out⟩
            · have hq : got = c1 := by rw [HSB.out, if_neg h4, if_neg h5]; exact HF.out
              have hd5 : ((L.length : Int) == 0) = false := by rw [beq_eq_false_iff_ne]; omega
              have hd7 : (c1 != c1) = false := by simp
              subst hq
              clear h4 h5 HSB
              go_wp2_with fail
              refine (HCP.out _ _ M (HPP.out.later HB5.out) (by omega)).mono ?_
              rintro e w6 ⟨rfl, hb⟩
              have HB6 := hide (HB5.out.trans (hb.mono HB5.out.size))
              have Z6 := hide (blk_later Z5.out hb)
              clear hb x0 x1 x2 x3 x4
              obtain ⟨x0, x1, x2, x3, x4⟩ := five_cells Z6.out rfl
              have HN2 := hide (HNP.out M)
              have HSN : Hid (snE A S M = if 64 < M.length then 5 else fst0 (M.map fun p => kyE A S p.1 p.2)) := hide rfl
              generalize snE A S M = got2 at *
              generalize errV got2 = ev3 at *
              go_wp2_with fail
              refine (HN2.out _).mono ?_
              rintro e w7 ⟨rfl, hw7⟩
              obtain rfl := hw7.symm
              go_wp2_with fail
              have HBB := HB6
              have ZB := Z6
              clear HF HT HWW hd
              obtain ⟨WB, hWB⟩ : ∃ x, x = w6 := ⟨_, rfl⟩
              subst hWB
              go_loopw [10, 12] (fun u i wr => ∃ (j : Nat) (c1 : Int), j ≤ M.length ∧ i = .int .i64 (j : Int) ∧ u = .int .i64 c1 ∧ Hid (c1 = fst0 ((M.map (fun p => kyE A S p.1 p.2)).take j)) ∧ Hid (Below WB.heap.size WB wr)) (fun _ i _ => M.length - (intOf i).toNat)
              case atStart => exact ⟨0, 0, Nat.zero_le _, rfl, rfl, hide (by rw [List.take_zero]; rfl), hide (Below.refl _ _)⟩
              case round =>
                clear x0 x1 x2 x3 x4
                obtain ⟨j, c1, hj, rfl, rfl, HT, HWW⟩ := hrel
                by_cases hlt : j < M.length
                · have hd : decide ((j : Int) < (M.length : Int)) = true := by rw [decide_eq_true_eq]; omega
                  by_cases h0 : c1 = 0
                  · obtain ⟨p, hp5⟩ : ∃ p, M[j]? = some p := ⟨_, List.getElem?_eq_getElem hlt⟩
                    obtain ⟨b, off, ha, hbl, hc⟩ := HPR.out.resolve_left (fun h => by rw [h] at hlt; simp at hlt)
                    subst ha
                    have HBW := hide (HBB.out.trans (HWW.out.mono HBB.out.size))
                    have HSUB := hide (ky_sub hbl hpc hc hp5)
                    have HM := hide (show (M.map (fun p => kyE A S p.1 p.2))[j]? = some (kyE A S p.1 p.2) by rw [List.getElem?_map, hp5]; rfl)
                    have HT2 := hide (fst0_take (HT.out.symm.trans h0) HM.out)
                    have HCK := hide (fun x : Gr wr => HCP.out x.1 (.slice (some ⟨b, off + j * 2, none⟩) 1 (pc - j)) [p] ((HSUB.out).later (HBW.out.trans (x.2.mono HBW.out.size))) (by simp))
                    have HNN := hide (HNP.out [p])
                    rw [snE_one] at HNN
                    simp only [snE_one] at HCK
                    generalize errV (kyE A S p.1 p.2) = ev2 at *
                    generalize kyE A S p.1 p.2 = e2 at *
                    subst h0
                    have ZZ := hide (blk_later ZB.out HWW.out)
                    have HX0 := hide ((Below.refl wr.heap.size wr).drew)
                    haveI : Nonempty (Gr wr) := ⟨⟨_, HX0.out⟩⟩
                    have zx : ∀ x : Gr wr, _ := fun x => five_cells (blk_later ZZ.out x.2) rfl
                    have zx0 := fun x => (zx x).1
                    have zx1 := fun x => (zx x).2.1
                    have zx2 := fun x => (zx x).2.2.1
                    have zx3 := fun x => (zx x).2.2.2.1
                    have zx4 := fun x => (zx x).2.2.2.2
                    have k0 : (0 : Int) ≤ (j : Int) := by omega
                    have k1 : (j : Int) < (M.length : Int) := by omega
                    have k2 : ((j : Int) + 1) ≤ (pc : Int) := by omega
                    have k3 : IntKind.i64.wrap ((j : Int) + 1) = (j : Int) + 1 := by rw [IntKind.wrap_i64]; omega
                    have k4 : wrap64 ((j : Int) + 1) = (j : Int) + 1 := by unfold wrap64; omega
                    have k5 : ¬ pc = j := by omega
                    clear zx hc hbl hp5 HM HSUB
                    go_wp2_with fail
                    refine region_class (C := fun w' => ∃ x : Gr wr, w' = x.1) (by kernel_rfl) (by kernel_rfl) ⟨⟨_, HX0.out⟩, rfl⟩ ?_
                    repeat (first
                      | go_big_quiet_skip
                      | (go_big_quiet_want; (go_big_quiet_op; first
                          | go_big_quiet_on
                          | (apply Exists.intro; refine ⟨fun x => ?_, ?_⟩; (first
                              | (go_at_call 6; exact x.call (HCK.out x))
                              | (go_at_call 5; exact x.call ((HNN.out x.1).mono fun e w' hh => ⟨hh.1, by rw [hh.2]; exact Below.refl _ _⟩))); go_big_quiet_on))))
                    refine wpQuiet_nil ?_
                    rintro w5 ⟨x5, rfl⟩
                    obtain ⟨w5, hx⟩ := x5
                    dsimp only
                    have HW2 := hide (HWW.out.trans (hx.mono HWW.out.size))
                    clear hx this zx0 zx1 zx2 zx3 zx4
                    go_wp2_with fail
                    go_roundw
                    case rel => exact ⟨j + 1, e2, by omega, by go_num, rfl, hide HT2.out.symm, HW2⟩
                    case measure => simp [intOf]; omega
                  · have hd1 : (c1 == 0) = false := by rw [beq_eq_false_iff_ne]; exact h0
                    have HF := hide (show fst0 (M.map (fun p => kyE A S p.1 p.2)) = c1 by rw [fst0_over (by rw [← HT.out]; exact h0), ← HT.out])
                    have HBF := hide (HBB.out.trans (HWW.out.mono HBB.out.size))
                    by_cases h6 : 64 < M.length
                    · have hq : got2 = 5 := by rw [HSN.out]; exact if_pos h6
                      have hd6 : decide (64 < (M.length : Int)) = true := by rw [decide_eq_true_eq]; omega
                      subst hq
                      clear h6
                      go_wp2_with fail
                      go_ret
                      exact ⟨rfl, HBF.out⟩
                    · have hq : got2 = c1 := by rw [HSN.out, if_neg h6]; exact HF.out
                      have hd6 : decide (64 < (M.length : Int)) = false := by rw [decide_eq_false_iff_not]; omega
                      have hd7 : (c1 == c1) = true := by simp
                      subst hq
                      clear h6
                      go_wp2_with fail
                      go_ret
                      exact ⟨rfl, HBF.out⟩
                · have hd : decide ((j : Int) < (M.length : Int)) = false := by rw [decide_eq_false_iff_not]; omega
                  have HF := hide (show fst0 (M.map (fun p => kyE A S p.1 p.2)) = c1 by
                    have h1 := HT.out
                    rw [List.take_of_length_le (by simp; omega)] at h1
                    exact h1.symm)
                  have HBF := hide (HBB.out.trans (HWW.out.mono HBB.out.size))
                  by_cases h6 : 64 < M.length
                  · have hq : got2 = 5 := by rw [HSN.out]; exact if_pos h6
                    have hd6 : decide (64 < (M.length : Int)) = true := by rw [decide_eq_true_eq]; omega
                    subst hq
                    clear h6
                    go_wp2_with fail
                    go_ret
                    exact ⟨rfl, HBF.out⟩
                  · have hq : got2 = c1 := by rw [HSN.out, if_neg h6]; exact HF.out
                    have hd6 : decide (64 < (M.length : Int)) = false := by rw [decide_eq_false_iff_not]; omega
                    have hd7 : (c1 == c1) = true := by simp
                    subst hq
                    clear h6
                    go_wp2_with fail
                    go_ret
                    exact ⟨rfl, HBF.out⟩
      · have hd : decide ((j : Int) < (L.length : Int)) = false := by rw [decide_eq_false_iff_not]; omega
        have HF := hide (show fst0 (L.map (lgE A S)) = c1 by
          have h1 := HT.out
          rw [List.take_of_length_le (by simp; omega)] at h1
          exact h1.symm)
        have HB5 := hide (HBB.out.trans (HWW.out.mono HBB.out.size))
        have Z5 := hide (blk_later ZB.out HWW.out)
        obtain ⟨x0, x1, x2, x3, x4⟩ := five_cells Z5.out rfl
        clear HBB ZB
        by_cases h4 : 4 < L.length
        · have hq : got = 5 := by rw [HSB.out]; exact if_pos h4
          have hd4 : decide (4 < (L.length : Int)) = true := by rw [decide_eq_true_eq]; omega
          have hd5 : ((L.length : Int) == 0) = false := by rw [beq_eq_false_iff_ne]; omega
          subst hq
          clear h4 HSB
          go_wp2_with fail
          refine (HCP.out _ _ M (HPP.out.later HB5.out) (by omega)).mono ?_
          rintro e w6 ⟨rfl, hb⟩
          have HB6 := hide (HB5.out.trans (hb.mono HB5.out.size))
          have Z6 := hide (blk_later Z5.out hb)
          clear hb x0 x1 x2 x3 x4
          obtain ⟨x0, x1, x2, x3, x4⟩ := five_cells Z6.out rfl
          have HN2 := hide (HNP.out M)
          have HSN : Hid (snE A S M = if 64 < M.length then 5 else fst0 (M.map fun p => kyE A S p.1 p.2)) := hide rfl
          generalize snE A S M = got2 at *
          generalize errV got2 = ev3 at *
          go_wp2_with fail
          refine (HN2.out _).mono ?_
          rintro e w7 ⟨rfl, hw7⟩
          obtain rfl := hw7.symm
          go_wp2_with fail
          have HBB := HB6
          have ZB := Z6
          clear HF HT HWW hd
          obtain ⟨WB, hWB⟩ : ∃ x, x = w6 := ⟨_, rfl⟩
          subst hWB
          go_loopw [10, 12] (fun u i wr => ∃ (j : Nat) (c1 : Int), j ≤ M.length ∧ i = .int .i64 (j : Int) ∧ u = .int .i64 c1 ∧ Hid (c1 = fst0 ((M.map (fun p => kyE A S p.1 p.2)).take j)) ∧ Hid (Below WB.heap.size WB wr)) (fun _ i _ => M.length - (intOf i).toNat)
          case atStart => exact ⟨0, 0, Nat.zero_le _, rfl, rfl, hide (by rw [List.take_zero]; rfl), hide (Below.refl _ _)⟩
          case round =>
            clear x0 x1 x2 x3 x4
            obtain ⟨j, c1, hj, rfl, rfl, HT, HWW⟩ := hrel
            by_cases hlt : j < M.length
            · have hd : decide ((j : Int) < (M.length : Int)) = true := by rw [decide_eq_true_eq]; omega
              by_cases h0 : c1 = 0
              · obtain ⟨p, hp5⟩ : ∃ p, M[j]? = some p := ⟨_, List.getElem?_eq_getElem hlt⟩
                obtain ⟨b, off, ha, hbl, hc⟩ := HPR.out.resolve_left (fun h => by rw [h] at hlt; simp at hlt)
                subst ha
                have HBW := hide (HBB.out.trans (HWW.out.mono HBB.out.size))
                have HSUB := hide (ky_sub hbl hpc hc hp5)
                have HM := hide (show (M.map (fun p => kyE A S p.1 p.2))[j]? = some (kyE A S p.1 p.2) by rw [List.getElem?_map, hp5]; rfl)
                have HT2 := hide (fst0_take (HT.out.symm.trans h0) HM.out)
                have HCK := hide (fun x : Gr wr => HCP.out x.1 (.slice (some ⟨b, off + j * 2, none⟩) 1 (pc - j)) [p] ((HSUB.out).later (HBW.out.trans (x.2.mono HBW.out.size))) (by simp))
                have HNN := hide (HNP.out [p])
                rw [snE_one] at HNN
                simp only [snE_one] at HCK
                generalize errV (kyE A S p.1 p.2) = ev2 at *
                generalize kyE A S p.1 p.2 = e2 at *
                subst h0
                have ZZ := hide (blk_later ZB.out HWW.out)
                have HX0 := hide ((Below.refl wr.heap.size wr).drew)
                haveI : Nonempty (Gr wr) := ⟨⟨_, HX0.out⟩⟩
                have zx : ∀ x : Gr wr, _ := fun x => five_cells (blk_later ZZ.out x.2) rfl
                have zx0 := fun x => (zx x).1
                have zx1 := fun x => (zx x).2.1
                have zx2 := fun x => (zx x).2.2.1
                have zx3 := fun x => (zx x).2.2.2.1
                have zx4 := fun x => (zx x).2.2.2.2
                have k0 : (0 : Int) ≤ (j : Int) := by omega
                have k1 : (j : Int) < (M.length : Int) := by omega
                have k2 : ((j : Int) + 1) ≤ (pc : Int) := by omega
                have k3 : IntKind.i64.wrap ((j : Int) + 1) = (j : Int) + 1 := by rw [IntKind.wrap_i64]; omega
                have k4 : wrap64 ((j : Int) + 1) = (j : Int) + 1 := by unfold wrap64; omega
                have k5 : ¬ pc = j := by omega
                clear zx hc hbl hp5 HM HSUB
                go_wp2_with fail
                refine region_class (C := fun w' => ∃ x : Gr wr, w' = x.1) (by kernel_rfl) (by kernel_rfl) ⟨⟨_, HX0.out⟩, rfl⟩ ?_
                repeat (first
                  | go_big_quiet_skip
                  | (go_big_quiet_want; (go_big_quiet_op; first
                      | go_big_quiet_on
                      | (apply Exists.intro; refine ⟨fun x => ?_, ?_⟩; (first
                          | (go_at_call 6; exact x.call (HCK.out x))
                          | (go_at_call 5; exact x.call ((HNN.out x.1).mono fun e w' hh => ⟨hh.1, by rw [hh.2]; exact Below.refl _ _⟩))); go_big_quiet_on))))
                refine wpQuiet_nil ?_
                rintro w5 ⟨x5, rfl⟩
                obtain ⟨w5, hx⟩ := x5
                dsimp only
                have HW2 := hide (HWW.out.trans (hx.mono HWW.out.size))
                clear hx this zx0 zx1 zx2 zx3 zx4
                go_wp2_with fail
                go_roundw
                case rel => exact ⟨j + 1, e2, by omega, by go_num, rfl, hide HT2.out.symm, HW2⟩
                case measure => simp [intOf]; omega
              · have hd1 : (c1 == 0) = false := by rw [beq_eq_false_iff_ne]; exact h0
                have HF := hide (show fst0 (M.map (fun p => kyE A S p.1 p.2)) = c1 by rw [fst0_over (by rw [← HT.out]; exact h0), ← HT.out])
                have HBF := hide (HBB.out.trans (HWW.out.mono HBB.out.size))
                by_cases h6 : 64 < M.length
                · have hq : got2 = 5 := by rw [HSN.out]; exact if_pos h6
                  have hd6 : decide (64 < (M.length : Int)) = true := by rw [decide_eq_true_eq]; omega
                  subst hq
                  clear h6
                  go_wp2_with fail
                  go_ret
                  exact ⟨rfl, HBF.out⟩
                · have hq : got2 = c1 := by rw [HSN.out, if_neg h6]; exact HF.out
                  have hd6 : decide (64 < (M.length : Int)) = false := by rw [decide_eq_false_iff_not]; omega
                  have hd7 : (c1 == c1) = true := by simp
                  subst hq
                  clear h6
                  go_wp2_with fail
                  go_ret
                  exact ⟨rfl, HBF.out⟩
            · have hd : decide ((j : Int) < (M.length : Int)) = false := by rw [decide_eq_false_iff_not]; omega
              have HF := hide (show fst0 (M.map (fun p => kyE A S p.1 p.2)) = c1 by
                have h1 := HT.out
                rw [List.take_of_length_le (by simp; omega)] at h1
                exact h1.symm)
              have HBF := hide (HBB.out.trans (HWW.out.mono HBB.out.size))
              by_cases h6 : 64 < M.length
              · have hq : got2 = 5 := by rw [HSN.out]; exact if_pos h6
                have hd6 : decide (64 < (M.length : Int)) = true := by rw [decide_eq_true_eq]; omega
                subst hq
                clear h6
                go_wp2_with fail
                go_ret
                exact ⟨rfl, HBF.out⟩
              · have hq : got2 = c1 := by rw [HSN.out, if_neg h6]; exact HF.out
                have hd6 : decide (64 < (M.length : Int)) = false := by rw [decide_eq_false_iff_not]; omega
                have hd7 : (c1 == c1) = true := by simp
                subst hq
                clear h6
                go_wp2_with fail
                go_ret
                exact ⟨rfl, HBF.out⟩
        · have hd4 : decide (4 < (L.length : Int)) = false := by rw [decide_eq_false_iff_not]; omega
          by_cases h5 : L.length = 0
          · have hq : got = 2 := by rw [HSB.out, if_neg h4]; exact if_pos h5
            have hd5 : ((L.length : Int) == 0) = true := by rw [beq_iff_eq]; omega
            subst hq
            clear h4 h5 HSB
            go_wp2_with fail
            refine (HCP.out _ _ M (HPP.out.later HB5.out) (by omega)).mono ?_
            rintro e w6 ⟨rfl, hb⟩
            have HB6 := hide (HB5.out.trans (hb.mono HB5.out.size))
            have Z6 := hide (blk_later Z5.out hb)
            clear hb x0 x1 x2 x3 x4
            obtain ⟨x0, x1, x2, x3, x4⟩ := five_cells Z6.out rfl
            have HN2 := hide (HNP.out M)
            have HSN : Hid (snE A S M = if 64 < M.length then 5 else fst0 (M.map fun p => kyE A S p.1 p.2)) := hide rfl
            generalize snE A S M = got2 at *
            generalize errV got2 = ev3 at *
            go_wp2_with fail
            refine (HN2.out _).mono ?_
            rintro e w7 ⟨rfl, hw7⟩
            obtain rfl := hw7.symm
            go_wp2_with fail
            have HBB := HB6
            have ZB := Z6
            clear HF HT HWW hd
            obtain ⟨WB, hWB⟩ : ∃ x, x = w6 := ⟨_, rfl⟩
            subst hWB
            go_loopw [10, 12] (fun u i wr => ∃ (j : Nat) (c1 : Int), j ≤ M.length ∧ i = .int .i64 (j : Int) ∧ u = .int .i64 c1 ∧ Hid (c1 = fst0 ((M.map (fun p => kyE A S p.1 p.2)).take j)) ∧ Hid (Below WB.heap.size WB wr)) (fun _ i _ => M.length - (intOf i).toNat)
            case atStart => exact ⟨0, 0, Nat.zero_le _, rfl, rfl, hide (by rw [List.take_zero]; rfl), hide (Below.refl _ _)⟩
            case round =>
              clear x0 x1 x2 x3 x4
              obtain ⟨j, c1, hj, rfl, rfl, HT, HWW⟩ := hrel
              by_cases hlt : j < M.length
              · have hd : decide ((j : Int) < (M.length : Int)) = true := by rw [decide_eq_true_eq]; omega
                by_cases h0 : c1 = 0
                · obtain ⟨p, hp5⟩ : ∃ p, M[j]? = some p := ⟨_, List.getElem?_eq_getElem hlt⟩
                  obtain ⟨b, off, ha, hbl, hc⟩ := HPR.out.resolve_left (fun h => by rw [h] at hlt; simp at hlt)
                  subst ha
                  have HBW := hide (HBB.out.trans (HWW.out.mono HBB.out.size))
                  have HSUB := hide (ky_sub hbl hpc hc hp5)
                  have HM := hide (show (M.map (fun p => kyE A S p.1 p.2))[j]? = some (kyE A S p.1 p.2) by rw [List.getElem?_map, hp5]; rfl)
                  have HT2 := hide (fst0_take (HT.out.symm.trans h0) HM.out)
                  have HCK := hide (fun x : Gr wr => HCP.out x.1 (.slice (some ⟨b, off + j * 2, none⟩) 1 (pc - j)) [p] ((HSUB.out).later (HBW.out.trans (x.2.mono HBW.out.size))) (by simp))
                  have HNN := hide (HNP.out [p])
                  rw [snE_one] at HNN
                  simp only [snE_one] at HCK
                  generalize errV (kyE A S p.1 p.2) = ev2 at *
                  generalize kyE A S p.1 p.2 = e2 at *
                  subst h0
                  have ZZ := hide (blk_later ZB.out HWW.out)
                  have HX0 := hide ((Below.refl wr.heap.size wr).drew)
                  haveI : Nonempty (Gr wr) := ⟨⟨_, HX0.out⟩⟩
                  have zx : ∀ x : Gr wr, _ := fun x => five_cells (blk_later ZZ.out x.2) rfl
                  have zx0 := fun x => (zx x).1
                  have zx1 := fun x => (zx x).2.1
                  have zx2 := fun x => (zx x).2.2.1
                  have zx3 := fun x => (zx x).2.2.2.1
                  have zx4 := fun x => (zx x).2.2.2.2
                  have k0 : (0 : Int) ≤ (j : Int) := by omega
                  have k1 : (j : Int) < (M.length : Int) := by omega
                  have k2 : ((j : Int) + 1) ≤ (pc : Int) := by omega
                  have k3 : IntKind.i64.wrap ((j : Int) + 1) = (j : Int) + 1 := by rw [IntKind.wrap_i64]; omega
                  have k4 : wrap64 ((j : Int) + 1) = (j : Int) + 1 := by unfold wrap64; omega
                  have k5 : ¬ pc = j := by omega
                  clear zx hc hbl hp5 HM HSUB
                  go_wp2_with fail
                  refine region_class (C := fun w' => ∃ x : Gr wr, w' = x.1) (by kernel_rfl) (by kernel_rfl) ⟨⟨_, HX0.out⟩, rfl⟩ ?_
                  repeat (first
                    | go_big_quiet_skip
                    | (go_big_quiet_want; (go_big_quiet_op; first
                        | go_big_quiet_on
                        | (apply Exists.intro; refine ⟨fun x => ?_, ?_⟩; (first
                            | (go_at_call 6; exact x.call (HCK.out x))
                            | (go_at_call 5; exact x.call ((HNN.out x.1).mono fun e w' hh => ⟨hh.1, by rw [hh.2]; exact Below.refl _ _⟩))); go_big_quiet_on))))
                  refine wpQuiet_nil ?_
                  rintro w5 ⟨x5, rfl⟩
                  obtain ⟨w5, hx⟩ := x5
                  dsimp only
                  have HW2 := hide (HWW.out.trans (hx.mono HWW.out.size))
                  clear hx this zx0 zx1 zx2 zx3 zx4
                  go_wp2_with fail
                  go_roundw
                  case rel => exact ⟨j + 1, e2, by omega, by go_num, rfl, hide HT2.out.symm, HW2⟩
                  case measure => simp [intOf]; omega
                · have hd1 : (c1 == 0) = false := by rw [beq_eq_false_iff_ne]; exact h0
                  have HF := hide (show fst0 (M.map (fun p => kyE A S p.1 p.2)) = c1 by rw [fst0_over (by rw [← HT.out]; exact h0), ← HT.out])
                  have HBF := hide (HBB.out.trans (HWW.out.mono HBB.out.size))
                  by_cases h6 : 64 < M.length
                  · have hq : got2 = 5 := by rw [HSN.out]; exact if_pos h6
                    have hd6 : decide (64 < (M.length : Int)) = true := by rw [decide_eq_true_eq]; omega
                    subst hq
                    clear h6
                    go_wp2_with fail
                    go_ret
                    exact ⟨rfl, HBF.out⟩
                  · have hq : got2 = c1 := by rw [HSN.out, if_neg h6]; exact HF.out
                    have hd6 : decide (64 < (M.length : Int)) = false := by rw [decide_eq_false_iff_not]; omega
                    have hd7 : (c1 == c1) = true := by simp
                    subst hq
                    clear h6
                    go_wp2_with fail
                    go_ret
                    exact ⟨rfl, HBF.out⟩
              · have hd : decide ((j : Int) < (M.length : Int)) = false := by rw [decide_eq_false_iff_not]; omega
                have HF := hide (show fst0 (M.map (fun p => kyE A S p.1 p.2)) = c1 by
                  have h1 := HT.out
                  rw [List.take_of_length_le (by simp; omega)] at h1
                  exact h1.symm)
                have HBF := hide (HBB.out.trans (HWW.out.mono HBB.out.size))
                by_cases h6 : 64 < M.length
                · have hq : got2 = 5 := by rw [HSN.out]; exact if_pos h6
                  have hd6 : decide (64 < (M.length : Int)) = true := by rw [decide_eq_true_eq]; omega
                  subst hq
                  clear h6
                  go_wp2_with fail
                  go_ret
                  exact ⟨rfl, HBF.out⟩
                · have hq : got2 = c1 := by rw [HSN.out, if_neg h6]; exact HF.out
                  have hd6 : decide (64 < (M.length : Int)) = false := by rw [decide_eq_false_iff_not]; omega
                  have hd7 : (c1 == c1) = true := by simp
                  subst hq
                  clear h6
                  go_wp2_with fail
                  go_ret
                  exact ⟨rfl, HBF.out⟩
          · have hq : got = c1 := by rw [HSB.out, if_neg h4, if_neg h5]; exact HF.out
            have hd5 : ((L.length : Int) == 0) = false := by rw [beq_eq_false_iff_ne]; omega
            have hd7 : (c1 != c1) = false := by simp
            subst hq
            clear h4 h5 HSB
            go_wp2_with fail
            refine (HCP.out _ _ M (HPP.out.later HB5.out) (by omega)).mono ?_
            rintro e w6 ⟨rfl, hb⟩
            have HB6 := hide (HB5.out.trans (hb.mono HB5.out.size))
            have Z6 := hide (blk_later Z5.out hb)
            clear hb x0 x1 x2 x3 x4
            obtain ⟨x0, x1, x2, x3, x4⟩ := five_cells Z6.out rfl
            have HN2 := hide (HNP.out M)
            have HSN : Hid (snE A S M = if 64 < M.length then 5 else fst0 (M.map fun p => kyE A S p.1 p.2)) := hide rfl
            generalize snE A S M = got2 at *
            generalize errV got2 = ev3 at *
            go_wp2_with fail
            refine (HN2.out _).mono ?_
            rintro e w7 ⟨rfl, hw7⟩
            obtain rfl := hw7.symm
            go_wp2_with fail
            have HBB := HB6
            have ZB := Z6
            clear HF HT HWW hd
            obtain ⟨WB, hWB⟩ : ∃ x, x = w6 := ⟨_, rfl⟩
            subst hWB
            go_loopw [10, 12] (fun u i wr => ∃ (j : Nat) (c1 : Int), j ≤ M.length ∧ i = .int .i64 (j : Int) ∧ u = .int .i64 c1 ∧ Hid (c1 = fst0 ((M.map (fun p => kyE A S p.1 p.2)).take j)) ∧ Hid (Below WB.heap.size WB wr)) (fun _ i _ => M.length - (intOf i).toNat)
            case atStart => exact ⟨0, 0, Nat.zero_le _, rfl, rfl, hide (by rw [List.take_zero]; rfl), hide (Below.refl _ _)⟩
            case round =>
              clear x0 x1 x2 x3 x4
              obtain ⟨j, c1, hj, rfl, rfl, HT, HWW⟩ := hrel
              by_cases hlt : j < M.length
              · have hd : decide ((j : Int) < (M.length : Int)) = true := by rw [decide_eq_true_eq]; omega
                by_cases h0 : c1 = 0
                · obtain ⟨p, hp5⟩ : ∃ p, M[j]? = some p := ⟨_, List.getElem?_eq_getElem hlt⟩
                  obtain ⟨b, off, ha, hbl, hc⟩ := HPR.out.resolve_left (fun h => by rw [h] at hlt; simp at hlt)
                  subst ha
                  have HBW := hide (HBB.out.trans (HWW.out.mono HBB.out.size))
                  have HSUB := hide (ky_sub hbl hpc hc hp5)
                  have HM := hide (show (M.map (fun p => kyE A S p.1 p.2))[j]? = some (kyE A S p.1 p.2) by rw [List.getElem?_map, hp5]; rfl)
                  have HT2 := hide (fst0_take (HT.out.symm.trans h0) HM.out)
                  have HCK := hide (fun x : Gr wr => HCP.out x.1 (.slice (some ⟨b, off + j * 2, none⟩) 1 (pc - j)) [p] ((HSUB.out).later (HBW.out.trans (x.2.mono HBW.out.size))) (by simp))
                  have HNN := hide (HNP.out [p])
                  rw [snE_one] at HNN
                  simp only [snE_one] at HCK
                  generalize errV (kyE A S p.1 p.2) = ev2 at *
                  generalize kyE A S p.1 p.2 = e2 at *
                  subst h0
                  have ZZ := hide (blk_later ZB.out HWW.out)
                  have HX0 := hide ((Below.refl wr.heap.size wr).drew)
                  haveI : Nonempty (Gr wr) := ⟨⟨_, HX0.out⟩⟩
                  have zx : ∀ x : Gr wr, _ := fun x => five_cells (blk_later ZZ.out x.2) rfl
                  have zx0 := fun x => (zx x).1
                  have zx1 := fun x => (zx x).2.1
                  have zx2 := fun x => (zx x).2.2.1
                  have zx3 := fun x => (zx x).2.2.2.1
                  have zx4 := fun x => (zx x).2.2.2.2
                  have k0 : (0 : Int) ≤ (j : Int) := by omega
                  have k1 : (j : Int) < (M.length : Int) := by omega
                  have k2 : ((j : Int) + 1) ≤ (pc : Int) := by omega
                  have k3 : IntKind.i64.wrap ((j : Int) + 1) = (j : Int) + 1 := by rw [IntKind.wrap_i64]; omega
                  have k4 : wrap64 ((j : Int) + 1) = (j : Int) + 1 := by unfold wrap64; omega
                  have k5 : ¬ pc = j := by omega
                  clear zx hc hbl hp5 HM HSUB
                  go_wp2_with fail
                  refine region_class (C := fun w' => ∃ x : Gr wr, w' = x.1) (by kernel_rfl) (by kernel_rfl) ⟨⟨_, HX0.out⟩, rfl⟩ ?_
                  repeat (first
                    | go_big_quiet_skip
                    | (go_big_quiet_want; (go_big_quiet_op; first
                        | go_big_quiet_on
                        | (apply Exists.intro; refine ⟨fun x => ?_, ?_⟩; (first
                            | (go_at_call 6; exact x.call (HCK.out x))
                            | (go_at_call 5; exact x.call ((HNN.out x.1).mono fun e w' hh => ⟨hh.1, by rw [hh.2]; exact Below.refl _ _⟩))); go_big_quiet_on))))
                  refine wpQuiet_nil ?_
                  rintro w5 ⟨x5, rfl⟩
                  obtain ⟨w5, hx⟩ := x5
                  dsimp only
                  have HW2 := hide (HWW.out.trans (hx.mono HWW.out.size))
                  clear hx this zx0 zx1 zx2 zx3 zx4
                  go_wp2_with fail
                  go_roundw
                  case rel => exact ⟨j + 1, e2, by omega, by go_num, rfl, hide HT2.out.symm, HW2⟩
                  case measure => simp [intOf]; omega
                · have hd1 : (c1 == 0) = false := by rw [beq_eq_false_iff_ne]; exact h0
                  have HF := hide (show fst0 (M.map (fun p => kyE A S p.1 p.2)) = c1 by rw [fst0_over (by rw [← HT.out]; exact h0), ← HT.out])
                  have HBF := hide (HBB.out.trans (HWW.out.mono HBB.out.size))
                  by_cases h6 : 64 < M.length
                  · have hq : got2 = 5 := by rw [HSN.out]; exact if_pos h6
                    have hd6 : decide (64 < (M.length : Int)) = true := by rw [decide_eq_true_eq]; omega
                    subst hq
                    clear h6
                    go_wp2_with fail
                    go_ret
                    exact ⟨rfl, HBF.out⟩
                  · have hq : got2 = c1 := by rw [HSN.out, if_neg h6]; exact HF.out
                    have hd6 : decide (64 < (M.length : Int)) = false := by rw [decide_eq_false_iff_not]; omega
                    have hd7 : (c1 == c1) = true := by simp
                    subst hq
                    clear h6
                    go_wp2_with fail
                    go_ret
                    exact ⟨rfl, HBF.out⟩
              · have hd : decide ((j : Int) < (M.length : Int)) = false := by rw [decide_eq_false_iff_not]; omega
                have HF := hide (show fst0 (M.map (fun p => kyE A S p.1 p.2)) = c1 by
                  have h1 := HT.out
                  rw [List.take_of_length_le (by simp; omega)] at h1
                  exact h1.symm)
                have HBF := hide (HBB.out.trans (HWW.out.mono HBB.out.size))
                by_cases h6 : 64 < M.length
                · have hq : got2 = 5 := by rw [HSN.out]; exact if_pos h6
                  have hd6 : decide (64 < (M.length : Int)) = true := by rw [decide_eq_true_eq]; omega
                  subst hq
                  clear h6
                  go_wp2_with fail
                  go_ret
                  exact ⟨rfl, HBF.out⟩
                · have hq : got2 = c1 := by rw [HSN.out, if_neg h6]; exact HF.out
                  have hd6 : decide (64 < (M.length : Int)) = false := by rw [decide_eq_false_iff_not]; omega
                  have hd7 : (c1 == c1) = true := by simp
                  subst hq
                  clear h6
                  go_wp2_with fail
                  go_ret
                  exact ⟨rfl, HBF.out⟩
end Go.Proofs.YtejdchknpfodeabDoor
