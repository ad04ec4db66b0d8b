/-
  My own text: the law on steps over business days.
-/
import Derived.Test.YtiajkglpmpemaabDoorS1
import Derived.Test.YtiajkglpmpemaabDoorE10
namespace Go.Proofs.YtiajkglpmpemaabDoor
open Go.RowKit

theorem Tryd.nilEqlG (i : Nat) (w : World) : (eqGuard .eql 31 (.tmp i) (.const .nilIface) .nilIface .nilIface).run Tryd.prog w = .ok () w := by kernel_rfl
theorem Tryd.nilEql (w : World) : (binOp .eql 31 .nilIface .nilIface).run Tryd.prog w = .ok (.bool true) w := by kernel_rfl
theorem bus_biz {we : Nat → Bool} {F : Int → Bool} {n : Int} (h : dayB n = true) : busB we F n = bizB we F n := by unfold busB bizB; rw [h]; simp
/-- Worlds that have grown out of w0, with the calendar. -/
def CalW (w0 : World) (p b : Nat) (we : Nat → Bool) (F : Int → Bool) : Type := { w' : World // Cal w' p b we F ∧ Below w0.heap.size w0 w' }
theorem CalW.call {w0 : World} {p b : Nat} {we : Nat → Bool} {F : Int → Bool} (q : CalW w0 p b we F) {P : Program} {f : FuncId} {args : Array Value} {v : Value} (h : Calls P f args q.1 fun e w' => e = .returned v ∧ Below q.1.heap.size q.1 w') :
    Calls P f args q.1 fun e w' => e = .returned v ∧ ∃ r : CalW w0 p b we F, w' = r.1 :=
  h.mono fun _ w' ⟨he, hb⟩ => ⟨he, ⟨w', q.2.1.later hb, q.2.2.trans (hb.mono q.2.2.size)⟩, rfl⟩
theorem pick_eq (k : Int) {n : Int} (h : 0 < n) : -n < k.tmod n ∧ k.tmod n < n ∧ k % n = if k.tmod n < 0 then k.tmod n + n else k.tmod n := by
  have h1 := Int.lt_tmod_of_pos k h
  have h2 := Int.tmod_lt_of_pos k h
  refine ⟨h1, h2, ?_⟩
  have e : (k.tmod n) % n = k % n := by rw [Int.tmod_def, Int.sub_mul_emod_self_left]
  rw [← e]
  split
  · rw [← Int.add_emod_right, Int.emod_eq_of_lt (by omega) (by omega)]
  · rw [Int.emod_eq_of_lt (by omega) (by omega)]
theorem pick_any (k n : Int) (w : World) (h1 : 0 < n) (h2 : n ≤ 4000000) :
    Calls Tryd.prog 24 #[.int .i64 k, .int .i64 n] w fun e w' => e = .returned (.int .i64 (k % n)) ∧ w' = w := by
  obtain ⟨t0, t1, t2⟩ := pick_eq k h1
  have H := hide t2
  clear t2
  have hn : ¬ n < 1 := by omega
  have hz : (n == 0) = false := by simp; omega
  have hz2 : ¬ n = 0 := by omega
  by_cases hneg : k.tmod n < 0
  · rw [if_pos hneg] at H
    go_enter Tryd.func24, Tryd.ntmps24
    go_wp2
    go_ret
    exact ⟨ret_i H.out.symm, rfl⟩
  · rw [if_neg hneg] at H
    go_enter Tryd.func24, Tryd.ntmps24
    go_wp2
    go_ret
    exact ⟨ret_i H.out.symm, rfl⟩
theorem first_any (k n : Int) (w : World) (h1 : 0 < n) (h2 : n ≤ 4000000) :
    Calls Tryd.prog 7 #[.int .i64 k, .int .i64 n] w fun e w' => e = .returned (.int .i64 (1 + k % n)) ∧ w' = w := by
  have HP := hide (fun W : World => pick_any k n W h1 h2)
  have r0 := Int.emod_nonneg k (show n ≠ 0 by omega)
  have r1 := Int.emod_lt_of_pos k h1
  generalize k % n = r at *
  go_enter Tryd.func7, Tryd.ntmps7
  go_wp2_with (go_at_call 24; refine (HP.out _).mono ?_; rintro e w' ⟨rfl, hw'⟩; have hw' := hw'.symm; subst hw')
  go_ret
  exact ⟨rfl, rfl⟩
set_option maxRecDepth 100000 in
set_option maxHeartbeats 8000000 in
theorem steps_law (we : Nat → Bool) (v : Value) (l : List Int) (n a c : Int) (w : World) (hM : MDays w) (hv : RI w .i64 v l) (hl : l.length ≤ 17592186044416) (hb : ∀ x ∈ l, -9223372036854775808 ≤ x ∧ x ≤ 9223372036854775807) :
    Calls Tryd.prog 3 #[.agg #[.bool (we 0), .bool (we 1), .bool (we 2), .bool (we 3), .bool (we 4), .bool (we 5), .bool (we 6), v], .int .i64 n, .int .i64 a, .int .i64 c] w fun e w' => e = .returned (.bool true) ∧ Below w.heap.size w w' := by
  have HM := hide hM
  clear hM
  have hg1 := Tryd.nilNeqG
  have hn1 := Tryd.nilNeq
  have hg2 := Tryd.nilEqlG
  have hn2 := Tryd.nilEql
  have HSH := hide (fun (W : World) (h : MDays W) => shown_any W (hide h))
  have HNW := hide (fun (W : World) (h : RI W .i64 v l) => New_any we v l W h hl hb)
  have HF1 := hide (fun W : World => first_any n 3652059 W (by omega) (by omega))
  have HF2 := hide (fun W : World => first_any a 300 W (by omega) (by omega))
  have HF3 := hide (fun W : World => first_any c 300 W (by omega) (by omega))
  have hN : 1 ≤ 1 + n % 3652059 ∧ 1 + n % 3652059 ≤ 3652059 := by omega
  have hA : 1 ≤ 1 + a % 300 ∧ 1 + a % 300 ≤ 300 := by omega
  have hB : 1 ≤ 1 + c % 300 ∧ 1 + c % 300 ≤ 300 := by omega
  generalize 1 + n % 3652059 = N at *
  generalize 1 + a % 300 = A at *
  generalize 1 + c % 300 = B at *
  obtain ⟨N1, N2⟩ := hN
  obtain ⟨A1, A2⟩ := hA
  obtain ⟨B1, B2⟩ := hB
  have HRI := hide hv
  obtain ⟨ad, cap, rfl, _⟩ := hv
  have HB0 : Hid (Below w.heap.size w (w.alloc (.cells #[.bool (we 0), .bool (we 1), .bool (we 2), .bool (we 3), .bool (we 4), .bool (we 5), .bool (we 6), .slice ad l.length cap] 25))) := hide ((Below.refl _ _).alloc (Nat.le_refl _) _)
  have HS := hide (free_week we l)
  obtain ⟨F, HFE⟩ : ∃ F, Hid (FL we l = F) := ⟨_, hide rfl⟩
  rw [HFE.out] at HNW HS
  clear hl hb
  go_enter Tryd.func3, Tryd.ntmps3
  go_wp2_with fail
  refine (HNW.out _ (HRI.out.later HB0.out)).mono ?_
  rintro e w1 ⟨rfl, hcal, hb1⟩
  have HB1 := hide (HB0.out.trans (hb1.mono HB0.out.size))
  have HCA := hide hcal
  clear hb1 HB0 hcal
  generalize (w.alloc (.cells #[.bool (we 0), .bool (we 1), .bool (we 2), .bool (we 3), .bool (we 4), .bool (we 5), .bool (we 6), .slice ad l.length cap] 25)).heap.size + 2 = p at *
  generalize (w.alloc (.cells #[.bool (we 0), .bool (we 1), .bool (we 2), .bool (we 3), .bool (we 4), .bool (we 5), .bool (we 6), .slice ad l.length cap] 25)).heap.size + 1 = b at *
  go_wp2_with fail
  refine (HSH.out _ (HM.out.below HB1.out)).mono ?_
  rintro e w2 ⟨rfl, hb2⟩
  have HB2 := hide (HB1.out.trans (hb2.mono HB1.out.size))
  have HC2 := hide (HCA.out.later hb2)
  clear hb2 HB1 HCA
  go_wp2_with fail
  refine (HF1.out _).mono ?_
  rintro e w' ⟨rfl, hw'⟩
  have hw' := hw'.symm
  subst hw'
  go_wp2_with fail
  refine (HF2.out _).mono ?_
  rintro e w' ⟨rfl, hw'⟩
  have hw' := hw'.symm
  subst hw'
  go_wp2_with fail
  refine (HF3.out _).mono ?_
  rintro e w' ⟨rfl, hw'⟩
  have hw' := hw'.symm
  subst hw'
  have HBN := hide (fun (W : World) (h : Cal W p b we F) => Business_any p b we F N W (hide h))
  rw [bus_biz (dayB_yes N1 N2)] at HBN
  go_wp2_with fail
  go_loopw [10] (fun s wr => ∃ k : Nat, k ≤ 2 ∧ s = .int .i64 (2 * k - 1) ∧ Hid (Cal wr p b we F) ∧ Hid (Below w.heap.size w wr)) (fun s _ => (4 - intOf s).toNat)
  case atStart => exact ⟨0, by omega, rfl, HC2, HB2⟩
  case round =>
    clear HC2 HB2
    obtain ⟨k, hk, rfl, HC, HB⟩ := hrel
    rcases (show k = 0 ∨ k = 1 ∨ k = 2 by omega) with rfl | rfl | rfl
    · rw [show 2 * ((0 : Nat) : Int) - 1 = -1 from rfl]
      go_wp2_with fail
      refine (Add_any p b we F N _ _ (hide HC.out) HS (by omega) (by omega)).mono ?_
      rintro e u1 ⟨⟨x, e1, rfl, hs1⟩, hbu1⟩
      have HU1 := hide (HB.out.trans (hbu1.mono HB.out.size))
      have HC1 := hide ((HC.out).later hbu1)
      clear hbu1
      go_wp2_with fail
      refine (Add_any p b we F N _ _ (hide HC1.out) HS (by omega) (by omega)).mono ?_
      rintro e u2 ⟨⟨al, f, rfl, hs2⟩, hbu2⟩
      have HU2 := hide (HU1.out.trans (hbu2.mono HU1.out.size))
      have HC2 := hide ((HC1.out).later hbu2)
      clear hbu2
      have R1 := AddS.to hs1 (k' := -A) N1 N2 (by omega)
      have R2 := AddS.to hs2 (k' := -(A + B)) N1 N2 (by omega)
      clear hs1 hs2 HC1 HU1 HB HC
      have he1 := AddR.err R1
      by_cases hz : e1 = 0
      · subst hz
        clear he1
        rw [errV_zero]
        have hx := AddR.dnS (by omega) R1
        have hxd := AddR.day N1 N2 R1
        obtain ⟨xd1, xd2⟩ := hxd
        have HFR := hide (AddR.far_dn (by omega) R1)
        have hgx : bizB we F x = true := hx.2.2.1
        have HBX := hide (fun (W : World) (h : Cal W p b we F) => Business_any p b we F x W (hide h))
        rw [show busB we F x = true by rw [bus_biz (dayB_yes xd1 xd2), hgx]] at HBX
        have hfd : decide ((x - N) * -1 < A) = false := decide_eq_false (by have := HFR.out; omega)
        have hfd2 : decide (-(x - N) < A) = false := decide_eq_false (by have := HFR.out; omega)
        clear hx
        go_wp2_with fail
        refine (Add_any p b we F x _ _ (hide HC2.out) HS (by omega) (by omega)).mono ?_
        rintro e u3 ⟨⟨y, e3, rfl, hs3⟩, hbu3⟩
        have HU3 := hide (HU2.out.trans (hbu3.mono HU2.out.size))
        have HC3 := hide ((HC2.out).later hbu3)
        clear hbu3
        have R3 := AddS.to hs3 (k' := -B) xd1 xd2 (by omega)
        obtain ⟨rfl, rfl⟩ := AddR.sum_dn N1 N2 (by omega) (by omega) R1 R2 R3
        clear hs3 HC2 HU2 R3
        have hef := AddR.err R2
        by_cases hz : e3 = 0
        · subst hz
          clear hef
          rw [errV_zero]
          go_wp2_with fail
          have HX := hide (show Cal u3.drew p b we F ∧ Below w.heap.size w u3.drew from ⟨HC3.out.later (Below.refl _ _).drew, HU3.out.drew⟩)
          haveI : Nonempty (CalW w p b we F) := ⟨⟨_, HX.out⟩⟩
          refine region_class (C := fun W => ∃ q : CalW w p b we F, W = q.1) (by kernel_rfl) (by kernel_rfl) ⟨⟨_, HX.out⟩, rfl⟩ ?_
          repeat (first
            | go_big_quiet_skip
            | (go_big_quiet_want; (go_big_quiet_op; first
                | go_big_quiet_on
                | (apply Exists.intro; refine ⟨fun q => ?_, ?_⟩; (go_at_call 9; exact q.call (HBX.out q.1 q.2.1)); go_big_quiet_on))))
          refine wpQuiet_nil ?_
          rintro u4 ⟨q, rfl⟩
          obtain ⟨u4, hu4⟩ := q
          dsimp only
          have HC4 := hide hu4.1
          have HU4 := hide hu4.2
          clear HX this hu4 HC3 HU3
          go_wp2_with fail
          refine (HBN.out _ HC4.out).mono ?_
          rintro e u5 ⟨rfl, hb5⟩
          have HU5 := hide (HU4.out.trans (hb5.mono HU4.out.size))
          have HC5 := hide (HC4.out.later hb5)
          clear hb5 HU4 HC4
          cases hgn : bizB we F N
          · skip
            go_wp2_with fail
            go_roundw
            case rel => exact ⟨1, by omega, by go_num, HC5, HU5⟩
            case measure => simp [intOf]
          · skip
            go_wp2_with fail
            refine (Add_any p b we F x _ _ (hide HC5.out) HS (by omega) (by omega)).mono ?_
            rintro e u6 ⟨⟨v6, e6, rfl, hs6⟩, hbu6⟩
            have HU6 := hide (HU5.out.trans (hbu6.mono HU5.out.size))
            have HC6 := hide ((HC5.out).later hbu6)
            clear hbu6
            have R6 := AddS.to hs6 (k' := A) (by omega) (by omega) (by omega)
            obtain ⟨rfl, rfl⟩ := AddR.back_dn N1 N2 (by omega) hgn R1 R6
            rw [errV_zero]
            go_wp2_with fail
            go_roundw
            case rel => exact ⟨1, by omega, by go_num, HC6, HU6⟩
            case measure => simp [intOf]
        · obtain rfl : e3 = 8 := by omega
          clear hef
          rw [errV_pos (by omega)]
          go_wp2_with fail
          have HX := hide (show Cal u3.drew p b we F ∧ Below w.heap.size w u3.drew from ⟨HC3.out.later (Below.refl _ _).drew, HU3.out.drew⟩)
          haveI : Nonempty (CalW w p b we F) := ⟨⟨_, HX.out⟩⟩
          refine region_class (C := fun W => ∃ q : CalW w p b we F, W = q.1) (by kernel_rfl) (by kernel_rfl) ⟨⟨_, HX.out⟩, rfl⟩ ?_
          repeat (first
            | go_big_quiet_skip
            | (go_big_quiet_want; (go_big_quiet_op; first
                | go_big_quiet_on
                | (apply Exists.intro; refine ⟨fun q => ?_, ?_⟩; (go_at_call 9; exact q.call (HBX.out q.1 q.2.1)); go_big_quiet_on))))
          refine wpQuiet_nil ?_
          rintro u4 ⟨q, rfl⟩
          obtain ⟨u4, hu4⟩ := q
          dsimp only
          have HC4 := hide hu4.1
          have HU4 := hide hu4.2
          clear HX this hu4 HC3 HU3
          go_wp2_with fail
          refine (HBN.out _ HC4.out).mono ?_
          rintro e u5 ⟨rfl, hb5⟩
          have HU5 := hide (HU4.out.trans (hb5.mono HU4.out.size))
          have HC5 := hide (HC4.out.later hb5)
          clear hb5 HU4 HC4
          cases hgn : bizB we F N
          · skip
            go_wp2_with fail
            go_roundw
            case rel => exact ⟨1, by omega, by go_num, HC5, HU5⟩
            case measure => simp [intOf]
          · skip
            go_wp2_with fail
            refine (Add_any p b we F x _ _ (hide HC5.out) HS (by omega) (by omega)).mono ?_
            rintro e u6 ⟨⟨v6, e6, rfl, hs6⟩, hbu6⟩
            have HU6 := hide (HU5.out.trans (hbu6.mono HU5.out.size))
            have HC6 := hide ((HC5.out).later hbu6)
            clear hbu6
            have R6 := AddS.to hs6 (k' := A) (by omega) (by omega) (by omega)
            obtain ⟨rfl, rfl⟩ := AddR.back_dn N1 N2 (by omega) hgn R1 R6
            rw [errV_zero]
            go_wp2_with fail
            go_roundw
            case rel => exact ⟨1, by omega, by go_num, HC6, HU6⟩
            case measure => simp [intOf]
      · obtain rfl : e1 = 8 := by omega
        obtain ⟨rfl, rfl⟩ := AddR.fall_dn N1 N2 (by omega) (by omega) R1 R2
        rw [errV_pos (by omega)]
        go_wp2_with fail
        go_roundw
        case rel => exact ⟨1, by omega, by go_num, HC2, HU2⟩
        case measure => simp [intOf]
    · rw [show 2 * ((1 : Nat) : Int) - 1 = 1 from rfl]
      go_wp2_with fail
      refine (Add_any p b we F N _ _ (hide HC.out) HS (by omega) (by omega)).mono ?_
      rintro e u1 ⟨⟨x, e1, rfl, hs1⟩, hbu1⟩
      have HU1 := hide (HB.out.trans (hbu1.mono HB.out.size))
      have HC1 := hide ((HC.out).later hbu1)
      clear hbu1
      go_wp2_with fail
      refine (Add_any p b we F N _ _ (hide HC1.out) HS (by omega) (by omega)).mono ?_
      rintro e u2 ⟨⟨al, f, rfl, hs2⟩, hbu2⟩
      have HU2 := hide (HU1.out.trans (hbu2.mono HU1.out.size))
      have HC2 := hide ((HC1.out).later hbu2)
      clear hbu2
      have R1 := AddS.to hs1 (k' := A) N1 N2 (by omega)
      have R2 := AddS.to hs2 (k' := (A + B)) N1 N2 (by omega)
      clear hs1 hs2 HC1 HU1 HB HC
      have he1 := AddR.err R1
      by_cases hz : e1 = 0
      · subst hz
        clear he1
        rw [errV_zero]
        have hx := AddR.upS (by omega) R1
        have hxd := AddR.day N1 N2 R1
        obtain ⟨xd1, xd2⟩ := hxd
        have HFR := hide (AddR.far_up (by omega) R1)
        have hgx : bizB we F x = true := hx.2.2.1
        have HBX := hide (fun (W : World) (h : Cal W p b we F) => Business_any p b we F x W (hide h))
        rw [show busB we F x = true by rw [bus_biz (dayB_yes xd1 xd2), hgx]] at HBX
        have hfd : decide ((x - N) * 1 < A) = false := decide_eq_false (by have := HFR.out; omega)
        have hfd2 : decide (x - N < A) = false := decide_eq_false (by have := HFR.out; omega)
        clear hx
        go_wp2_with fail
        refine (Add_any p b we F x _ _ (hide HC2.out) HS (by omega) (by omega)).mono ?_
        rintro e u3 ⟨⟨y, e3, rfl, hs3⟩, hbu3⟩
        have HU3 := hide (HU2.out.trans (hbu3.mono HU2.out.size))
        have HC3 := hide ((HC2.out).later hbu3)
        clear hbu3
        have R3 := AddS.to hs3 (k' := B) xd1 xd2 (by omega)
        obtain ⟨rfl, rfl⟩ := AddR.sum_up N1 N2 (by omega) (by omega) R1 R2 R3
        clear hs3 HC2 HU2 R3
        have hef := AddR.err R2
        by_cases hz : e3 = 0
        · subst hz
          clear hef
          rw [errV_zero]
          go_wp2_with fail
          have HX := hide (show Cal u3.drew p b we F ∧ Below w.heap.size w u3.drew from ⟨HC3.out.later (Below.refl _ _).drew, HU3.out.drew⟩)
          haveI : Nonempty (CalW w p b we F) := ⟨⟨_, HX.out⟩⟩
          refine region_class (C := fun W => ∃ q : CalW w p b we F, W = q.1) (by kernel_rfl) (by kernel_rfl) ⟨⟨_, HX.out⟩, rfl⟩ ?_
          repeat (first
            | go_big_quiet_skip
            | (go_big_quiet_want; (go_big_quiet_op; first
                | go_big_quiet_on
                | (apply Exists.intro; refine ⟨fun q => ?_, ?_⟩; (go_at_call 9; exact q.call (HBX.out q.1 q.2.1)); go_big_quiet_on))))
          refine wpQuiet_nil ?_
          rintro u4 ⟨q, rfl⟩
          obtain ⟨u4, hu4⟩ := q
          dsimp only
          have HC4 := hide hu4.1
          have HU4 := hide hu4.2
          clear HX this hu4 HC3 HU3
          go_wp2_with fail
          refine (HBN.out _ HC4.out).mono ?_
          rintro e u5 ⟨rfl, hb5⟩
          have HU5 := hide (HU4.out.trans (hb5.mono HU4.out.size))
          have HC5 := hide (HC4.out.later hb5)
          clear hb5 HU4 HC4
          cases hgn : bizB we F N
          · skip
            go_wp2_with fail
            go_roundw
            case rel => exact ⟨2, by omega, by go_num, HC5, HU5⟩
            case measure => simp [intOf]
          · skip
            go_wp2_with fail
            refine (Add_any p b we F x _ _ (hide HC5.out) HS (by omega) (by omega)).mono ?_
            rintro e u6 ⟨⟨v6, e6, rfl, hs6⟩, hbu6⟩
            have HU6 := hide (HU5.out.trans (hbu6.mono HU5.out.size))
            have HC6 := hide ((HC5.out).later hbu6)
            clear hbu6
            have R6 := AddS.to hs6 (k' := -A) (by omega) (by omega) (by omega)
            obtain ⟨rfl, rfl⟩ := AddR.back_up N1 N2 (by omega) hgn R1 R6
            rw [errV_zero]
            go_wp2_with fail
            go_roundw
            case rel => exact ⟨2, by omega, by go_num, HC6, HU6⟩
            case measure => simp [intOf]
        · obtain rfl : e3 = 8 := by omega
          clear hef
          rw [errV_pos (by omega)]
          go_wp2_with fail
          have HX := hide (show Cal u3.drew p b we F ∧ Below w.heap.size w u3.drew from ⟨HC3.out.later (Below.refl _ _).drew, HU3.out.drew⟩)
          haveI : Nonempty (CalW w p b we F) := ⟨⟨_, HX.out⟩⟩
          refine region_class (C := fun W => ∃ q : CalW w p b we F, W = q.1) (by kernel_rfl) (by kernel_rfl) ⟨⟨_, HX.out⟩, rfl⟩ ?_
          repeat (first
            | go_big_quiet_skip
            | (go_big_quiet_want; (go_big_quiet_op; first
                | go_big_quiet_on
                | (apply Exists.intro; refine ⟨fun q => ?_, ?_⟩; (go_at_call 9; exact q.call (HBX.out q.1 q.2.1)); go_big_quiet_on))))
          refine wpQuiet_nil ?_
          rintro u4 ⟨q, rfl⟩
          obtain ⟨u4, hu4⟩ := q
          dsimp only
          have HC4 := hide hu4.1
          have HU4 := hide hu4.2
          clear HX this hu4 HC3 HU3
          go_wp2_with fail
          refine (HBN.out _ HC4.out).mono ?_
          rintro e u5 ⟨rfl, hb5⟩
          have HU5 := hide (HU4.out.trans (hb5.mono HU4.out.size))
          have HC5 := hide (HC4.out.later hb5)
          clear hb5 HU4 HC4
          cases hgn : bizB we F N
          · skip
            go_wp2_with fail
            go_roundw
            case rel => exact ⟨2, by omega, by go_num, HC5, HU5⟩
            case measure => simp [intOf]
          · skip
            go_wp2_with fail
            refine (Add_any p b we F x _ _ (hide HC5.out) HS (by omega) (by omega)).mono ?_
            rintro e u6 ⟨⟨v6, e6, rfl, hs6⟩, hbu6⟩
            have HU6 := hide (HU5.out.trans (hbu6.mono HU5.out.size))
            have HC6 := hide ((HC5.out).later hbu6)
            clear hbu6
            have R6 := AddS.to hs6 (k' := -A) (by omega) (by omega) (by omega)
            obtain ⟨rfl, rfl⟩ := AddR.back_up N1 N2 (by omega) hgn R1 R6
            rw [errV_zero]
            go_wp2_with fail
            go_roundw
            case rel => exact ⟨2, by omega, by go_num, HC6, HU6⟩
            case measure => simp [intOf]
      · obtain rfl : e1 = 8 := by omega
        obtain ⟨rfl, rfl⟩ := AddR.fall_up N1 N2 (by omega) (by omega) R1 R2
        rw [errV_pos (by omega)]
        go_wp2_with fail
        go_roundw
        case rel => exact ⟨2, by omega, by go_num, HC2, HU2⟩
        case measure => simp [intOf]
    · rw [show 2 * ((2 : Nat) : Int) - 1 = 3 from rfl]
      go_wp2_with fail
      refine (Add_any p b we F N _ _ (hide HC.out) HS (by omega) (by omega)).mono ?_
      rintro e u1 ⟨⟨x, e1, rfl, hs1⟩, hbu1⟩
      have HU1 := hide (HB.out.trans (hbu1.mono HB.out.size))
      have HC1 := hide ((HC.out).later hbu1)
      clear hbu1
      have R1 := AddS.to hs1 (k' := A) N1 N2 (by omega)
      clear hs1 HB HC
      have he1 := AddR.err R1
      by_cases hz : e1 = 0
      · subst hz
        clear he1
        rw [errV_zero]
        obtain ⟨xd1, xd2⟩ := AddR.day N1 N2 R1
        obtain ⟨x1, _, hgx, _⟩ := AddR.upS (by omega) R1
        have HCN := hide (AddR.counted (by omega) R1)
        have HON := hide (counted_on (g := bizB we F) (x := x) (b := B) (by omega) hgx)
        have HC1N := hide (fun (W : World) (h : Cal W p b we F) => Count_any p b we F N x W (hide h) HS)
        rw [(co_ok (bizB we F) (dayB_yes N1 N2) (dayB_yes xd1 xd2) (by omega)).1, (co_ok (bizB we F) (dayB_yes N1 N2) (dayB_yes xd1 xd2) (by omega)).2, errV_zero] at HC1N
        have HAD := hide (fun h : x + B ≤ 3652059 => cn_add (bizB we F) (show N ≤ x by omega) (show x ≤ x + B by omega))
        have HC2N := hide (fun (h2 : x + B ≤ 3652059) (W : World) (h : Cal W p b we F) => by
          have q := Count_any p b we F x (x + B) W (hide h) HS
          rw [(co_ok (bizB we F) (dayB_yes xd1 xd2) (dayB_yes (by omega) h2) (by omega)).1, (co_ok (bizB we F) (dayB_yes xd1 xd2) (dayB_yes (by omega) h2) (by omega)).2, errV_zero] at q
          exact q)
        have HC3N := hide (fun (h2 : x + B ≤ 3652059) (W : World) (h : Cal W p b we F) => by
          have q := Count_any p b we F N (x + B) W (hide h) HS
          rw [(co_ok (bizB we F) (dayB_yes N1 N2) (dayB_yes (by omega) h2) (by omega)).1, (co_ok (bizB we F) (dayB_yes N1 N2) (dayB_yes (by omega) h2) (by omega)).2, errV_zero] at q
          exact q)
        obtain ⟨c1, HE1⟩ : ∃ c, Hid (cn (bizB we F) N x = c) := ⟨_, hide rfl⟩
        obtain ⟨c2, HE2⟩ : ∃ c, Hid (cn (bizB we F) x (x + B) = c) := ⟨_, hide rfl⟩
        obtain ⟨c3, HE3⟩ : ∃ c, Hid (cn (bizB we F) N (x + B) = c) := ⟨_, hide rfl⟩
        rw [HE1.out] at HCN HC1N HAD
        rw [HE2.out] at HON HC2N HAD
        rw [HE3.out] at HC3N HAD
        obtain ⟨o1, o2⟩ := HON.out
        go_wp2_with fail
        refine (HC1N.out _ HC1.out).mono ?_
        rintro e u2 ⟨rfl, hb2⟩
        have HU2 := hide (HU1.out.trans (hb2.mono HU1.out.size))
        have HC2 := hide (HC1.out.later hb2)
        clear hb2 HU1 HC1
        go_wp2_with fail
        refine (HBN.out _ HC2.out).mono ?_
        rintro e u3 ⟨rfl, hb3⟩
        have HU3 := hide (HU2.out.trans (hb3.mono HU2.out.size))
        have HC3 := hide (HC2.out.later hb3)
        clear hb3 HU2 HC2
        cases hgn : bizB we F N
        · rw [hgn] at HCN
          have hc1 : c1 = A - 1 := by have := HCN.out; simp at this; omega
          subst hc1
          by_cases hxb : 3652059 < x + B
          · go_wp2_with fail
            go_ret
            exact ⟨rfl, HU3.out⟩
          · have hs3 := HAD.out (by omega)
            subst hs3
            go_wp2_with fail
            refine (HC2N.out (by omega) _ HC3.out).mono ?_
            rintro e u4 ⟨rfl, hb4⟩
            have HU4 := hide (HU3.out.trans (hb4.mono HU3.out.size))
            have HC4 := hide (HC3.out.later hb4)
            clear hb4 HU3 HC3
            go_wp2_with fail
            refine (HC3N.out (by omega) _ HC4.out).mono ?_
            rintro e u5 ⟨rfl, hb5⟩
            have HU5 := hide (HU4.out.trans (hb5.mono HU4.out.size))
            have od : decide (c2 ≤ B) = true := decide_eq_true o2
            clear hb5 HU4 HC4
            go_wp2_with fail
            go_ret
            exact ⟨rfl, HU5.out⟩
        · rw [hgn] at HCN
          have hc1 : c1 = A := by have := HCN.out; simp at this; omega
          subst hc1
          by_cases hxb : 3652059 < x + B
          · go_wp2_with fail
            go_ret
            exact ⟨rfl, HU3.out⟩
          · have hs3 := HAD.out (by omega)
            subst hs3
            go_wp2_with fail
            refine (HC2N.out (by omega) _ HC3.out).mono ?_
            rintro e u4 ⟨rfl, hb4⟩
            have HU4 := hide (HU3.out.trans (hb4.mono HU3.out.size))
            have HC4 := hide (HC3.out.later hb4)
            clear hb4 HU3 HC3
            go_wp2_with fail
            refine (HC3N.out (by omega) _ HC4.out).mono ?_
            rintro e u5 ⟨rfl, hb5⟩
            have HU5 := hide (HU4.out.trans (hb5.mono HU4.out.size))
            have od : decide (c2 ≤ B) = true := decide_eq_true o2
            clear hb5 HU4 HC4
            go_wp2_with fail
            go_ret
            exact ⟨rfl, HU5.out⟩
      · obtain rfl : e1 = 8 := by omega
        rw [errV_pos (by omega)]
        go_wp2_with fail
        go_ret
        exact ⟨rfl, HU1.out⟩
end Go.Proofs.YtiajkglpmpemaabDoor
