/-
  My own text: the law on there and back: the cycle; numbers that are no days.
-/
import Derived.Test.YtiajkglpmpemaaaDoorB1
import Derived.Deep.RegionWith
namespace Go.Proofs.YtiajkglpmpemaaaDoor
open Go.RowKit

theorem leap400 (y : Int) : leapI (y + 400) = leapI y := by
  unfold leapI
  rw [show (y + 400) % 4 = y % 4 by omega, show (y + 400) % 100 = y % 100 by omega, show (y + 400) % 400 = y % 400 by omega]
theorem mdays400 (y m : Int) : mdays (y + 400) m = mdays y m := by unfold mdays; rw [leap400]
theorem right400 {y m d : Int} (h : RightD y m d) : RightD (y + 400) m d := ⟨by have := h.y1; omega, h.m1, h.m2, h.d1, by rw [mdays400]; exact h.d2⟩
theorem cycle {y m d : Int} (_h : RightD y m d) : numI (y + 400) m d = numI y m d + 146097 := by
  unfold numI
  rw [show aheadM (y + 400) m = aheadM y m by unfold aheadM; rw [leap400], show aheadY (y + 400) = aheadY y + 146097 by unfold aheadY; omega]
  omega
theorem Tryd.eqlDate (a b c : Int) (w : World) : (binOp .eql 23 (.agg #[.int .i64 a, .int .i64 b, .int .i64 c]) (.agg #[.int .i64 a, .int .i64 b, .int .i64 c])).run Tryd.prog w = .ok (.bool true) w := by
  simp [go_sem]
theorem Tryd.eqlDateNo (a b c a' b' c' : Int) (h : ¬ (a = a' ∧ b = b' ∧ c = c')) (w : World) : (binOp .eql 23 (.agg #[.int .i64 a, .int .i64 b, .int .i64 c]) (.agg #[.int .i64 a', .int .i64 b', .int .i64 c'])).run Tryd.prog w = .ok (.bool false) w := by
  by_cases h1 : a = a'
  · subst h1
    by_cases h2 : b = b'
    · subst h2
      have h3 : ¬ c = c' := fun e => h ⟨rfl, rfl, e⟩
      simp [go_sem, h3]
    · simp [go_sem, h2]
  · simp [go_sem, h1]
set_option maxRecDepth 100000 in
set_option maxHeartbeats 8000000 in
theorem back_low (y m d y' m' d' n : Int) (w : World) (hM : MDays w) (hn : n < 1 ∨ 3652059 < n) (hc : n < 1) :
    Calls Tryd.prog 7 #[dateV y m d, dateV y' m' d', .int .i64 n] w fun e w' => e = .returned (.bool true) ∧ Below w.heap.size w w' := by
  have HM := hide hM
  clear hM
  have hg1 := Tryd.nilNeqG
  have hn1 := Tryd.nilNeq
  have hg2 := Tryd.nilEqlG
  have hn2 := Tryd.nilEql
  have HSH := hide (fun (W : World) (h : MDays W) => shown_any W (hide h))
  have HNA := hide (fun (W : World) (h : MDays W) => Number_any y m d W (hide h))
  have HNB := hide (fun (W : World) (h : MDays W) => Number_any y' m' d' W (hide h))
  have HRA := hide (fun (W : World) => right_any y m d W)
  have HRB := hide (fun (W : World) => right_any y' m' d' W)
  have HB0 : Hid (Below w.heap.size w ((w.alloc (.cells #[.int .i64 y, .int .i64 m, .int .i64 d] 23)).alloc (.cells #[.int .i64 y', .int .i64 m', .int .i64 d'] 23))) := hide (below_dates w y m d y' m' d')
  have TA : Trio ((w.alloc (.cells #[.int .i64 y, .int .i64 m, .int .i64 d] 23)).alloc (.cells #[.int .i64 y', .int .i64 m', .int .i64 d'] 23)) w.heap.size y m d := (Trio.new w y m d 23).alloc _
  have TB : Trio ((w.alloc (.cells #[.int .i64 y, .int .i64 m, .int .i64 d] 23)).alloc (.cells #[.int .i64 y', .int .i64 m', .int .i64 d'] 23)) (w.heap.size + 1) y' m' d' := by
    have h := Trio.new (w.alloc (.cells #[.int .i64 y, .int .i64 m, .int .i64 d] 23)) y' m' d' 23
    simpa using h
  have HOFN := hide (fun (W : World) (h : MDays W) => Of_any n W (hide h))
  rw [(of_bad (dayB_no hn)).1, (of_bad (dayB_no hn)).2, errV_pos (by omega)] at HOFN
  unfold dateV at HOFN
  cases ra : rightB y m d
  · rw [(num_bad ra).1, (num_bad ra).2, errV_pos (by omega)] at HNA
    rw [ra] at HRA
    cases rb : rightB y' m' d'
    · rw [(num_bad rb).1, (num_bad rb).2, errV_pos (by omega)] at HNB
      rw [rb] at HRB
      unfold dateV at HNA HNB HRA HRB ⊢
      go_enter Tryd.func7, Tryd.ntmps7
      go_wp2_with fail
      refine (HNA.out _ (HM.out.below HB0.out)).mono ?_
      rintro e w1 ⟨rfl, hb1⟩
      have HB1 := hide (HB0.out.trans (hb1.mono HB0.out.size))
      have TA1 := TA.later hb1
      have TB1 := TB.later hb1
      clear hb1 HB0
      have p0 := TB1.c0
      have p1 := TB1.c1
      have p2 := TB1.c2
      go_wp2_with fail
      refine (HNB.out _ (HM.out.below HB1.out)).mono ?_
      rintro e w2 ⟨rfl, hb2⟩
      have HB2 := hide (HB1.out.trans (hb2.mono HB1.out.size))
      have TA2 := TA1.later hb2
      have TB2 := TB1.later hb2
      clear hb2 HB1 TA1 TB1 p0 p1 p2
      go_wp2_with fail
      have HX := hide (show Trio w2.drew w.heap.size y m d ∧ Trio w2.drew (w.heap.size + 1) y' m' d' ∧ Below w.heap.size w w2.drew from ⟨TA2.later (Below.refl _ _).drew, TB2.later (Below.refl _ _).drew, HB2.out.drew⟩)
      clear TA2 TB2 HB2
      haveI : Nonempty (Two w w.heap.size (w.heap.size + 1) y m d y' m' d') := ⟨⟨_, HX.out⟩⟩
      refine region_class (C := fun W => ∃ q : Two w w.heap.size (w.heap.size + 1) y m d y' m' d', W = q.1) (by kernel_rfl) (by kernel_rfl) ⟨⟨_, HX.out⟩, rfl⟩ ?_
      repeat (first
        | go_big_quiet_skip
        | (go_big_quiet_want; first
            | (refine quiet_load 23 (.tmp 3) rfl w.heap.size rfl [.int .i64 y, .int .i64 m, .int .i64 d] _ (fun W ⟨q, hq⟩ => by subst hq; exact q.2.1.range) Tryd.underlying23 rfl Tryd.sizeDate ?_; simp only [Act.put, List.setIfInBounds_toArray, List.set_cons_zero, List.set_cons_succ]; go_big_quiet_on)
            | (refine quiet_load 23 (.tmp 4) rfl (w.heap.size + 1) rfl [.int .i64 y', .int .i64 m', .int .i64 d'] _ (fun W ⟨q, hq⟩ => by subst hq; exact q.2.2.1.range) Tryd.underlying23 rfl Tryd.sizeDate ?_; simp only [Act.put, List.setIfInBounds_toArray, List.set_cons_zero, List.set_cons_succ]; go_big_quiet_on)
            | (go_big_quiet_op; first
                | go_big_quiet_on
                | (apply Exists.intro; refine ⟨fun q => ?_, ?_⟩; (first
                    | (go_at_call 25; exact q.call (HSH.out q.1 (HM.out.below q.2.2.2)))
                    | (go_at_call_of 29 (Value.agg #[.int .i64 y, .int .i64 m, .int .i64 d]); exact q.call (HRA.out q.1))
                    | (go_at_call_of 29 (Value.agg #[.int .i64 y', .int .i64 m', .int .i64 d']); exact q.call (HRB.out q.1))); go_big_quiet_on))))
      refine wpQuiet_nil ?_
      rintro w3 ⟨q, rfl⟩
      obtain ⟨w3, hw3⟩ := q
      dsimp only
      have TA := hw3.1
      have TB := hw3.2.1
      have HB3 := hide hw3.2.2
      clear HX this hw3
      go_wp2_with fail
      refine (HOFN.out _ (HM.out.below HB3.out)).mono ?_
      rintro e v1 ⟨rfl, vb1⟩
      have HV1 := hide (HB3.out.trans (vb1.mono HB3.out.size))
      go_wp2_with fail
      go_ret
      exact ⟨rfl, HV1.out.alloc HV1.out.size _⟩
    · rw [(num_ok rb).1, (num_ok rb).2, errV_zero] at HNB
      rw [rb] at HRB
      unfold dateV at HNA HNB HRA HRB ⊢
      go_enter Tryd.func7, Tryd.ntmps7
      go_wp2_with fail
      refine (HNA.out _ (HM.out.below HB0.out)).mono ?_
      rintro e w1 ⟨rfl, hb1⟩
      have HB1 := hide (HB0.out.trans (hb1.mono HB0.out.size))
      have TA1 := TA.later hb1
      have TB1 := TB.later hb1
      clear hb1 HB0
      have p0 := TB1.c0
      have p1 := TB1.c1
      have p2 := TB1.c2
      go_wp2_with fail
      refine (HNB.out _ (HM.out.below HB1.out)).mono ?_
      rintro e w2 ⟨rfl, hb2⟩
      have HB2 := hide (HB1.out.trans (hb2.mono HB1.out.size))
      have TA2 := TA1.later hb2
      have TB2 := TB1.later hb2
      clear hb2 HB1 TA1 TB1 p0 p1 p2
      go_wp2_with fail
      have HX := hide (show Trio w2.drew w.heap.size y m d ∧ Trio w2.drew (w.heap.size + 1) y' m' d' ∧ Below w.heap.size w w2.drew from ⟨TA2.later (Below.refl _ _).drew, TB2.later (Below.refl _ _).drew, HB2.out.drew⟩)
      clear TA2 TB2 HB2
      haveI : Nonempty (Two w w.heap.size (w.heap.size + 1) y m d y' m' d') := ⟨⟨_, HX.out⟩⟩
      refine region_class (C := fun W => ∃ q : Two w w.heap.size (w.heap.size + 1) y m d y' m' d', W = q.1) (by kernel_rfl) (by kernel_rfl) ⟨⟨_, HX.out⟩, rfl⟩ ?_
      repeat (first
        | go_big_quiet_skip
        | (go_big_quiet_want; first
            | (refine quiet_load 23 (.tmp 3) rfl w.heap.size rfl [.int .i64 y, .int .i64 m, .int .i64 d] _ (fun W ⟨q, hq⟩ => by subst hq; exact q.2.1.range) Tryd.underlying23 rfl Tryd.sizeDate ?_; simp only [Act.put, List.setIfInBounds_toArray, List.set_cons_zero, List.set_cons_succ]; go_big_quiet_on)
            | (refine quiet_load 23 (.tmp 4) rfl (w.heap.size + 1) rfl [.int .i64 y', .int .i64 m', .int .i64 d'] _ (fun W ⟨q, hq⟩ => by subst hq; exact q.2.2.1.range) Tryd.underlying23 rfl Tryd.sizeDate ?_; simp only [Act.put, List.setIfInBounds_toArray, List.set_cons_zero, List.set_cons_succ]; go_big_quiet_on)
            | (go_big_quiet_op; first
                | go_big_quiet_on
                | (apply Exists.intro; refine ⟨fun q => ?_, ?_⟩; (first
                    | (go_at_call 25; exact q.call (HSH.out q.1 (HM.out.below q.2.2.2)))
                    | (go_at_call_of 29 (Value.agg #[.int .i64 y, .int .i64 m, .int .i64 d]); exact q.call (HRA.out q.1))
                    | (go_at_call_of 29 (Value.agg #[.int .i64 y', .int .i64 m', .int .i64 d']); exact q.call (HRB.out q.1))); go_big_quiet_on))))
      refine wpQuiet_nil ?_
      rintro w3 ⟨q, rfl⟩
      obtain ⟨w3, hw3⟩ := q
      dsimp only
      have TA := hw3.1
      have TB := hw3.2.1
      have HB3 := hide hw3.2.2
      clear HX this hw3
      go_wp2_with fail
      refine (HOFN.out _ (HM.out.below HB3.out)).mono ?_
      rintro e v1 ⟨rfl, vb1⟩
      have HV1 := hide (HB3.out.trans (vb1.mono HB3.out.size))
      go_wp2_with fail
      go_ret
      exact ⟨rfl, HV1.out.alloc HV1.out.size _⟩
  · skip
    rw [(num_ok ra).1, (num_ok ra).2, errV_zero] at HNA
    obtain ⟨RA, ya⟩ := (rightB_iff _ _ _).1 ra
    rw [ra] at HRA
    have xb := num_b RA ya
    have HOX := hide (fun (W : World) (h : MDays W) => Of_any (numI y m d) W (hide h))
    have hdx := dayB_yes xb.1 xb.2
    obtain ⟨e1, e2, e3⟩ := dateI_of RA rfl xb.1
    rw [(of_ok hdx).1, (of_ok hdx).2, e1, e2, e3, errV_zero] at HOX
    have HWX := hide (fun (W : World) => Weekday_any (numI y m d) W)
    rw [wd_ok hdx, (of_ok hdx).2, errV_zero] at HWX
    have hq := Tryd.neqDate y m d
    have HNL := hide (fun (W : World) (h : MDays W) => Number_any (y + 400) m d W (hide h))
    have hyb := RA.y1
    have HCY := hide (cycle RA)
    have HRR := hide (right400 (y := y) (m := m) (d := d) RA)
    clear hdx e1 e2 e3
    cases rb : rightB y' m' d'
    · rw [(num_bad rb).1, (num_bad rb).2, errV_pos (by omega)] at HNB
      rw [rb] at HRB
      by_cases hl : y + 400 ≤ 9999
      · skip
        have rl := (rightB_iff _ _ _).2 ⟨HRR.out, hl⟩
        rw [(num_ok rl).1, (num_ok rl).2, errV_zero, HCY.out] at HNL
        have xz := num_b HRR.out hl
        rw [HCY.out] at xz
        have hdz := dayB_yes xz.1 xz.2
        have HWL := hide (fun (W : World) => Weekday_any (numI y m d + 146097) W)
        rw [wd_ok hdz, (of_ok hdz).2, errV_zero, show (numI y m d + 146097 - 1) % 7 = (numI y m d - 1) % 7 by omega] at HWL
        have hld : decide (y + 400 ≤ 9999) = true := decide_eq_true hl
        clear rl hdz
        obtain ⟨x, HXE⟩ : ∃ x, Hid (numI y m d = x) := ⟨_, hide rfl⟩
        rw [HXE.out] at HNA HOX HWX xb HNL HWL xz
        obtain ⟨x1, x2⟩ := xb
        unfold dateV at HNA HNB HRA HRB HOX HNL  ⊢
        go_enter Tryd.func7, Tryd.ntmps7
        go_wp2_with fail
        refine (HNA.out _ (HM.out.below HB0.out)).mono ?_
        rintro e w1 ⟨rfl, hb1⟩
        have HB1 := hide (HB0.out.trans (hb1.mono HB0.out.size))
        have TA1 := TA.later hb1
        have TB1 := TB.later hb1
        clear hb1 HB0
        have p0 := TB1.c0
        have p1 := TB1.c1
        have p2 := TB1.c2
        go_wp2_with fail
        refine (HNB.out _ (HM.out.below HB1.out)).mono ?_
        rintro e w2 ⟨rfl, hb2⟩
        have HB2 := hide (HB1.out.trans (hb2.mono HB1.out.size))
        have TA2 := TA1.later hb2
        have TB2 := TB1.later hb2
        clear hb2 HB1 TA1 TB1 p0 p1 p2
        go_wp2_with fail
        have HX := hide (show Trio w2.drew w.heap.size y m d ∧ Trio w2.drew (w.heap.size + 1) y' m' d' ∧ Below w.heap.size w w2.drew from ⟨TA2.later (Below.refl _ _).drew, TB2.later (Below.refl _ _).drew, HB2.out.drew⟩)
        clear TA2 TB2 HB2
        haveI : Nonempty (Two w w.heap.size (w.heap.size + 1) y m d y' m' d') := ⟨⟨_, HX.out⟩⟩
        refine region_class (C := fun W => ∃ q : Two w w.heap.size (w.heap.size + 1) y m d y' m' d', W = q.1) (by kernel_rfl) (by kernel_rfl) ⟨⟨_, HX.out⟩, rfl⟩ ?_
        repeat (first
          | go_big_quiet_skip
          | (go_big_quiet_want; first
              | (refine quiet_load 23 (.tmp 3) rfl w.heap.size rfl [.int .i64 y, .int .i64 m, .int .i64 d] _ (fun W ⟨q, hq⟩ => by subst hq; exact q.2.1.range) Tryd.underlying23 rfl Tryd.sizeDate ?_; simp only [Act.put, List.setIfInBounds_toArray, List.set_cons_zero, List.set_cons_succ]; go_big_quiet_on)
              | (refine quiet_load 23 (.tmp 4) rfl (w.heap.size + 1) rfl [.int .i64 y', .int .i64 m', .int .i64 d'] _ (fun W ⟨q, hq⟩ => by subst hq; exact q.2.2.1.range) Tryd.underlying23 rfl Tryd.sizeDate ?_; simp only [Act.put, List.setIfInBounds_toArray, List.set_cons_zero, List.set_cons_succ]; go_big_quiet_on)
              | (go_big_quiet_op; first
                  | go_big_quiet_on
                  | (apply Exists.intro; refine ⟨fun q => ?_, ?_⟩; (first
                      | (go_at_call 25; exact q.call (HSH.out q.1 (HM.out.below q.2.2.2)))
                      | (go_at_call_of 29 (Value.agg #[.int .i64 y, .int .i64 m, .int .i64 d]); exact q.call (HRA.out q.1))
                      | (go_at_call_of 29 (Value.agg #[.int .i64 y', .int .i64 m', .int .i64 d']); exact q.call (HRB.out q.1))); go_big_quiet_on))))
        refine wpQuiet_nil ?_
        rintro w3 ⟨q, rfl⟩
        obtain ⟨w3, hw3⟩ := q
        dsimp only
        have TA := hw3.1
        have TB := hw3.2.1
        have HB3 := hide hw3.2.2
        clear HX this hw3
        go_wp2_with fail
        refine (HOX.out _ (HM.out.below HB3.out)).mono ?_
        rintro e w4 ⟨rfl, hb4⟩
        have HB4 := hide (HB3.out.trans (hb4.mono HB3.out.size))
        have HB5 : Hid (Below w.heap.size w (w4.alloc (.cells #[.int .i64 y, .int .i64 m, .int .i64 d] 23))) := hide (HB4.out.alloc HB4.out.size _)
        have TA5 := (TA.later hb4).alloc (.cells #[.int .i64 y, .int .i64 m, .int .i64 d] 23)
        have TB5 := (TB.later hb4).alloc (.cells #[.int .i64 y, .int .i64 m, .int .i64 d] 23)
        have HB6 : Hid (Below w.heap.size w ((w4.alloc (.cells #[.int .i64 y, .int .i64 m, .int .i64 d] 23)).alloc (.cells #[.int .i64 (y + 400), .int .i64 m, .int .i64 d] 23))) := hide (HB5.out.alloc HB5.out.size _)
        have TA6 := TA5.alloc (.cells #[.int .i64 y, .int .i64 m, .int .i64 d] 23)
        have TA7 := TA5.alloc (.cells #[.int .i64 (y + 400), .int .i64 m, .int .i64 d] 23)
        have TB7 := TB5.alloc (.cells #[.int .i64 (y + 400), .int .i64 m, .int .i64 d] 23)
        have TL7 := Trio.new (w4.alloc (.cells #[.int .i64 y, .int .i64 m, .int .i64 d] 23)) (y + 400) m d 23
        have hsz : (w4.alloc (.cells #[.int .i64 y, .int .i64 m, .int .i64 d] 23)).heap.size = w4.heap.size + 1 := by simp
        rw [hsz] at TL7
        have a0 := TA5.c0
        have a1 := TA5.c1
        have a2 := TA5.c2
        have b0 := TA6.c0
        have b1 := TA6.c1
        have b2 := TA6.c2
        clear hb4 HB3 HB4 TA TB
        go_wp2_with fail
        refine (HNL.out _ (HM.out.below HB6.out)).mono ?_
        rintro e w8 ⟨rfl, hb8⟩
        have HB8 := hide (HB6.out.trans (hb8.mono HB6.out.size))
        have TA := TA7.later hb8
        have TB := TB7.later hb8
        have TL := TL7.later hb8
        clear hb8 HB5 HB6 TA5 TB5 TA6 TA7 TB7 TL7 hsz a0 a1 a2 b0 b1 b2
        go_wp2_with fail
        refine (HWX.out _).mono ?_
        rintro e w' ⟨rfl, hw'⟩
        have hw' := hw'.symm
        subst hw'
        go_wp2_with fail
        refine (HWL.out _).mono ?_
        rintro e w' ⟨rfl, hw'⟩
        have hw' := hw'.symm
        subst hw'
        go_wp2_with fail
        have l0 := TL.c0
        go_quiet (fail)
        have HB9 : Hid (Below w.heap.size w (w8.drewN nq)) := hide (below_drewN HB8.out _)
        have TA := TA.later (below_drewN (Below.refl _ _) nq)
        have TB := TB.later (below_drewN (Below.refl _ _) nq)
        have a0 := TA.c0
        have a1 := TA.c1
        have a2 := TA.c2
        have b0 := TB.c0
        have b1 := TB.c1
        have b2 := TB.c2
        clear HB8 TL l0
        go_wp2_with fail
        refine (HOFN.out _ (HM.out.below HB9.out)).mono ?_
        rintro e v1 ⟨rfl, vb1⟩
        have HV1 := hide (HB9.out.trans (vb1.mono HB9.out.size))
        go_wp2_with fail
        go_ret
        exact ⟨rfl, HV1.out.alloc HV1.out.size _⟩
      · skip
        have rl := rightB_no (y := y + 400) (m := m) (d := d) (.inr (.inl (by omega)))
        rw [(num_bad rl).1, (num_bad rl).2, errV_pos (by omega)] at HNL
        have HWL := hide (fun (W : World) => Weekday_any 0 W)
        rw [show wdV 0 = 0 by decide, show ofE 0 = 8 by decide, errV_pos (by omega)] at HWL
        have hld : decide (y + 400 ≤ 9999) = false := decide_eq_false hl
        clear rl
        obtain ⟨x, HXE⟩ : ∃ x, Hid (numI y m d = x) := ⟨_, hide rfl⟩
        rw [HXE.out] at HNA HOX HWX xb 
        obtain ⟨x1, x2⟩ := xb
        unfold dateV at HNA HNB HRA HRB HOX HNL  ⊢
        go_enter Tryd.func7, Tryd.ntmps7
        go_wp2_with fail
        refine (HNA.out _ (HM.out.below HB0.out)).mono ?_
        rintro e w1 ⟨rfl, hb1⟩
        have HB1 := hide (HB0.out.trans (hb1.mono HB0.out.size))
        have TA1 := TA.later hb1
        have TB1 := TB.later hb1
        clear hb1 HB0
        have p0 := TB1.c0
        have p1 := TB1.c1
        have p2 := TB1.c2
        go_wp2_with fail
        refine (HNB.out _ (HM.out.below HB1.out)).mono ?_
        rintro e w2 ⟨rfl, hb2⟩
        have HB2 := hide (HB1.out.trans (hb2.mono HB1.out.size))
        have TA2 := TA1.later hb2
        have TB2 := TB1.later hb2
        clear hb2 HB1 TA1 TB1 p0 p1 p2
        go_wp2_with fail
        have HX := hide (show Trio w2.drew w.heap.size y m d ∧ Trio w2.drew (w.heap.size + 1) y' m' d' ∧ Below w.heap.size w w2.drew from ⟨TA2.later (Below.refl _ _).drew, TB2.later (Below.refl _ _).drew, HB2.out.drew⟩)
        clear TA2 TB2 HB2
        haveI : Nonempty (Two w w.heap.size (w.heap.size + 1) y m d y' m' d') := ⟨⟨_, HX.out⟩⟩
        refine region_class (C := fun W => ∃ q : Two w w.heap.size (w.heap.size + 1) y m d y' m' d', W = q.1) (by kernel_rfl) (by kernel_rfl) ⟨⟨_, HX.out⟩, rfl⟩ ?_
        repeat (first
          | go_big_quiet_skip
          | (go_big_quiet_want; first
              | (refine quiet_load 23 (.tmp 3) rfl w.heap.size rfl [.int .i64 y, .int .i64 m, .int .i64 d] _ (fun W ⟨q, hq⟩ => by subst hq; exact q.2.1.range) Tryd.underlying23 rfl Tryd.sizeDate ?_; simp only [Act.put, List.setIfInBounds_toArray, List.set_cons_zero, List.set_cons_succ]; go_big_quiet_on)
              | (refine quiet_load 23 (.tmp 4) rfl (w.heap.size + 1) rfl [.int .i64 y', .int .i64 m', .int .i64 d'] _ (fun W ⟨q, hq⟩ => by subst hq; exact q.2.2.1.range) Tryd.underlying23 rfl Tryd.sizeDate ?_; simp only [Act.put, List.setIfInBounds_toArray, List.set_cons_zero, List.set_cons_succ]; go_big_quiet_on)
              | (go_big_quiet_op; first
                  | go_big_quiet_on
                  | (apply Exists.intro; refine ⟨fun q => ?_, ?_⟩; (first
                      | (go_at_call 25; exact q.call (HSH.out q.1 (HM.out.below q.2.2.2)))
                      | (go_at_call_of 29 (Value.agg #[.int .i64 y, .int .i64 m, .int .i64 d]); exact q.call (HRA.out q.1))
                      | (go_at_call_of 29 (Value.agg #[.int .i64 y', .int .i64 m', .int .i64 d']); exact q.call (HRB.out q.1))); go_big_quiet_on))))
        refine wpQuiet_nil ?_
        rintro w3 ⟨q, rfl⟩
        obtain ⟨w3, hw3⟩ := q
        dsimp only
        have TA := hw3.1
        have TB := hw3.2.1
        have HB3 := hide hw3.2.2
        clear HX this hw3
        go_wp2_with fail
        refine (HOX.out _ (HM.out.below HB3.out)).mono ?_
        rintro e w4 ⟨rfl, hb4⟩
        have HB4 := hide (HB3.out.trans (hb4.mono HB3.out.size))
        have HB5 : Hid (Below w.heap.size w (w4.alloc (.cells #[.int .i64 y, .int .i64 m, .int .i64 d] 23))) := hide (HB4.out.alloc HB4.out.size _)
        have TA5 := (TA.later hb4).alloc (.cells #[.int .i64 y, .int .i64 m, .int .i64 d] 23)
        have TB5 := (TB.later hb4).alloc (.cells #[.int .i64 y, .int .i64 m, .int .i64 d] 23)
        have HB6 : Hid (Below w.heap.size w ((w4.alloc (.cells #[.int .i64 y, .int .i64 m, .int .i64 d] 23)).alloc (.cells #[.int .i64 (y + 400), .int .i64 m, .int .i64 d] 23))) := hide (HB5.out.alloc HB5.out.size _)
        have TA6 := TA5.alloc (.cells #[.int .i64 y, .int .i64 m, .int .i64 d] 23)
        have TA7 := TA5.alloc (.cells #[.int .i64 (y + 400), .int .i64 m, .int .i64 d] 23)
        have TB7 := TB5.alloc (.cells #[.int .i64 (y + 400), .int .i64 m, .int .i64 d] 23)
        have TL7 := Trio.new (w4.alloc (.cells #[.int .i64 y, .int .i64 m, .int .i64 d] 23)) (y + 400) m d 23
        have hsz : (w4.alloc (.cells #[.int .i64 y, .int .i64 m, .int .i64 d] 23)).heap.size = w4.heap.size + 1 := by simp
        rw [hsz] at TL7
        have a0 := TA5.c0
        have a1 := TA5.c1
        have a2 := TA5.c2
        have b0 := TA6.c0
        have b1 := TA6.c1
        have b2 := TA6.c2
        clear hb4 HB3 HB4 TA TB
        go_wp2_with fail
        refine (HNL.out _ (HM.out.below HB6.out)).mono ?_
        rintro e w8 ⟨rfl, hb8⟩
        have HB8 := hide (HB6.out.trans (hb8.mono HB6.out.size))
        have TA := TA7.later hb8
        have TB := TB7.later hb8
        have TL := TL7.later hb8
        clear hb8 HB5 HB6 TA5 TB5 TA6 TA7 TB7 TL7 hsz a0 a1 a2 b0 b1 b2
        go_wp2_with fail
        refine (HWX.out _).mono ?_
        rintro e w' ⟨rfl, hw'⟩
        have hw' := hw'.symm
        subst hw'
        go_wp2_with fail
        refine (HWL.out _).mono ?_
        rintro e w' ⟨rfl, hw'⟩
        have hw' := hw'.symm
        subst hw'
        go_wp2_with fail
        have l0 := TL.c0
        go_quiet (fail)
        have HB9 : Hid (Below w.heap.size w (w8.drewN nq)) := hide (below_drewN HB8.out _)
        have TA := TA.later (below_drewN (Below.refl _ _) nq)
        have TB := TB.later (below_drewN (Below.refl _ _) nq)
        have a0 := TA.c0
        have a1 := TA.c1
        have a2 := TA.c2
        have b0 := TB.c0
        have b1 := TB.c1
        have b2 := TB.c2
        clear HB8 TL l0
        go_wp2_with fail
        refine (HOFN.out _ (HM.out.below HB9.out)).mono ?_
        rintro e v1 ⟨rfl, vb1⟩
        have HV1 := hide (HB9.out.trans (vb1.mono HB9.out.size))
        go_wp2_with fail
        go_ret
        exact ⟨rfl, HV1.out.alloc HV1.out.size _⟩
    · rw [(num_ok rb).1, (num_ok rb).2, errV_zero] at HNB
      obtain ⟨RB, yb⟩ := (rightB_iff _ _ _).1 rb
      rw [rb] at HRB
      have HAH := hide (fun (W : World) => ahead_any y m d y' m' d' W)
      rw [aheadB_num RA RB] at HAH
      by_cases hxe : numI y m d = numI y' m' d'
      · obtain ⟨rfl, rfl, rfl⟩ := num_inj RA RB hxe
        have hee := Tryd.eqlDate y m d
        clear hxe
        by_cases hl : y + 400 ≤ 9999
        · skip
          have rl := (rightB_iff _ _ _).2 ⟨HRR.out, hl⟩
          rw [(num_ok rl).1, (num_ok rl).2, errV_zero, HCY.out] at HNL
          have xz := num_b HRR.out hl
          rw [HCY.out] at xz
          have hdz := dayB_yes xz.1 xz.2
          have HWL := hide (fun (W : World) => Weekday_any (numI y m d + 146097) W)
          rw [wd_ok hdz, (of_ok hdz).2, errV_zero, show (numI y m d + 146097 - 1) % 7 = (numI y m d - 1) % 7 by omega] at HWL
          have hld : decide (y + 400 ≤ 9999) = true := decide_eq_true hl
          clear rl hdz
          obtain ⟨x, HXE⟩ : ∃ x, Hid (numI y m d = x) := ⟨_, hide rfl⟩
          rw [HXE.out] at HNA HOX HWX xb HNB HAH HNL HWL xz
          obtain ⟨x1, x2⟩ := xb
          unfold dateV at HNA HNB HRA HRB HOX HNL HAH ⊢
          go_enter Tryd.func7, Tryd.ntmps7
          go_wp2_with fail
          refine (HNA.out _ (HM.out.below HB0.out)).mono ?_
          rintro e w1 ⟨rfl, hb1⟩
          have HB1 := hide (HB0.out.trans (hb1.mono HB0.out.size))
          have TA1 := TA.later hb1
          have TB1 := TB.later hb1
          clear hb1 HB0
          have p0 := TB1.c0
          have p1 := TB1.c1
          have p2 := TB1.c2
          go_wp2_with fail
          refine (HNB.out _ (HM.out.below HB1.out)).mono ?_
          rintro e w2 ⟨rfl, hb2⟩
          have HB2 := hide (HB1.out.trans (hb2.mono HB1.out.size))
          have TA2 := TA1.later hb2
          have TB2 := TB1.later hb2
          clear hb2 HB1 TA1 TB1 p0 p1 p2
          go_wp2_with fail
          have HX := hide (show Trio w2.drew w.heap.size y m d ∧ Trio w2.drew (w.heap.size + 1) y m d ∧ Below w.heap.size w w2.drew from ⟨TA2.later (Below.refl _ _).drew, TB2.later (Below.refl _ _).drew, HB2.out.drew⟩)
          clear TA2 TB2 HB2
          haveI : Nonempty (Two w w.heap.size (w.heap.size + 1) y m d y m d) := ⟨⟨_, HX.out⟩⟩
          refine region_class (C := fun W => ∃ q : Two w w.heap.size (w.heap.size + 1) y m d y m d, W = q.1) (by kernel_rfl) (by kernel_rfl) ⟨⟨_, HX.out⟩, rfl⟩ ?_
          repeat (first
            | go_big_quiet_skip
            | (go_big_quiet_want; first
                | (refine quiet_load 23 (.tmp 3) rfl w.heap.size rfl [.int .i64 y, .int .i64 m, .int .i64 d] _ (fun W ⟨q, hq⟩ => by subst hq; exact q.2.1.range) Tryd.underlying23 rfl Tryd.sizeDate ?_; simp only [Act.put, List.setIfInBounds_toArray, List.set_cons_zero, List.set_cons_succ]; go_big_quiet_on)
                | (refine quiet_load 23 (.tmp 4) rfl (w.heap.size + 1) rfl [.int .i64 y, .int .i64 m, .int .i64 d] _ (fun W ⟨q, hq⟩ => by subst hq; exact q.2.2.1.range) Tryd.underlying23 rfl Tryd.sizeDate ?_; simp only [Act.put, List.setIfInBounds_toArray, List.set_cons_zero, List.set_cons_succ]; go_big_quiet_on)
                | (go_big_quiet_op; first
                    | go_big_quiet_on
                    | (apply Exists.intro; refine ⟨fun q => ?_, ?_⟩; (first
                        | (go_at_call 25; exact q.call (HSH.out q.1 (HM.out.below q.2.2.2)))
                        | (go_at_call_of 29 (Value.agg #[.int .i64 y, .int .i64 m, .int .i64 d]); exact q.call (HRA.out q.1))
                        | (go_at_call_of 29 (Value.agg #[.int .i64 y, .int .i64 m, .int .i64 d]); exact q.call (HRB.out q.1))); go_big_quiet_on))))
          refine wpQuiet_nil ?_
          rintro w3 ⟨q, rfl⟩
          obtain ⟨w3, hw3⟩ := q
          dsimp only
          have TA := hw3.1
          have TB := hw3.2.1
          have HB3 := hide hw3.2.2
          clear HX this hw3
          go_wp2_with fail
          refine (HOX.out _ (HM.out.below HB3.out)).mono ?_
          rintro e w4 ⟨rfl, hb4⟩
          have HB4 := hide (HB3.out.trans (hb4.mono HB3.out.size))
          have HB5 : Hid (Below w.heap.size w (w4.alloc (.cells #[.int .i64 y, .int .i64 m, .int .i64 d] 23))) := hide (HB4.out.alloc HB4.out.size _)
          have TA5 := (TA.later hb4).alloc (.cells #[.int .i64 y, .int .i64 m, .int .i64 d] 23)
          have TB5 := (TB.later hb4).alloc (.cells #[.int .i64 y, .int .i64 m, .int .i64 d] 23)
          have HB6 : Hid (Below w.heap.size w ((w4.alloc (.cells #[.int .i64 y, .int .i64 m, .int .i64 d] 23)).alloc (.cells #[.int .i64 (y + 400), .int .i64 m, .int .i64 d] 23))) := hide (HB5.out.alloc HB5.out.size _)
          have TA6 := TA5.alloc (.cells #[.int .i64 y, .int .i64 m, .int .i64 d] 23)
          have TA7 := TA5.alloc (.cells #[.int .i64 (y + 400), .int .i64 m, .int .i64 d] 23)
          have TB7 := TB5.alloc (.cells #[.int .i64 (y + 400), .int .i64 m, .int .i64 d] 23)
          have TL7 := Trio.new (w4.alloc (.cells #[.int .i64 y, .int .i64 m, .int .i64 d] 23)) (y + 400) m d 23
          have hsz : (w4.alloc (.cells #[.int .i64 y, .int .i64 m, .int .i64 d] 23)).heap.size = w4.heap.size + 1 := by simp
          rw [hsz] at TL7
          have a0 := TA5.c0
          have a1 := TA5.c1
          have a2 := TA5.c2
          have b0 := TA6.c0
          have b1 := TA6.c1
          have b2 := TA6.c2
          clear hb4 HB3 HB4 TA TB
          go_wp2_with fail
          refine (HNL.out _ (HM.out.below HB6.out)).mono ?_
          rintro e w8 ⟨rfl, hb8⟩
          have HB8 := hide (HB6.out.trans (hb8.mono HB6.out.size))
          have TA := TA7.later hb8
          have TB := TB7.later hb8
          have TL := TL7.later hb8
          clear hb8 HB5 HB6 TA5 TB5 TA6 TA7 TB7 TL7 hsz a0 a1 a2 b0 b1 b2
          go_wp2_with fail
          refine (HWX.out _).mono ?_
          rintro e w' ⟨rfl, hw'⟩
          have hw' := hw'.symm
          subst hw'
          go_wp2_with fail
          refine (HWL.out _).mono ?_
          rintro e w' ⟨rfl, hw'⟩
          have hw' := hw'.symm
          subst hw'
          go_wp2_with fail
          have l0 := TL.c0
          go_quiet (fail)
          have HB9 : Hid (Below w.heap.size w (w8.drewN nq)) := hide (below_drewN HB8.out _)
          have TA := TA.later (below_drewN (Below.refl _ _) nq)
          have TB := TB.later (below_drewN (Below.refl _ _) nq)
          have a0 := TA.c0
          have a1 := TA.c1
          have a2 := TA.c2
          have b0 := TB.c0
          have b1 := TB.c1
          have b2 := TB.c2
          clear HB8 TL l0
          go_wp2_with fail
          refine (HAH.out _).mono ?_
          rintro e w10 ⟨rfl, hb10⟩
          have HB10 := hide (HB9.out.trans (hb10.mono HB9.out.size))
          have TA := TA.later hb10
          have TB := TB.later hb10
          clear hb10 HB9 a0 a1 a2 b0 b1 b2
          have a0 := TA.c0
          have a1 := TA.c1
          have a2 := TA.c2
          have b0 := TB.c0
          have b1 := TB.c1
          have b2 := TB.c2
          go_wp2_with fail
          refine (HOFN.out _ (HM.out.below HB10.out)).mono ?_
          rintro e v1 ⟨rfl, vb1⟩
          have HV1 := hide (HB10.out.trans (vb1.mono HB10.out.size))
          go_wp2_with fail
          go_ret
          exact ⟨rfl, HV1.out.alloc HV1.out.size _⟩
        · skip
          have rl := rightB_no (y := y + 400) (m := m) (d := d) (.inr (.inl (by omega)))
          rw [(num_bad rl).1, (num_bad rl).2, errV_pos (by omega)] at HNL
          have HWL := hide (fun (W : World) => Weekday_any 0 W)
          rw [show wdV 0 = 0 by decide, show ofE 0 = 8 by decide, errV_pos (by omega)] at HWL
          have hld : decide (y + 400 ≤ 9999) = false := decide_eq_false hl
          clear rl
          obtain ⟨x, HXE⟩ : ∃ x, Hid (numI y m d = x) := ⟨_, hide rfl⟩
          rw [HXE.out] at HNA HOX HWX xb HNB HAH
          obtain ⟨x1, x2⟩ := xb
          unfold dateV at HNA HNB HRA HRB HOX HNL HAH ⊢
          go_enter Tryd.func7, Tryd.ntmps7
          go_wp2_with fail
          refine (HNA.out _ (HM.out.below HB0.out)).mono ?_
          rintro e w1 ⟨rfl, hb1⟩
          have HB1 := hide (HB0.out.trans (hb1.mono HB0.out.size))
          have TA1 := TA.later hb1
          have TB1 := TB.later hb1
          clear hb1 HB0
          have p0 := TB1.c0
          have p1 := TB1.c1
          have p2 := TB1.c2
          go_wp2_with fail
          refine (HNB.out _ (HM.out.below HB1.out)).mono ?_
          rintro e w2 ⟨rfl, hb2⟩
          have HB2 := hide (HB1.out.trans (hb2.mono HB1.out.size))
          have TA2 := TA1.later hb2
          have TB2 := TB1.later hb2
          clear hb2 HB1 TA1 TB1 p0 p1 p2
          go_wp2_with fail
          have HX := hide (show Trio w2.drew w.heap.size y m d ∧ Trio w2.drew (w.heap.size + 1) y m d ∧ Below w.heap.size w w2.drew from ⟨TA2.later (Below.refl _ _).drew, TB2.later (Below.refl _ _).drew, HB2.out.drew⟩)
          clear TA2 TB2 HB2
          haveI : Nonempty (Two w w.heap.size (w.heap.size + 1) y m d y m d) := ⟨⟨_, HX.out⟩⟩
          refine region_class (C := fun W => ∃ q : Two w w.heap.size (w.heap.size + 1) y m d y m d, W = q.1) (by kernel_rfl) (by kernel_rfl) ⟨⟨_, HX.out⟩, rfl⟩ ?_
          repeat (first
            | go_big_quiet_skip
            | (go_big_quiet_want; first
                | (refine quiet_load 23 (.tmp 3) rfl w.heap.size rfl [.int .i64 y, .int .i64 m, .int .i64 d] _ (fun W ⟨q, hq⟩ => by subst hq; exact q.2.1.range) Tryd.underlying23 rfl Tryd.sizeDate ?_; simp only [Act.put, List.setIfInBounds_toArray, List.set_cons_zero, List.set_cons_succ]; go_big_quiet_on)
                | (refine quiet_load 23 (.tmp 4) rfl (w.heap.size + 1) rfl [.int .i64 y, .int .i64 m, .int .i64 d] _ (fun W ⟨q, hq⟩ => by subst hq; exact q.2.2.1.range) Tryd.underlying23 rfl Tryd.sizeDate ?_; simp only [Act.put, List.setIfInBounds_toArray, List.set_cons_zero, List.set_cons_succ]; go_big_quiet_on)
                | (go_big_quiet_op; first
                    | go_big_quiet_on
                    | (apply Exists.intro; refine ⟨fun q => ?_, ?_⟩; (first
                        | (go_at_call 25; exact q.call (HSH.out q.1 (HM.out.below q.2.2.2)))
                        | (go_at_call_of 29 (Value.agg #[.int .i64 y, .int .i64 m, .int .i64 d]); exact q.call (HRA.out q.1))
                        | (go_at_call_of 29 (Value.agg #[.int .i64 y, .int .i64 m, .int .i64 d]); exact q.call (HRB.out q.1))); go_big_quiet_on))))
          refine wpQuiet_nil ?_
          rintro w3 ⟨q, rfl⟩
          obtain ⟨w3, hw3⟩ := q
          dsimp only
          have TA := hw3.1
          have TB := hw3.2.1
          have HB3 := hide hw3.2.2
          clear HX this hw3
          go_wp2_with fail
          refine (HOX.out _ (HM.out.below HB3.out)).mono ?_
          rintro e w4 ⟨rfl, hb4⟩
          have HB4 := hide (HB3.out.trans (hb4.mono HB3.out.size))
          have HB5 : Hid (Below w.heap.size w (w4.alloc (.cells #[.int .i64 y, .int .i64 m, .int .i64 d] 23))) := hide (HB4.out.alloc HB4.out.size _)
          have TA5 := (TA.later hb4).alloc (.cells #[.int .i64 y, .int .i64 m, .int .i64 d] 23)
          have TB5 := (TB.later hb4).alloc (.cells #[.int .i64 y, .int .i64 m, .int .i64 d] 23)
          have HB6 : Hid (Below w.heap.size w ((w4.alloc (.cells #[.int .i64 y, .int .i64 m, .int .i64 d] 23)).alloc (.cells #[.int .i64 (y + 400), .int .i64 m, .int .i64 d] 23))) := hide (HB5.out.alloc HB5.out.size _)
          have TA6 := TA5.alloc (.cells #[.int .i64 y, .int .i64 m, .int .i64 d] 23)
          have TA7 := TA5.alloc (.cells #[.int .i64 (y + 400), .int .i64 m, .int .i64 d] 23)
          have TB7 := TB5.alloc (.cells #[.int .i64 (y + 400), .int .i64 m, .int .i64 d] 23)
          have TL7 := Trio.new (w4.alloc (.cells #[.int .i64 y, .int .i64 m, .int .i64 d] 23)) (y + 400) m d 23
          have hsz : (w4.alloc (.cells #[.int .i64 y, .int .i64 m, .int .i64 d] 23)).heap.size = w4.heap.size + 1 := by simp
          rw [hsz] at TL7
          have a0 := TA5.c0
          have a1 := TA5.c1
          have a2 := TA5.c2
          have b0 := TA6.c0
          have b1 := TA6.c1
          have b2 := TA6.c2
          clear hb4 HB3 HB4 TA TB
          go_wp2_with fail
          refine (HNL.out _ (HM.out.below HB6.out)).mono ?_
          rintro e w8 ⟨rfl, hb8⟩
          have HB8 := hide (HB6.out.trans (hb8.mono HB6.out.size))
          have TA := TA7.later hb8
          have TB := TB7.later hb8
          have TL := TL7.later hb8
          clear hb8 HB5 HB6 TA5 TB5 TA6 TA7 TB7 TL7 hsz a0 a1 a2 b0 b1 b2
          go_wp2_with fail
          refine (HWX.out _).mono ?_
          rintro e w' ⟨rfl, hw'⟩
          have hw' := hw'.symm
          subst hw'
          go_wp2_with fail
          refine (HWL.out _).mono ?_
          rintro e w' ⟨rfl, hw'⟩
          have hw' := hw'.symm
          subst hw'
          go_wp2_with fail
          have l0 := TL.c0
          go_quiet (fail)
          have HB9 : Hid (Below w.heap.size w (w8.drewN nq)) := hide (below_drewN HB8.out _)
          have TA := TA.later (below_drewN (Below.refl _ _) nq)
          have TB := TB.later (below_drewN (Below.refl _ _) nq)
          have a0 := TA.c0
          have a1 := TA.c1
          have a2 := TA.c2
          have b0 := TB.c0
          have b1 := TB.c1
          have b2 := TB.c2
          clear HB8 TL l0
          go_wp2_with fail
          refine (HAH.out _).mono ?_
          rintro e w10 ⟨rfl, hb10⟩
          have HB10 := hide (HB9.out.trans (hb10.mono HB9.out.size))
          have TA := TA.later hb10
          have TB := TB.later hb10
          clear hb10 HB9 a0 a1 a2 b0 b1 b2
          have a0 := TA.c0
          have a1 := TA.c1
          have a2 := TA.c2
          have b0 := TB.c0
          have b1 := TB.c1
          have b2 := TB.c2
          go_wp2_with fail
          refine (HOFN.out _ (HM.out.below HB10.out)).mono ?_
          rintro e v1 ⟨rfl, vb1⟩
          have HV1 := hide (HB10.out.trans (vb1.mono HB10.out.size))
          go_wp2_with fail
          go_ret
          exact ⟨rfl, HV1.out.alloc HV1.out.size _⟩
      · have hee := Tryd.eqlDateNo y m d y' m' d' (fun h => hxe (by rw [h.1, h.2.1, h.2.2]))
        by_cases hl : y + 400 ≤ 9999
        · skip
          have rl := (rightB_iff _ _ _).2 ⟨HRR.out, hl⟩
          rw [(num_ok rl).1, (num_ok rl).2, errV_zero, HCY.out] at HNL
          have xz := num_b HRR.out hl
          rw [HCY.out] at xz
          have hdz := dayB_yes xz.1 xz.2
          have HWL := hide (fun (W : World) => Weekday_any (numI y m d + 146097) W)
          rw [wd_ok hdz, (of_ok hdz).2, errV_zero, show (numI y m d + 146097 - 1) % 7 = (numI y m d - 1) % 7 by omega] at HWL
          have hld : decide (y + 400 ≤ 9999) = true := decide_eq_true hl
          clear rl hdz
          obtain ⟨x', HXE2⟩ : ∃ x', Hid (numI y' m' d' = x') := ⟨_, hide rfl⟩
          rw [HXE2.out] at HNB HAH hxe
          obtain ⟨x, HXE⟩ : ∃ x, Hid (numI y m d = x) := ⟨_, hide rfl⟩
          rw [HXE.out] at HNA HOX HWX xb HAH HNL HWL xz hxe
          obtain ⟨x1, x2⟩ := xb
          unfold dateV at HNA HNB HRA HRB HOX HNL HAH ⊢
          have hxb : (x == x') = false := by simpa using hxe
          go_enter Tryd.func7, Tryd.ntmps7
          go_wp2_with fail
          refine (HNA.out _ (HM.out.below HB0.out)).mono ?_
          rintro e w1 ⟨rfl, hb1⟩
          have HB1 := hide (HB0.out.trans (hb1.mono HB0.out.size))
          have TA1 := TA.later hb1
          have TB1 := TB.later hb1
          clear hb1 HB0
          have p0 := TB1.c0
          have p1 := TB1.c1
          have p2 := TB1.c2
          go_wp2_with fail
          refine (HNB.out _ (HM.out.below HB1.out)).mono ?_
          rintro e w2 ⟨rfl, hb2⟩
          have HB2 := hide (HB1.out.trans (hb2.mono HB1.out.size))
          have TA2 := TA1.later hb2
          have TB2 := TB1.later hb2
          clear hb2 HB1 TA1 TB1 p0 p1 p2
          go_wp2_with fail
          have HX := hide (show Trio w2.drew w.heap.size y m d ∧ Trio w2.drew (w.heap.size + 1) y' m' d' ∧ Below w.heap.size w w2.drew from ⟨TA2.later (Below.refl _ _).drew, TB2.later (Below.refl _ _).drew, HB2.out.drew⟩)
          clear TA2 TB2 HB2
          haveI : Nonempty (Two w w.heap.size (w.heap.size + 1) y m d y' m' d') := ⟨⟨_, HX.out⟩⟩
          refine region_class (C := fun W => ∃ q : Two w w.heap.size (w.heap.size + 1) y m d y' m' d', W = q.1) (by kernel_rfl) (by kernel_rfl) ⟨⟨_, HX.out⟩, rfl⟩ ?_
          repeat (first
            | go_big_quiet_skip
            | (go_big_quiet_want; first
                | (refine quiet_load 23 (.tmp 3) rfl w.heap.size rfl [.int .i64 y, .int .i64 m, .int .i64 d] _ (fun W ⟨q, hq⟩ => by subst hq; exact q.2.1.range) Tryd.underlying23 rfl Tryd.sizeDate ?_; simp only [Act.put, List.setIfInBounds_toArray, List.set_cons_zero, List.set_cons_succ]; go_big_quiet_on)
                | (refine quiet_load 23 (.tmp 4) rfl (w.heap.size + 1) rfl [.int .i64 y', .int .i64 m', .int .i64 d'] _ (fun W ⟨q, hq⟩ => by subst hq; exact q.2.2.1.range) Tryd.underlying23 rfl Tryd.sizeDate ?_; simp only [Act.put, List.setIfInBounds_toArray, List.set_cons_zero, List.set_cons_succ]; go_big_quiet_on)
                | (go_big_quiet_op; first
                    | go_big_quiet_on
                    | (apply Exists.intro; refine ⟨fun q => ?_, ?_⟩; (first
                        | (go_at_call 25; exact q.call (HSH.out q.1 (HM.out.below q.2.2.2)))
                        | (go_at_call_of 29 (Value.agg #[.int .i64 y, .int .i64 m, .int .i64 d]); exact q.call (HRA.out q.1))
                        | (go_at_call_of 29 (Value.agg #[.int .i64 y', .int .i64 m', .int .i64 d']); exact q.call (HRB.out q.1))); go_big_quiet_on))))
          refine wpQuiet_nil ?_
          rintro w3 ⟨q, rfl⟩
          obtain ⟨w3, hw3⟩ := q
          dsimp only
          have TA := hw3.1
          have TB := hw3.2.1
          have HB3 := hide hw3.2.2
          clear HX this hw3
          go_wp2_with fail
          refine (HOX.out _ (HM.out.below HB3.out)).mono ?_
          rintro e w4 ⟨rfl, hb4⟩
          have HB4 := hide (HB3.out.trans (hb4.mono HB3.out.size))
          have HB5 : Hid (Below w.heap.size w (w4.alloc (.cells #[.int .i64 y, .int .i64 m, .int .i64 d] 23))) := hide (HB4.out.alloc HB4.out.size _)
          have TA5 := (TA.later hb4).alloc (.cells #[.int .i64 y, .int .i64 m, .int .i64 d] 23)
          have TB5 := (TB.later hb4).alloc (.cells #[.int .i64 y, .int .i64 m, .int .i64 d] 23)
          have HB6 : Hid (Below w.heap.size w ((w4.alloc (.cells #[.int .i64 y, .int .i64 m, .int .i64 d] 23)).alloc (.cells #[.int .i64 (y + 400), .int .i64 m, .int .i64 d] 23))) := hide (HB5.out.alloc HB5.out.size _)
          have TA6 := TA5.alloc (.cells #[.int .i64 y, .int .i64 m, .int .i64 d] 23)
          have TA7 := TA5.alloc (.cells #[.int .i64 (y + 400), .int .i64 m, .int .i64 d] 23)
          have TB7 := TB5.alloc (.cells #[.int .i64 (y + 400), .int .i64 m, .int .i64 d] 23)
          have TL7 := Trio.new (w4.alloc (.cells #[.int .i64 y, .int .i64 m, .int .i64 d] 23)) (y + 400) m d 23
          have hsz : (w4.alloc (.cells #[.int .i64 y, .int .i64 m, .int .i64 d] 23)).heap.size = w4.heap.size + 1 := by simp
          rw [hsz] at TL7
          have a0 := TA5.c0
          have a1 := TA5.c1
          have a2 := TA5.c2
          have b0 := TA6.c0
          have b1 := TA6.c1
          have b2 := TA6.c2
          clear hb4 HB3 HB4 TA TB
          go_wp2_with fail
          refine (HNL.out _ (HM.out.below HB6.out)).mono ?_
          rintro e w8 ⟨rfl, hb8⟩
          have HB8 := hide (HB6.out.trans (hb8.mono HB6.out.size))
          have TA := TA7.later hb8
          have TB := TB7.later hb8
          have TL := TL7.later hb8
          clear hb8 HB5 HB6 TA5 TB5 TA6 TA7 TB7 TL7 hsz a0 a1 a2 b0 b1 b2
          go_wp2_with fail
          refine (HWX.out _).mono ?_
          rintro e w' ⟨rfl, hw'⟩
          have hw' := hw'.symm
          subst hw'
          go_wp2_with fail
          refine (HWL.out _).mono ?_
          rintro e w' ⟨rfl, hw'⟩
          have hw' := hw'.symm
          subst hw'
          go_wp2_with fail
          have l0 := TL.c0
          go_quiet (fail)
          have HB9 : Hid (Below w.heap.size w (w8.drewN nq)) := hide (below_drewN HB8.out _)
          have TA := TA.later (below_drewN (Below.refl _ _) nq)
          have TB := TB.later (below_drewN (Below.refl _ _) nq)
          have a0 := TA.c0
          have a1 := TA.c1
          have a2 := TA.c2
          have b0 := TB.c0
          have b1 := TB.c1
          have b2 := TB.c2
          clear HB8 TL l0
          go_wp2_with fail
          refine (HAH.out _).mono ?_
          rintro e w10 ⟨rfl, hb10⟩
          have HB10 := hide (HB9.out.trans (hb10.mono HB9.out.size))
          have TA := TA.later hb10
          have TB := TB.later hb10
          clear hb10 HB9 a0 a1 a2 b0 b1 b2
          have a0 := TA.c0
          have a1 := TA.c1
          have a2 := TA.c2
          have b0 := TB.c0
          have b1 := TB.c1
          have b2 := TB.c2
          go_wp2_with fail
          refine (HOFN.out _ (HM.out.below HB10.out)).mono ?_
          rintro e v1 ⟨rfl, vb1⟩
          have HV1 := hide (HB10.out.trans (vb1.mono HB10.out.size))
          go_wp2_with fail
          go_ret
          exact ⟨rfl, HV1.out.alloc HV1.out.size _⟩
        · skip
          have rl := rightB_no (y := y + 400) (m := m) (d := d) (.inr (.inl (by omega)))
          rw [(num_bad rl).1, (num_bad rl).2, errV_pos (by omega)] at HNL
          have HWL := hide (fun (W : World) => Weekday_any 0 W)
          rw [show wdV 0 = 0 by decide, show ofE 0 = 8 by decide, errV_pos (by omega)] at HWL
          have hld : decide (y + 400 ≤ 9999) = false := decide_eq_false hl
          clear rl
          obtain ⟨x', HXE2⟩ : ∃ x', Hid (numI y' m' d' = x') := ⟨_, hide rfl⟩
          rw [HXE2.out] at HNB HAH hxe
          obtain ⟨x, HXE⟩ : ∃ x, Hid (numI y m d = x) := ⟨_, hide rfl⟩
          rw [HXE.out] at HNA HOX HWX xb HAH hxe
          obtain ⟨x1, x2⟩ := xb
          unfold dateV at HNA HNB HRA HRB HOX HNL HAH ⊢
          have hxb : (x == x') = false := by simpa using hxe
          go_enter Tryd.func7, Tryd.ntmps7
          go_wp2_with fail
          refine (HNA.out _ (HM.out.below HB0.out)).mono ?_
          rintro e w1 ⟨rfl, hb1⟩
          have HB1 := hide (HB0.out.trans (hb1.mono HB0.out.size))
          have TA1 := TA.later hb1
          have TB1 := TB.later hb1
          clear hb1 HB0
          have p0 := TB1.c0
          have p1 := TB1.c1
          have p2 := TB1.c2
          go_wp2_with fail
          refine (HNB.out _ (HM.out.below HB1.out)).mono ?_
          rintro e w2 ⟨rfl, hb2⟩
          have HB2 := hide (HB1.out.trans (hb2.mono HB1.out.size))
          have TA2 := TA1.later hb2
          have TB2 := TB1.later hb2
          clear hb2 HB1 TA1 TB1 p0 p1 p2
          go_wp2_with fail
          have HX := hide (show Trio w2.drew w.heap.size y m d ∧ Trio w2.drew (w.heap.size + 1) y' m' d' ∧ Below w.heap.size w w2.drew from ⟨TA2.later (Below.refl _ _).drew, TB2.later (Below.refl _ _).drew, HB2.out.drew⟩)
          clear TA2 TB2 HB2
          haveI : Nonempty (Two w w.heap.size (w.heap.size + 1) y m d y' m' d') := ⟨⟨_, HX.out⟩⟩
          refine region_class (C := fun W => ∃ q : Two w w.heap.size (w.heap.size + 1) y m d y' m' d', W = q.1) (by kernel_rfl) (by kernel_rfl) ⟨⟨_, HX.out⟩, rfl⟩ ?_
          repeat (first
            | go_big_quiet_skip
            | (go_big_quiet_want; first
                | (refine quiet_load 23 (.tmp 3) rfl w.heap.size rfl [.int .i64 y, .int .i64 m, .int .i64 d] _ (fun W ⟨q, hq⟩ => by subst hq; exact q.2.1.range) Tryd.underlying23 rfl Tryd.sizeDate ?_; simp only [Act.put, List.setIfInBounds_toArray, List.set_cons_zero, List.set_cons_succ]; go_big_quiet_on)
                | (refine quiet_load 23 (.tmp 4) rfl (w.heap.size + 1) rfl [.int .i64 y', .int .i64 m', .int .i64 d'] _ (fun W ⟨q, hq⟩ => by subst hq; exact q.2.2.1.range) Tryd.underlying23 rfl Tryd.sizeDate ?_; simp only [Act.put, List.setIfInBounds_toArray, List.set_cons_zero, List.set_cons_succ]; go_big_quiet_on)
                | (go_big_quiet_op; first
                    | go_big_quiet_on
                    | (apply Exists.intro; refine ⟨fun q => ?_, ?_⟩; (first
                        | (go_at_call 25; exact q.call (HSH.out q.1 (HM.out.below q.2.2.2)))
                        | (go_at_call_of 29 (Value.agg #[.int .i64 y, .int .i64 m, .int .i64 d]); exact q.call (HRA.out q.1))
                        | (go_at_call_of 29 (Value.agg #[.int .i64 y', .int .i64 m', .int .i64 d']); exact q.call (HRB.out q.1))); go_big_quiet_on))))
          refine wpQuiet_nil ?_
          rintro w3 ⟨q, rfl⟩
          obtain ⟨w3, hw3⟩ := q
          dsimp only
          have TA := hw3.1
          have TB := hw3.2.1
          have HB3 := hide hw3.2.2
          clear HX this hw3
          go_wp2_with fail
          refine (HOX.out _ (HM.out.below HB3.out)).mono ?_
          rintro e w4 ⟨rfl, hb4⟩
          have HB4 := hide (HB3.out.trans (hb4.mono HB3.out.size))
          have HB5 : Hid (Below w.heap.size w (w4.alloc (.cells #[.int .i64 y, .int .i64 m, .int .i64 d] 23))) := hide (HB4.out.alloc HB4.out.size _)
          have TA5 := (TA.later hb4).alloc (.cells #[.int .i64 y, .int .i64 m, .int .i64 d] 23)
          have TB5 := (TB.later hb4).alloc (.cells #[.int .i64 y, .int .i64 m, .int .i64 d] 23)
          have HB6 : Hid (Below w.heap.size w ((w4.alloc (.cells #[.int .i64 y, .int .i64 m, .int .i64 d] 23)).alloc (.cells #[.int .i64 (y + 400), .int .i64 m, .int .i64 d] 23))) := hide (HB5.out.alloc HB5.out.size _)
          have TA6 := TA5.alloc (.cells #[.int .i64 y, .int .i64 m, .int .i64 d] 23)
          have TA7 := TA5.alloc (.cells #[.int .i64 (y + 400), .int .i64 m, .int .i64 d] 23)
          have TB7 := TB5.alloc (.cells #[.int .i64 (y + 400), .int .i64 m, .int .i64 d] 23)
          have TL7 := Trio.new (w4.alloc (.cells #[.int .i64 y, .int .i64 m, .int .i64 d] 23)) (y + 400) m d 23
          have hsz : (w4.alloc (.cells #[.int .i64 y, .int .i64 m, .int .i64 d] 23)).heap.size = w4.heap.size + 1 := by simp
          rw [hsz] at TL7
          have a0 := TA5.c0
          have a1 := TA5.c1
          have a2 := TA5.c2
          have b0 := TA6.c0
          have b1 := TA6.c1
          have b2 := TA6.c2
          clear hb4 HB3 HB4 TA TB
          go_wp2_with fail
          refine (HNL.out _ (HM.out.below HB6.out)).mono ?_
          rintro e w8 ⟨rfl, hb8⟩
          have HB8 := hide (HB6.out.trans (hb8.mono HB6.out.size))
          have TA := TA7.later hb8
          have TB := TB7.later hb8
          have TL := TL7.later hb8
          clear hb8 HB5 HB6 TA5 TB5 TA6 TA7 TB7 TL7 hsz a0 a1 a2 b0 b1 b2
          go_wp2_with fail
          refine (HWX.out _).mono ?_
          rintro e w' ⟨rfl, hw'⟩
          have hw' := hw'.symm
          subst hw'
          go_wp2_with fail
          refine (HWL.out _).mono ?_
          rintro e w' ⟨rfl, hw'⟩
          have hw' := hw'.symm
          subst hw'
          go_wp2_with fail
          have l0 := TL.c0
          go_quiet (fail)
          have HB9 : Hid (Below w.heap.size w (w8.drewN nq)) := hide (below_drewN HB8.out _)
          have TA := TA.later (below_drewN (Below.refl _ _) nq)
          have TB := TB.later (below_drewN (Below.refl _ _) nq)
          have a0 := TA.c0
          have a1 := TA.c1
          have a2 := TA.c2
          have b0 := TB.c0
          have b1 := TB.c1
          have b2 := TB.c2
          clear HB8 TL l0
          go_wp2_with fail
          refine (HAH.out _).mono ?_
          rintro e w10 ⟨rfl, hb10⟩
          have HB10 := hide (HB9.out.trans (hb10.mono HB9.out.size))
          have TA := TA.later hb10
          have TB := TB.later hb10
          clear hb10 HB9 a0 a1 a2 b0 b1 b2
          have a0 := TA.c0
          have a1 := TA.c1
          have a2 := TA.c2
          have b0 := TB.c0
          have b1 := TB.c1
          have b2 := TB.c2
          go_wp2_with fail
          refine (HOFN.out _ (HM.out.below HB10.out)).mono ?_
          rintro e v1 ⟨rfl, vb1⟩
          have HV1 := hide (HB10.out.trans (vb1.mono HB10.out.size))
          go_wp2_with fail
          go_ret
          exact ⟨rfl, HV1.out.alloc HV1.out.size _⟩

end Go.Proofs.YtiajkglpmpemaaaDoor
