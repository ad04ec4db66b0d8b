/-
  My own text: days from a date to another where each month has thirty: the program's, walked.
-/
import Derived.Test.YtdfeehimnfogmaaGreatDoorD11
namespace Go.Proofs.YtdfeehimnfogmaaGreatDoor
open Go.RowKit

theorem Tryz.sizeDate : (Tryz.prog.info? 25).map (·.size) = some 3 := by kernel_rfl
set_option maxRecDepth 100000 in
set_option maxHeartbeats 4000000 in
theorem thirties_any (y m d y' m' d' : Int) (eu : Bool) (w : World) (y1 : 1 ≤ y) (y2 : y ≤ 9999) (m1 : 1 ≤ m) (m2 : m ≤ 12) (d1 : 1 ≤ d) (d2 : d ≤ 31) (y3 : 1 ≤ y') (y4 : y' ≤ 9999) (m3 : 1 ≤ m') (m4 : m' ≤ 12) (d3 : 1 ≤ d') (d4 : d' ≤ 31) :
    Calls Tryz.prog 41 #[dateV y m d, dateV y' m' d', .bool eu] w fun e w' => e = .returned (.int .i64 (th y m d y' m' d' eu)) ∧ Below w.heap.size w w' := by
  have HMG := hide (fun (W : World) (a b c : Int) => monthOf_any a b c W)
  unfold dateV at HMG ⊢
  by_cases hd : d = 31
  · subst hd
    by_cases hd' : d' = 31
    · subst hd'
      cases eu
      · skip
        have HZ : Hid (th y m 31 y' m' 31 false = 360 * (y' - y) + 30 * (m' - m) + (30) - (30)) := by
          show _ = _; unfold th
          rw [show thB 31 31 false = 30 by rfl, show thA 31 = 30 by rfl]
        go_enter Tryz.func41, Tryz.ntmps41
        go_wp2_with fail
        have T1 : Trio ((w.alloc (.cells #[.int .i64 y, .int .i64 m, .int .i64 30] 25)).alloc (.cells #[.int .i64 y', .int .i64 m', .int .i64 30] 25)).drew w.heap.size y m (30) := ((Trio.new w y m (30) 25).alloc _).later (Below.refl _ _).drew
        have T2 : Trio ((w.alloc (.cells #[.int .i64 y, .int .i64 m, .int .i64 30] 25)).alloc (.cells #[.int .i64 y', .int .i64 m', .int .i64 30] 25)).drew (w.heap.size + 1) y' m' (30) := by
          have h := (Trio.new (w.alloc (.cells #[.int .i64 y, .int .i64 m, .int .i64 30] 25)) y' m' (30) 25).later (Below.refl _ _).drew
          simpa using h
        have HX := hide (show Trio ((w.alloc (.cells #[.int .i64 y, .int .i64 m, .int .i64 30] 25)).alloc (.cells #[.int .i64 y', .int .i64 m', .int .i64 30] 25)).drew w.heap.size y m (30) ∧ Trio ((w.alloc (.cells #[.int .i64 y, .int .i64 m, .int .i64 30] 25)).alloc (.cells #[.int .i64 y', .int .i64 m', .int .i64 30] 25)).drew (w.heap.size + 1) y' m' (30) ∧ Below w.heap.size w ((w.alloc (.cells #[.int .i64 y, .int .i64 m, .int .i64 30] 25)).alloc (.cells #[.int .i64 y', .int .i64 m', .int .i64 30] 25)).drew from ⟨T1, T2, (below_dates w y m (30) y' m' (30)).drew⟩)
        clear T1 T2
        haveI : Nonempty (Two w w.heap.size (w.heap.size + 1) y m (30) y' m' (30)) := ⟨⟨_, HX.out⟩⟩
        refine region_class (C := fun W => ∃ q : Two w w.heap.size (w.heap.size + 1) y m (30) y' m' (30), W = q.1) (by kernel_rfl) (by kernel_rfl) ⟨⟨_, HX.out⟩, rfl⟩ ?_
        repeat (first
          | go_big_quiet_skip
          | (go_big_quiet_want; first
              | (refine quiet_load 25 (.tmp 4) rfl (w.heap.size + 1) rfl [.int .i64 y', .int .i64 m', .int .i64 (30)] _ (fun W ⟨q, hq⟩ => by subst hq; exact q.2.2.1.range) Tryz.underlying25 rfl Tryz.sizeDate ?_; simp only [Act.put, List.setIfInBounds_toArray, List.set_cons_zero, List.set_cons_succ]; go_big_quiet_on)
              | (refine quiet_load 25 (.tmp 3) rfl w.heap.size rfl [.int .i64 y, .int .i64 m, .int .i64 (30)] _ (fun W ⟨q, hq⟩ => by subst hq; exact q.2.1.range) Tryz.underlying25 rfl Tryz.sizeDate ?_; simp only [Act.put, List.setIfInBounds_toArray, List.set_cons_zero, List.set_cons_succ]; go_big_quiet_on)
              | (refine quiet_cell 3 (.tmp 27) rfl (w.heap.size + 1) 2 rfl (30) (fun W ⟨q, hq⟩ => by subst hq; exact q.2.2.1.c2) Tryz.underlying3 ?_; simp only [Act.put, List.setIfInBounds_toArray, List.set_cons_zero, List.set_cons_succ]; go_big_quiet_on)
              | (refine quiet_cell 3 (.tmp 30) rfl w.heap.size 2 rfl (30) (fun W ⟨q, hq⟩ => by subst hq; exact q.2.1.c2) Tryz.underlying3 ?_; simp only [Act.put, List.setIfInBounds_toArray, List.set_cons_zero, List.set_cons_succ]; go_big_quiet_on)
              | (go_big_quiet_op; first
                  | go_big_quiet_on
                  | (apply Exists.intro; refine ⟨fun q => ?_, ?_⟩; (go_at_call 38; exact q.call (HMG.out q.1 _ _ _ (by omega) (by omega) (by omega) (by omega))); go_big_quiet_on))))
        refine wpQuiet_nil ?_
        rintro w3 ⟨q, rfl⟩
        obtain ⟨w3, hw3⟩ := q
        dsimp only
        clear HX this
        go_wp2_with fail
        go_ret
        exact ⟨ret_i (by rw [HZ.out]; omega), hw3.2.2⟩
      · skip
        have HZ : Hid (th y m 31 y' m' 31 true = 360 * (y' - y) + 30 * (m' - m) + (30) - (30)) := by
          show _ = _; unfold th
          rw [show thB 31 31 true = 30 by rfl, show thA 31 = 30 by rfl]
        go_enter Tryz.func41, Tryz.ntmps41
        go_wp2_with fail
        have T1 : Trio ((w.alloc (.cells #[.int .i64 y, .int .i64 m, .int .i64 30] 25)).alloc (.cells #[.int .i64 y', .int .i64 m', .int .i64 30] 25)).drew w.heap.size y m (30) := ((Trio.new w y m (30) 25).alloc _).later (Below.refl _ _).drew
        have T2 : Trio ((w.alloc (.cells #[.int .i64 y, .int .i64 m, .int .i64 30] 25)).alloc (.cells #[.int .i64 y', .int .i64 m', .int .i64 30] 25)).drew (w.heap.size + 1) y' m' (30) := by
          have h := (Trio.new (w.alloc (.cells #[.int .i64 y, .int .i64 m, .int .i64 30] 25)) y' m' (30) 25).later (Below.refl _ _).drew
          simpa using h
        have HX := hide (show Trio ((w.alloc (.cells #[.int .i64 y, .int .i64 m, .int .i64 30] 25)).alloc (.cells #[.int .i64 y', .int .i64 m', .int .i64 30] 25)).drew w.heap.size y m (30) ∧ Trio ((w.alloc (.cells #[.int .i64 y, .int .i64 m, .int .i64 30] 25)).alloc (.cells #[.int .i64 y', .int .i64 m', .int .i64 30] 25)).drew (w.heap.size + 1) y' m' (30) ∧ Below w.heap.size w ((w.alloc (.cells #[.int .i64 y, .int .i64 m, .int .i64 30] 25)).alloc (.cells #[.int .i64 y', .int .i64 m', .int .i64 30] 25)).drew from ⟨T1, T2, (below_dates w y m (30) y' m' (30)).drew⟩)
        clear T1 T2
        haveI : Nonempty (Two w w.heap.size (w.heap.size + 1) y m (30) y' m' (30)) := ⟨⟨_, HX.out⟩⟩
        refine region_class (C := fun W => ∃ q : Two w w.heap.size (w.heap.size + 1) y m (30) y' m' (30), W = q.1) (by kernel_rfl) (by kernel_rfl) ⟨⟨_, HX.out⟩, rfl⟩ ?_
        repeat (first
          | go_big_quiet_skip
          | (go_big_quiet_want; first
              | (refine quiet_load 25 (.tmp 4) rfl (w.heap.size + 1) rfl [.int .i64 y', .int .i64 m', .int .i64 (30)] _ (fun W ⟨q, hq⟩ => by subst hq; exact q.2.2.1.range) Tryz.underlying25 rfl Tryz.sizeDate ?_; simp only [Act.put, List.setIfInBounds_toArray, List.set_cons_zero, List.set_cons_succ]; go_big_quiet_on)
              | (refine quiet_load 25 (.tmp 3) rfl w.heap.size rfl [.int .i64 y, .int .i64 m, .int .i64 (30)] _ (fun W ⟨q, hq⟩ => by subst hq; exact q.2.1.range) Tryz.underlying25 rfl Tryz.sizeDate ?_; simp only [Act.put, List.setIfInBounds_toArray, List.set_cons_zero, List.set_cons_succ]; go_big_quiet_on)
              | (refine quiet_cell 3 (.tmp 27) rfl (w.heap.size + 1) 2 rfl (30) (fun W ⟨q, hq⟩ => by subst hq; exact q.2.2.1.c2) Tryz.underlying3 ?_; simp only [Act.put, List.setIfInBounds_toArray, List.set_cons_zero, List.set_cons_succ]; go_big_quiet_on)
              | (refine quiet_cell 3 (.tmp 30) rfl w.heap.size 2 rfl (30) (fun W ⟨q, hq⟩ => by subst hq; exact q.2.1.c2) Tryz.underlying3 ?_; simp only [Act.put, List.setIfInBounds_toArray, List.set_cons_zero, List.set_cons_succ]; go_big_quiet_on)
              | (go_big_quiet_op; first
                  | go_big_quiet_on
                  | (apply Exists.intro; refine ⟨fun q => ?_, ?_⟩; (go_at_call 38; exact q.call (HMG.out q.1 _ _ _ (by omega) (by omega) (by omega) (by omega))); go_big_quiet_on))))
        refine wpQuiet_nil ?_
        rintro w3 ⟨q, rfl⟩
        obtain ⟨w3, hw3⟩ := q
        dsimp only
        clear HX this
        go_wp2_with fail
        go_ret
        exact ⟨ret_i (by rw [HZ.out]; omega), hw3.2.2⟩
    · have hmin : d' ≤ 30 := by omega
      cases eu
      · skip
        have HZ : Hid (th y m 31 y' m' d' false = 360 * (y' - y) + 30 * (m' - m) + (d') - (30)) := by
          show _ = _; unfold th
          rw [show thB 31 d' false = d' by exact if_neg (fun h => hd' h.1), show thA 31 = 30 by rfl]
        go_enter Tryz.func41, Tryz.ntmps41
        go_wp2_with fail
        have T1 : Trio ((w.alloc (.cells #[.int .i64 y, .int .i64 m, .int .i64 30] 25)).alloc (.cells #[.int .i64 y', .int .i64 m', .int .i64 d'] 25)).drew w.heap.size y m (30) := ((Trio.new w y m (30) 25).alloc _).later (Below.refl _ _).drew
        have T2 : Trio ((w.alloc (.cells #[.int .i64 y, .int .i64 m, .int .i64 30] 25)).alloc (.cells #[.int .i64 y', .int .i64 m', .int .i64 d'] 25)).drew (w.heap.size + 1) y' m' (d') := by
          have h := (Trio.new (w.alloc (.cells #[.int .i64 y, .int .i64 m, .int .i64 30] 25)) y' m' (d') 25).later (Below.refl _ _).drew
          simpa using h
        have HX := hide (show Trio ((w.alloc (.cells #[.int .i64 y, .int .i64 m, .int .i64 30] 25)).alloc (.cells #[.int .i64 y', .int .i64 m', .int .i64 d'] 25)).drew w.heap.size y m (30) ∧ Trio ((w.alloc (.cells #[.int .i64 y, .int .i64 m, .int .i64 30] 25)).alloc (.cells #[.int .i64 y', .int .i64 m', .int .i64 d'] 25)).drew (w.heap.size + 1) y' m' (d') ∧ Below w.heap.size w ((w.alloc (.cells #[.int .i64 y, .int .i64 m, .int .i64 30] 25)).alloc (.cells #[.int .i64 y', .int .i64 m', .int .i64 d'] 25)).drew from ⟨T1, T2, (below_dates w y m (30) y' m' (d')).drew⟩)
        clear T1 T2
        haveI : Nonempty (Two w w.heap.size (w.heap.size + 1) y m (30) y' m' (d')) := ⟨⟨_, HX.out⟩⟩
        refine region_class (C := fun W => ∃ q : Two w w.heap.size (w.heap.size + 1) y m (30) y' m' (d'), W = q.1) (by kernel_rfl) (by kernel_rfl) ⟨⟨_, HX.out⟩, rfl⟩ ?_
        repeat (first
          | go_big_quiet_skip
          | (go_big_quiet_want; first
              | (refine quiet_load 25 (.tmp 4) rfl (w.heap.size + 1) rfl [.int .i64 y', .int .i64 m', .int .i64 (d')] _ (fun W ⟨q, hq⟩ => by subst hq; exact q.2.2.1.range) Tryz.underlying25 rfl Tryz.sizeDate ?_; simp only [Act.put, List.setIfInBounds_toArray, List.set_cons_zero, List.set_cons_succ]; go_big_quiet_on)
              | (refine quiet_load 25 (.tmp 3) rfl w.heap.size rfl [.int .i64 y, .int .i64 m, .int .i64 (30)] _ (fun W ⟨q, hq⟩ => by subst hq; exact q.2.1.range) Tryz.underlying25 rfl Tryz.sizeDate ?_; simp only [Act.put, List.setIfInBounds_toArray, List.set_cons_zero, List.set_cons_succ]; go_big_quiet_on)
              | (refine quiet_cell 3 (.tmp 27) rfl (w.heap.size + 1) 2 rfl (d') (fun W ⟨q, hq⟩ => by subst hq; exact q.2.2.1.c2) Tryz.underlying3 ?_; simp only [Act.put, List.setIfInBounds_toArray, List.set_cons_zero, List.set_cons_succ]; go_big_quiet_on)
              | (refine quiet_cell 3 (.tmp 30) rfl w.heap.size 2 rfl (30) (fun W ⟨q, hq⟩ => by subst hq; exact q.2.1.c2) Tryz.underlying3 ?_; simp only [Act.put, List.setIfInBounds_toArray, List.set_cons_zero, List.set_cons_succ]; go_big_quiet_on)
              | (go_big_quiet_op; first
                  | go_big_quiet_on
                  | (apply Exists.intro; refine ⟨fun q => ?_, ?_⟩; (go_at_call 38; exact q.call (HMG.out q.1 _ _ _ (by omega) (by omega) (by omega) (by omega))); go_big_quiet_on))))
        refine wpQuiet_nil ?_
        rintro w3 ⟨q, rfl⟩
        obtain ⟨w3, hw3⟩ := q
        dsimp only
        clear HX this
        go_wp2_with fail
        go_ret
        exact ⟨ret_i (by rw [HZ.out]; omega), hw3.2.2⟩
      · skip
        have HZ : Hid (th y m 31 y' m' d' true = 360 * (y' - y) + 30 * (m' - m) + (d') - (30)) := by
          show _ = _; unfold th
          rw [show thB 31 d' true = d' by exact if_neg (fun h => hd' h.1), show thA 31 = 30 by rfl]
        go_enter Tryz.func41, Tryz.ntmps41
        go_wp2_with fail
        have T1 : Trio ((w.alloc (.cells #[.int .i64 y, .int .i64 m, .int .i64 30] 25)).alloc (.cells #[.int .i64 y', .int .i64 m', .int .i64 d'] 25)).drew w.heap.size y m (30) := ((Trio.new w y m (30) 25).alloc _).later (Below.refl _ _).drew
        have T2 : Trio ((w.alloc (.cells #[.int .i64 y, .int .i64 m, .int .i64 30] 25)).alloc (.cells #[.int .i64 y', .int .i64 m', .int .i64 d'] 25)).drew (w.heap.size + 1) y' m' (d') := by
          have h := (Trio.new (w.alloc (.cells #[.int .i64 y, .int .i64 m, .int .i64 30] 25)) y' m' (d') 25).later (Below.refl _ _).drew
          simpa using h
        have HX := hide (show Trio ((w.alloc (.cells #[.int .i64 y, .int .i64 m, .int .i64 30] 25)).alloc (.cells #[.int .i64 y', .int .i64 m', .int .i64 d'] 25)).drew w.heap.size y m (30) ∧ Trio ((w.alloc (.cells #[.int .i64 y, .int .i64 m, .int .i64 30] 25)).alloc (.cells #[.int .i64 y', .int .i64 m', .int .i64 d'] 25)).drew (w.heap.size + 1) y' m' (d') ∧ Below w.heap.size w ((w.alloc (.cells #[.int .i64 y, .int .i64 m, .int .i64 30] 25)).alloc (.cells #[.int .i64 y', .int .i64 m', .int .i64 d'] 25)).drew from ⟨T1, T2, (below_dates w y m (30) y' m' (d')).drew⟩)
        clear T1 T2
        haveI : Nonempty (Two w w.heap.size (w.heap.size + 1) y m (30) y' m' (d')) := ⟨⟨_, HX.out⟩⟩
        refine region_class (C := fun W => ∃ q : Two w w.heap.size (w.heap.size + 1) y m (30) y' m' (d'), W = q.1) (by kernel_rfl) (by kernel_rfl) ⟨⟨_, HX.out⟩, rfl⟩ ?_
        repeat (first
          | go_big_quiet_skip
          | (go_big_quiet_want; first
              | (refine quiet_load 25 (.tmp 4) rfl (w.heap.size + 1) rfl [.int .i64 y', .int .i64 m', .int .i64 (d')] _ (fun W ⟨q, hq⟩ => by subst hq; exact q.2.2.1.range) Tryz.underlying25 rfl Tryz.sizeDate ?_; simp only [Act.put, List.setIfInBounds_toArray, List.set_cons_zero, List.set_cons_succ]; go_big_quiet_on)
              | (refine quiet_load 25 (.tmp 3) rfl w.heap.size rfl [.int .i64 y, .int .i64 m, .int .i64 (30)] _ (fun W ⟨q, hq⟩ => by subst hq; exact q.2.1.range) Tryz.underlying25 rfl Tryz.sizeDate ?_; simp only [Act.put, List.setIfInBounds_toArray, List.set_cons_zero, List.set_cons_succ]; go_big_quiet_on)
              | (refine quiet_cell 3 (.tmp 27) rfl (w.heap.size + 1) 2 rfl (d') (fun W ⟨q, hq⟩ => by subst hq; exact q.2.2.1.c2) Tryz.underlying3 ?_; simp only [Act.put, List.setIfInBounds_toArray, List.set_cons_zero, List.set_cons_succ]; go_big_quiet_on)
              | (refine quiet_cell 3 (.tmp 30) rfl w.heap.size 2 rfl (30) (fun W ⟨q, hq⟩ => by subst hq; exact q.2.1.c2) Tryz.underlying3 ?_; simp only [Act.put, List.setIfInBounds_toArray, List.set_cons_zero, List.set_cons_succ]; go_big_quiet_on)
              | (go_big_quiet_op; first
                  | go_big_quiet_on
                  | (apply Exists.intro; refine ⟨fun q => ?_, ?_⟩; (go_at_call 38; exact q.call (HMG.out q.1 _ _ _ (by omega) (by omega) (by omega) (by omega))); go_big_quiet_on))))
        refine wpQuiet_nil ?_
        rintro w3 ⟨q, rfl⟩
        obtain ⟨w3, hw3⟩ := q
        dsimp only
        clear HX this
        go_wp2_with fail
        go_ret
        exact ⟨ret_i (by rw [HZ.out]; omega), hw3.2.2⟩
  have hmin : d ≤ 30 := by omega
  by_cases hd' : d' = 31
  · subst hd'
    cases eu
    · by_cases h30 : d = 30
      · subst h30
        have HZ : Hid (th y m 30 y' m' 31 false = 360 * (y' - y) + 30 * (m' - m) + (30) - (30)) := by
          show _ = _; unfold th
          rw [show thB 30 31 false = 30 by rfl, show thA 30 = 30 by rfl]
        go_enter Tryz.func41, Tryz.ntmps41
        go_wp2_with fail
        have T1 : Trio ((w.alloc (.cells #[.int .i64 y, .int .i64 m, .int .i64 30] 25)).alloc (.cells #[.int .i64 y', .int .i64 m', .int .i64 30] 25)).drew w.heap.size y m (30) := ((Trio.new w y m (30) 25).alloc _).later (Below.refl _ _).drew
        have T2 : Trio ((w.alloc (.cells #[.int .i64 y, .int .i64 m, .int .i64 30] 25)).alloc (.cells #[.int .i64 y', .int .i64 m', .int .i64 30] 25)).drew (w.heap.size + 1) y' m' (30) := by
          have h := (Trio.new (w.alloc (.cells #[.int .i64 y, .int .i64 m, .int .i64 30] 25)) y' m' (30) 25).later (Below.refl _ _).drew
          simpa using h
        have HX := hide (show Trio ((w.alloc (.cells #[.int .i64 y, .int .i64 m, .int .i64 30] 25)).alloc (.cells #[.int .i64 y', .int .i64 m', .int .i64 30] 25)).drew w.heap.size y m (30) ∧ Trio ((w.alloc (.cells #[.int .i64 y, .int .i64 m, .int .i64 30] 25)).alloc (.cells #[.int .i64 y', .int .i64 m', .int .i64 30] 25)).drew (w.heap.size + 1) y' m' (30) ∧ Below w.heap.size w ((w.alloc (.cells #[.int .i64 y, .int .i64 m, .int .i64 30] 25)).alloc (.cells #[.int .i64 y', .int .i64 m', .int .i64 30] 25)).drew from ⟨T1, T2, (below_dates w y m (30) y' m' (30)).drew⟩)
        clear T1 T2
        haveI : Nonempty (Two w w.heap.size (w.heap.size + 1) y m (30) y' m' (30)) := ⟨⟨_, HX.out⟩⟩
        refine region_class (C := fun W => ∃ q : Two w w.heap.size (w.heap.size + 1) y m (30) y' m' (30), W = q.1) (by kernel_rfl) (by kernel_rfl) ⟨⟨_, HX.out⟩, rfl⟩ ?_
        repeat (first
          | go_big_quiet_skip
          | (go_big_quiet_want; first
              | (refine quiet_load 25 (.tmp 4) rfl (w.heap.size + 1) rfl [.int .i64 y', .int .i64 m', .int .i64 (30)] _ (fun W ⟨q, hq⟩ => by subst hq; exact q.2.2.1.range) Tryz.underlying25 rfl Tryz.sizeDate ?_; simp only [Act.put, List.setIfInBounds_toArray, List.set_cons_zero, List.set_cons_succ]; go_big_quiet_on)
              | (refine quiet_load 25 (.tmp 3) rfl w.heap.size rfl [.int .i64 y, .int .i64 m, .int .i64 (30)] _ (fun W ⟨q, hq⟩ => by subst hq; exact q.2.1.range) Tryz.underlying25 rfl Tryz.sizeDate ?_; simp only [Act.put, List.setIfInBounds_toArray, List.set_cons_zero, List.set_cons_succ]; go_big_quiet_on)
              | (refine quiet_cell 3 (.tmp 27) rfl (w.heap.size + 1) 2 rfl (30) (fun W ⟨q, hq⟩ => by subst hq; exact q.2.2.1.c2) Tryz.underlying3 ?_; simp only [Act.put, List.setIfInBounds_toArray, List.set_cons_zero, List.set_cons_succ]; go_big_quiet_on)
              | (refine quiet_cell 3 (.tmp 30) rfl w.heap.size 2 rfl (30) (fun W ⟨q, hq⟩ => by subst hq; exact q.2.1.c2) Tryz.underlying3 ?_; simp only [Act.put, List.setIfInBounds_toArray, List.set_cons_zero, List.set_cons_succ]; go_big_quiet_on)
              | (go_big_quiet_op; first
                  | go_big_quiet_on
                  | (apply Exists.intro; refine ⟨fun q => ?_, ?_⟩; (go_at_call 38; exact q.call (HMG.out q.1 _ _ _ (by omega) (by omega) (by omega) (by omega))); go_big_quiet_on))))
        refine wpQuiet_nil ?_
        rintro w3 ⟨q, rfl⟩
        obtain ⟨w3, hw3⟩ := q
        dsimp only
        clear HX this
        go_wp2_with fail
        go_ret
        exact ⟨ret_i (by rw [HZ.out]; omega), hw3.2.2⟩
      · have hq : (d == 30) = false := by simpa using h30
        have HZ : Hid (th y m d y' m' 31 false = 360 * (y' - y) + 30 * (m' - m) + (31) - (d)) := by
          show _ = _; unfold th
          rw [show thB d 31 false = 31 by (unfold thB thA; rw [if_neg hd]; exact if_neg (fun h => h.2.elim (fun q => by cases q) h30)), show thA d = d by exact if_neg hd]
        go_enter Tryz.func41, Tryz.ntmps41
        go_wp2_with fail
        have T1 : Trio ((w.alloc (.cells #[.int .i64 y, .int .i64 m, .int .i64 d] 25)).alloc (.cells #[.int .i64 y', .int .i64 m', .int .i64 31] 25)).drew w.heap.size y m (d) := ((Trio.new w y m (d) 25).alloc _).later (Below.refl _ _).drew
        have T2 : Trio ((w.alloc (.cells #[.int .i64 y, .int .i64 m, .int .i64 d] 25)).alloc (.cells #[.int .i64 y', .int .i64 m', .int .i64 31] 25)).drew (w.heap.size + 1) y' m' (31) := by
          have h := (Trio.new (w.alloc (.cells #[.int .i64 y, .int .i64 m, .int .i64 d] 25)) y' m' (31) 25).later (Below.refl _ _).drew
          simpa using h
        have HX := hide (show Trio ((w.alloc (.cells #[.int .i64 y, .int .i64 m, .int .i64 d] 25)).alloc (.cells #[.int .i64 y', .int .i64 m', .int .i64 31] 25)).drew w.heap.size y m (d) ∧ Trio ((w.alloc (.cells #[.int .i64 y, .int .i64 m, .int .i64 d] 25)).alloc (.cells #[.int .i64 y', .int .i64 m', .int .i64 31] 25)).drew (w.heap.size + 1) y' m' (31) ∧ Below w.heap.size w ((w.alloc (.cells #[.int .i64 y, .int .i64 m, .int .i64 d] 25)).alloc (.cells #[.int .i64 y', .int .i64 m', .int .i64 31] 25)).drew from ⟨T1, T2, (below_dates w y m (d) y' m' (31)).drew⟩)
        clear T1 T2
        haveI : Nonempty (Two w w.heap.size (w.heap.size + 1) y m (d) y' m' (31)) := ⟨⟨_, HX.out⟩⟩
        refine region_class (C := fun W => ∃ q : Two w w.heap.size (w.heap.size + 1) y m (d) y' m' (31), W = q.1) (by kernel_rfl) (by kernel_rfl) ⟨⟨_, HX.out⟩, rfl⟩ ?_
        repeat (first
          | go_big_quiet_skip
          | (go_big_quiet_want; first
              | (refine quiet_load 25 (.tmp 4) rfl (w.heap.size + 1) rfl [.int .i64 y', .int .i64 m', .int .i64 (31)] _ (fun W ⟨q, hq⟩ => by subst hq; exact q.2.2.1.range) Tryz.underlying25 rfl Tryz.sizeDate ?_; simp only [Act.put, List.setIfInBounds_toArray, List.set_cons_zero, List.set_cons_succ]; go_big_quiet_on)
              | (refine quiet_load 25 (.tmp 3) rfl w.heap.size rfl [.int .i64 y, .int .i64 m, .int .i64 (d)] _ (fun W ⟨q, hq⟩ => by subst hq; exact q.2.1.range) Tryz.underlying25 rfl Tryz.sizeDate ?_; simp only [Act.put, List.setIfInBounds_toArray, List.set_cons_zero, List.set_cons_succ]; go_big_quiet_on)
              | (refine quiet_cell 3 (.tmp 27) rfl (w.heap.size + 1) 2 rfl (31) (fun W ⟨q, hq⟩ => by subst hq; exact q.2.2.1.c2) Tryz.underlying3 ?_; simp only [Act.put, List.setIfInBounds_toArray, List.set_cons_zero, List.set_cons_succ]; go_big_quiet_on)
              | (refine quiet_cell 3 (.tmp 30) rfl w.heap.size 2 rfl (d) (fun W ⟨q, hq⟩ => by subst hq; exact q.2.1.c2) Tryz.underlying3 ?_; simp only [Act.put, List.setIfInBounds_toArray, List.set_cons_zero, List.set_cons_succ]; go_big_quiet_on)
              | (go_big_quiet_op; first
                  | go_big_quiet_on
                  | (apply Exists.intro; refine ⟨fun q => ?_, ?_⟩; (go_at_call 38; exact q.call (HMG.out q.1 _ _ _ (by omega) (by omega) (by omega) (by omega))); go_big_quiet_on))))
        refine wpQuiet_nil ?_
        rintro w3 ⟨q, rfl⟩
        obtain ⟨w3, hw3⟩ := q
        dsimp only
        clear HX this
        go_wp2_with fail
        go_ret
        exact ⟨ret_i (by rw [HZ.out]; omega), hw3.2.2⟩
    · skip
      have HZ : Hid (th y m d y' m' 31 true = 360 * (y' - y) + 30 * (m' - m) + (30) - (d)) := by
        show _ = _; unfold th
        rw [show thB d 31 true = 30 by (unfold thB; exact if_pos ⟨rfl, .inl rfl⟩), show thA d = d by exact if_neg hd]
      go_enter Tryz.func41, Tryz.ntmps41
      go_wp2_with fail
      have T1 : Trio ((w.alloc (.cells #[.int .i64 y, .int .i64 m, .int .i64 d] 25)).alloc (.cells #[.int .i64 y', .int .i64 m', .int .i64 30] 25)).drew w.heap.size y m (d) := ((Trio.new w y m (d) 25).alloc _).later (Below.refl _ _).drew
      have T2 : Trio ((w.alloc (.cells #[.int .i64 y, .int .i64 m, .int .i64 d] 25)).alloc (.cells #[.int .i64 y', .int .i64 m', .int .i64 30] 25)).drew (w.heap.size + 1) y' m' (30) := by
        have h := (Trio.new (w.alloc (.cells #[.int .i64 y, .int .i64 m, .int .i64 d] 25)) y' m' (30) 25).later (Below.refl _ _).drew
        simpa using h
      have HX := hide (show Trio ((w.alloc (.cells #[.int .i64 y, .int .i64 m, .int .i64 d] 25)).alloc (.cells #[.int .i64 y', .int .i64 m', .int .i64 30] 25)).drew w.heap.size y m (d) ∧ Trio ((w.alloc (.cells #[.int .i64 y, .int .i64 m, .int .i64 d] 25)).alloc (.cells #[.int .i64 y', .int .i64 m', .int .i64 30] 25)).drew (w.heap.size + 1) y' m' (30) ∧ Below w.heap.size w ((w.alloc (.cells #[.int .i64 y, .int .i64 m, .int .i64 d] 25)).alloc (.cells #[.int .i64 y', .int .i64 m', .int .i64 30] 25)).drew from ⟨T1, T2, (below_dates w y m (d) y' m' (30)).drew⟩)
      clear T1 T2
      haveI : Nonempty (Two w w.heap.size (w.heap.size + 1) y m (d) y' m' (30)) := ⟨⟨_, HX.out⟩⟩
      refine region_class (C := fun W => ∃ q : Two w w.heap.size (w.heap.size + 1) y m (d) y' m' (30), W = q.1) (by kernel_rfl) (by kernel_rfl) ⟨⟨_, HX.out⟩, rfl⟩ ?_
      repeat (first
        | go_big_quiet_skip
        | (go_big_quiet_want; first
            | (refine quiet_load 25 (.tmp 4) rfl (w.heap.size + 1) rfl [.int .i64 y', .int .i64 m', .int .i64 (30)] _ (fun W ⟨q, hq⟩ => by subst hq; exact q.2.2.1.range) Tryz.underlying25 rfl Tryz.sizeDate ?_; simp only [Act.put, List.setIfInBounds_toArray, List.set_cons_zero, List.set_cons_succ]; go_big_quiet_on)
            | (refine quiet_load 25 (.tmp 3) rfl w.heap.size rfl [.int .i64 y, .int .i64 m, .int .i64 (d)] _ (fun W ⟨q, hq⟩ => by subst hq; exact q.2.1.range) Tryz.underlying25 rfl Tryz.sizeDate ?_; simp only [Act.put, List.setIfInBounds_toArray, List.set_cons_zero, List.set_cons_succ]; go_big_quiet_on)
            | (refine quiet_cell 3 (.tmp 27) rfl (w.heap.size + 1) 2 rfl (30) (fun W ⟨q, hq⟩ => by subst hq; exact q.2.2.1.c2) Tryz.underlying3 ?_; simp only [Act.put, List.setIfInBounds_toArray, List.set_cons_zero, List.set_cons_succ]; go_big_quiet_on)
            | (refine quiet_cell 3 (.tmp 30) rfl w.heap.size 2 rfl (d) (fun W ⟨q, hq⟩ => by subst hq; exact q.2.1.c2) Tryz.underlying3 ?_; simp only [Act.put, List.setIfInBounds_toArray, List.set_cons_zero, List.set_cons_succ]; go_big_quiet_on)
            | (go_big_quiet_op; first
                | go_big_quiet_on
                | (apply Exists.intro; refine ⟨fun q => ?_, ?_⟩; (go_at_call 38; exact q.call (HMG.out q.1 _ _ _ (by omega) (by omega) (by omega) (by omega))); go_big_quiet_on))))
      refine wpQuiet_nil ?_
      rintro w3 ⟨q, rfl⟩
      obtain ⟨w3, hw3⟩ := q
      dsimp only
      clear HX this
      go_wp2_with fail
      go_ret
      exact ⟨ret_i (by rw [HZ.out]; omega), hw3.2.2⟩
  have hmin' : d' ≤ 30 := by omega
  cases eu
  · by_cases h30 : d = 30
    · subst h30
      have HZ : Hid (th y m 30 y' m' d' false = 360 * (y' - y) + 30 * (m' - m) + (d') - (30)) := by
        show _ = _; unfold th
        rw [show thB 30 d' false = d' by exact if_neg (fun h => hd' h.1), show thA 30 = 30 by rfl]
      go_enter Tryz.func41, Tryz.ntmps41
      go_wp2_with fail
      have T1 : Trio ((w.alloc (.cells #[.int .i64 y, .int .i64 m, .int .i64 30] 25)).alloc (.cells #[.int .i64 y', .int .i64 m', .int .i64 d'] 25)).drew w.heap.size y m (30) := ((Trio.new w y m (30) 25).alloc _).later (Below.refl _ _).drew
      have T2 : Trio ((w.alloc (.cells #[.int .i64 y, .int .i64 m, .int .i64 30] 25)).alloc (.cells #[.int .i64 y', .int .i64 m', .int .i64 d'] 25)).drew (w.heap.size + 1) y' m' (d') := by
        have h := (Trio.new (w.alloc (.cells #[.int .i64 y, .int .i64 m, .int .i64 30] 25)) y' m' (d') 25).later (Below.refl _ _).drew
        simpa using h
      have HX := hide (show Trio ((w.alloc (.cells #[.int .i64 y, .int .i64 m, .int .i64 30] 25)).alloc (.cells #[.int .i64 y', .int .i64 m', .int .i64 d'] 25)).drew w.heap.size y m (30) ∧ Trio ((w.alloc (.cells #[.int .i64 y, .int .i64 m, .int .i64 30] 25)).alloc (.cells #[.int .i64 y', .int .i64 m', .int .i64 d'] 25)).drew (w.heap.size + 1) y' m' (d') ∧ Below w.heap.size w ((w.alloc (.cells #[.int .i64 y, .int .i64 m, .int .i64 30] 25)).alloc (.cells #[.int .i64 y', .int .i64 m', .int .i64 d'] 25)).drew from ⟨T1, T2, (below_dates w y m (30) y' m' (d')).drew⟩)
      clear T1 T2
      haveI : Nonempty (Two w w.heap.size (w.heap.size + 1) y m (30) y' m' (d')) := ⟨⟨_, HX.out⟩⟩
      refine region_class (C := fun W => ∃ q : Two w w.heap.size (w.heap.size + 1) y m (30) y' m' (d'), W = q.1) (by kernel_rfl) (by kernel_rfl) ⟨⟨_, HX.out⟩, rfl⟩ ?_
      repeat (first
        | go_big_quiet_skip
        | (go_big_quiet_want; first
            | (refine quiet_load 25 (.tmp 4) rfl (w.heap.size + 1) rfl [.int .i64 y', .int .i64 m', .int .i64 (d')] _ (fun W ⟨q, hq⟩ => by subst hq; exact q.2.2.1.range) Tryz.underlying25 rfl Tryz.sizeDate ?_; simp only [Act.put, List.setIfInBounds_toArray, List.set_cons_zero, List.set_cons_succ]; go_big_quiet_on)
            | (refine quiet_load 25 (.tmp 3) rfl w.heap.size rfl [.int .i64 y, .int .i64 m, .int .i64 (30)] _ (fun W ⟨q, hq⟩ => by subst hq; exact q.2.1.range) Tryz.underlying25 rfl Tryz.sizeDate ?_; simp only [Act.put, List.setIfInBounds_toArray, List.set_cons_zero, List.set_cons_succ]; go_big_quiet_on)
            | (refine quiet_cell 3 (.tmp 27) rfl (w.heap.size + 1) 2 rfl (d') (fun W ⟨q, hq⟩ => by subst hq; exact q.2.2.1.c2) Tryz.underlying3 ?_; simp only [Act.put, List.setIfInBounds_toArray, List.set_cons_zero, List.set_cons_succ]; go_big_quiet_on)
            | (refine quiet_cell 3 (.tmp 30) rfl w.heap.size 2 rfl (30) (fun W ⟨q, hq⟩ => by subst hq; exact q.2.1.c2) Tryz.underlying3 ?_; simp only [Act.put, List.setIfInBounds_toArray, List.set_cons_zero, List.set_cons_succ]; go_big_quiet_on)
            | (go_big_quiet_op; first
                | go_big_quiet_on
                | (apply Exists.intro; refine ⟨fun q => ?_, ?_⟩; (go_at_call 38; exact q.call (HMG.out q.1 _ _ _ (by omega) (by omega) (by omega) (by omega))); go_big_quiet_on))))
      refine wpQuiet_nil ?_
      rintro w3 ⟨q, rfl⟩
      obtain ⟨w3, hw3⟩ := q
      dsimp only
      clear HX this
      go_wp2_with fail
      go_ret
      exact ⟨ret_i (by rw [HZ.out]; omega), hw3.2.2⟩
    · have hq : (d == 30) = false := by simpa using h30
      have HZ : Hid (th y m d y' m' d' false = 360 * (y' - y) + 30 * (m' - m) + (d') - (d)) := by
        show _ = _; unfold th
        rw [show thB d d' false = d' by exact if_neg (fun h => hd' h.1), show thA d = d by exact if_neg hd]
      go_enter Tryz.func41, Tryz.ntmps41
      go_wp2_with fail
      have T1 : Trio ((w.alloc (.cells #[.int .i64 y, .int .i64 m, .int .i64 d] 25)).alloc (.cells #[.int .i64 y', .int .i64 m', .int .i64 d'] 25)).drew w.heap.size y m (d) := ((Trio.new w y m (d) 25).alloc _).later (Below.refl _ _).drew
      have T2 : Trio ((w.alloc (.cells #[.int .i64 y, .int .i64 m, .int .i64 d] 25)).alloc (.cells #[.int .i64 y', .int .i64 m', .int .i64 d'] 25)).drew (w.heap.size + 1) y' m' (d') := by
        have h := (Trio.new (w.alloc (.cells #[.int .i64 y, .int .i64 m, .int .i64 d] 25)) y' m' (d') 25).later (Below.refl _ _).drew
        simpa using h
      have HX := hide (show Trio ((w.alloc (.cells #[.int .i64 y, .int .i64 m, .int .i64 d] 25)).alloc (.cells #[.int .i64 y', .int .i64 m', .int .i64 d'] 25)).drew w.heap.size y m (d) ∧ Trio ((w.alloc (.cells #[.int .i64 y, .int .i64 m, .int .i64 d] 25)).alloc (.cells #[.int .i64 y', .int .i64 m', .int .i64 d'] 25)).drew (w.heap.size + 1) y' m' (d') ∧ Below w.heap.size w ((w.alloc (.cells #[.int .i64 y, .int .i64 m, .int .i64 d] 25)).alloc (.cells #[.int .i64 y', .int .i64 m', .int .i64 d'] 25)).drew from ⟨T1, T2, (below_dates w y m (d) y' m' (d')).drew⟩)
      clear T1 T2
      haveI : Nonempty (Two w w.heap.size (w.heap.size + 1) y m (d) y' m' (d')) := ⟨⟨_, HX.out⟩⟩
      refine region_class (C := fun W => ∃ q : Two w w.heap.size (w.heap.size + 1) y m (d) y' m' (d'), W = q.1) (by kernel_rfl) (by kernel_rfl) ⟨⟨_, HX.out⟩, rfl⟩ ?_
      repeat (first
        | go_big_quiet_skip
        | (go_big_quiet_want; first
            | (refine quiet_load 25 (.tmp 4) rfl (w.heap.size + 1) rfl [.int .i64 y', .int .i64 m', .int .i64 (d')] _ (fun W ⟨q, hq⟩ => by subst hq; exact q.2.2.1.range) Tryz.underlying25 rfl Tryz.sizeDate ?_; simp only [Act.put, List.setIfInBounds_toArray, List.set_cons_zero, List.set_cons_succ]; go_big_quiet_on)
            | (refine quiet_load 25 (.tmp 3) rfl w.heap.size rfl [.int .i64 y, .int .i64 m, .int .i64 (d)] _ (fun W ⟨q, hq⟩ => by subst hq; exact q.2.1.range) Tryz.underlying25 rfl Tryz.sizeDate ?_; simp only [Act.put, List.setIfInBounds_toArray, List.set_cons_zero, List.set_cons_succ]; go_big_quiet_on)
            | (refine quiet_cell 3 (.tmp 27) rfl (w.heap.size + 1) 2 rfl (d') (fun W ⟨q, hq⟩ => by subst hq; exact q.2.2.1.c2) Tryz.underlying3 ?_; simp only [Act.put, List.setIfInBounds_toArray, List.set_cons_zero, List.set_cons_succ]; go_big_quiet_on)
            | (refine quiet_cell 3 (.tmp 30) rfl w.heap.size 2 rfl (d) (fun W ⟨q, hq⟩ => by subst hq; exact q.2.1.c2) Tryz.underlying3 ?_; simp only [Act.put, List.setIfInBounds_toArray, List.set_cons_zero, List.set_cons_succ]; go_big_quiet_on)
            | (go_big_quiet_op; first
                | go_big_quiet_on
                | (apply Exists.intro; refine ⟨fun q => ?_, ?_⟩; (go_at_call 38; exact q.call (HMG.out q.1 _ _ _ (by omega) (by omega) (by omega) (by omega))); go_big_quiet_on))))
      refine wpQuiet_nil ?_
      rintro w3 ⟨q, rfl⟩
      obtain ⟨w3, hw3⟩ := q
      dsimp only
      clear HX this
      go_wp2_with fail
      go_ret
      exact ⟨ret_i (by rw [HZ.out]; omega), hw3.2.2⟩
  · skip
    have HZ : Hid (th y m d y' m' d' true = 360 * (y' - y) + 30 * (m' - m) + (d') - (d)) := by
      show _ = _; unfold th
      rw [show thB d d' true = d' by exact if_neg (fun h => hd' h.1), show thA d = d by exact if_neg hd]
    go_enter Tryz.func41, Tryz.ntmps41
    go_wp2_with fail
    have T1 : Trio ((w.alloc (.cells #[.int .i64 y, .int .i64 m, .int .i64 d] 25)).alloc (.cells #[.int .i64 y', .int .i64 m', .int .i64 d'] 25)).drew w.heap.size y m (d) := ((Trio.new w y m (d) 25).alloc _).later (Below.refl _ _).drew
    have T2 : Trio ((w.alloc (.cells #[.int .i64 y, .int .i64 m, .int .i64 d] 25)).alloc (.cells #[.int .i64 y', .int .i64 m', .int .i64 d'] 25)).drew (w.heap.size + 1) y' m' (d') := by
      have h := (Trio.new (w.alloc (.cells #[.int .i64 y, .int .i64 m, .int .i64 d] 25)) y' m' (d') 25).later (Below.refl _ _).drew
      simpa using h
    have HX := hide (show Trio ((w.alloc (.cells #[.int .i64 y, .int .i64 m, .int .i64 d] 25)).alloc (.cells #[.int .i64 y', .int .i64 m', .int .i64 d'] 25)).drew w.heap.size y m (d) ∧ Trio ((w.alloc (.cells #[.int .i64 y, .int .i64 m, .int .i64 d] 25)).alloc (.cells #[.int .i64 y', .int .i64 m', .int .i64 d'] 25)).drew (w.heap.size + 1) y' m' (d') ∧ Below w.heap.size w ((w.alloc (.cells #[.int .i64 y, .int .i64 m, .int .i64 d] 25)).alloc (.cells #[.int .i64 y', .int .i64 m', .int .i64 d'] 25)).drew from ⟨T1, T2, (below_dates w y m (d) y' m' (d')).drew⟩)
    clear T1 T2
    haveI : Nonempty (Two w w.heap.size (w.heap.size + 1) y m (d) y' m' (d')) := ⟨⟨_, HX.out⟩⟩
    refine region_class (C := fun W => ∃ q : Two w w.heap.size (w.heap.size + 1) y m (d) y' m' (d'), W = q.1) (by kernel_rfl) (by kernel_rfl) ⟨⟨_, HX.out⟩, rfl⟩ ?_
    repeat (first
      | go_big_quiet_skip
      | (go_big_quiet_want; first
          | (refine quiet_load 25 (.tmp 4) rfl (w.heap.size + 1) rfl [.int .i64 y', .int .i64 m', .int .i64 (d')] _ (fun W ⟨q, hq⟩ => by subst hq; exact q.2.2.1.range) Tryz.underlying25 rfl Tryz.sizeDate ?_; simp only [Act.put, List.setIfInBounds_toArray, List.set_cons_zero, List.set_cons_succ]; go_big_quiet_on)
          | (refine quiet_load 25 (.tmp 3) rfl w.heap.size rfl [.int .i64 y, .int .i64 m, .int .i64 (d)] _ (fun W ⟨q, hq⟩ => by subst hq; exact q.2.1.range) Tryz.underlying25 rfl Tryz.sizeDate ?_; simp only [Act.put, List.setIfInBounds_toArray, List.set_cons_zero, List.set_cons_succ]; go_big_quiet_on)
          | (refine quiet_cell 3 (.tmp 27) rfl (w.heap.size + 1) 2 rfl (d') (fun W ⟨q, hq⟩ => by subst hq; exact q.2.2.1.c2) Tryz.underlying3 ?_; simp only [Act.put, List.setIfInBounds_toArray, List.set_cons_zero, List.set_cons_succ]; go_big_quiet_on)
          | (refine quiet_cell 3 (.tmp 30) rfl w.heap.size 2 rfl (d) (fun W ⟨q, hq⟩ => by subst hq; exact q.2.1.c2) Tryz.underlying3 ?_; simp only [Act.put, List.setIfInBounds_toArray, List.set_cons_zero, List.set_cons_succ]; go_big_quiet_on)
          | (go_big_quiet_op; first
              | go_big_quiet_on
              | (apply Exists.intro; refine ⟨fun q => ?_, ?_⟩; (go_at_call 38; exact q.call (HMG.out q.1 _ _ _ (by omega) (by omega) (by omega) (by omega))); go_big_quiet_on))))
    refine wpQuiet_nil ?_
    rintro w3 ⟨q, rfl⟩
    obtain ⟨w3, hw3⟩ := q
    dsimp only
    clear HX this
    go_wp2_with fail
    go_ret
    exact ⟨ret_i (by rw [HZ.out]; omega), hw3.2.2⟩

end Go.Proofs.YtdfeehimnfogmaaGreatDoor
