/-
  My own text: the legs of a part, by the program and by the document (printed by mkyf.py).
-/
import Derived.Test.YtmojckejjjlkjaaDoorGLS
import Derived.Test.YtmojckejjjlkjaaDoorGLA
import Derived.Test.YtmojckejjjlkjaaDoorY3
namespace Go.Proofs.YtmojckejjjlkjaaDoor
open Go.RowKit

def accB (n : Int) : Bool := decide (0 ≤ n) && decide (n < 65536)
theorem accB_t {n : Int} (h : accB n = true) : 0 ≤ n ∧ n < 65536 := by simpa [accB] using h
theorem accB_f {n : Int} (h : accB n = false) (h0 : 0 ≤ n) : ¬ n < 65536 := fun x => by unfold accB at h; rw [decide_eq_true h0, decide_eq_true x] at h; cases h

theorem isAccount_any (n : Int) (w : World) : Calls Tryd.prog 41 #[.int .i64 n] w fun e w' => e = .returned (.bool (accB n)) ∧ w' = w := by
  by_cases h0 : 0 ≤ n
  · by_cases h1 : n < 65536
    · have d0 : decide (0 ≤ n) = true := decide_eq_true h0
      have d1 : decide (n < 65536) = true := decide_eq_true h1
      rw [show accB n = true by unfold accB; rw [d0, d1]; rfl]
      go_enter Tryd.func41, Tryd.ntmps41
      go_wp2_with fail
      go_ret
      exact ⟨rfl, rfl⟩
    · have d0 : decide (0 ≤ n) = true := decide_eq_true h0
      have d1 : decide (n < 65536) = false := decide_eq_false h1
      rw [show accB n = false by unfold accB; rw [d0, d1]; rfl]
      go_enter Tryd.func41, Tryd.ntmps41
      go_wp2_with fail
      go_ret
      exact ⟨rfl, rfl⟩
  · have d0 : decide (0 ≤ n) = false := decide_eq_false h0
    rw [show accB n = false by unfold accB; rw [d0]; rfl]
    go_enter Tryd.func41, Tryd.ntmps41
    go_wp2_with fail
    go_ret
    exact ⟨rfl, rfl⟩

theorem isAsset_any (n : Int) (w : World) : Calls Tryd.prog 42 #[.int .i64 n] w fun e w' => e = .returned (.bool (accB n)) ∧ w' = w := by
  by_cases h0 : 0 ≤ n
  · by_cases h1 : n < 65536
    · have d0 : decide (0 ≤ n) = true := decide_eq_true h0
      have d1 : decide (n < 65536) = true := decide_eq_true h1
      rw [show accB n = true by unfold accB; rw [d0, d1]; rfl]
      go_enter Tryd.func42, Tryd.ntmps42
      go_wp2_with fail
      go_ret
      exact ⟨rfl, rfl⟩
    · have d0 : decide (0 ≤ n) = true := decide_eq_true h0
      have d1 : decide (n < 65536) = false := decide_eq_false h1
      rw [show accB n = false by unfold accB; rw [d0, d1]; rfl]
      go_enter Tryd.func42, Tryd.ntmps42
      go_wp2_with fail
      go_ret
      exact ⟨rfl, rfl⟩
  · have d0 : decide (0 ≤ n) = false := decide_eq_false h0
    rw [show accB n = false by unfold accB; rw [d0]; rfl]
    go_enter Tryd.func42, Tryd.ntmps42
    go_wp2_with fail
    go_ret
    exact ⟨rfl, rfl⟩

theorem raccount_any (n : Int) (w : World) : Calls Tryd.prog 39 #[.int .i64 n] w fun e w' => e = .returned (.bool (accB n)) ∧ w' = w := by
  by_cases h0 : 0 ≤ n
  · by_cases h1 : n < 65536
    · have d0 : decide (0 ≤ n) = true := decide_eq_true h0
      have d1 : decide (n < 65536) = true := decide_eq_true h1
      rw [show accB n = true by unfold accB; rw [d0, d1]; rfl]
      go_enter Tryd.func39, Tryd.ntmps39
      go_wp2_with fail
      go_ret
      exact ⟨rfl, rfl⟩
    · have d0 : decide (0 ≤ n) = true := decide_eq_true h0
      have d1 : decide (n < 65536) = false := decide_eq_false h1
      rw [show accB n = false by unfold accB; rw [d0, d1]; rfl]
      go_enter Tryd.func39, Tryd.ntmps39
      go_wp2_with fail
      go_ret
      exact ⟨rfl, rfl⟩
  · have d0 : decide (0 ≤ n) = false := decide_eq_false h0
    rw [show accB n = false by unfold accB; rw [d0]; rfl]
    go_enter Tryd.func39, Tryd.ntmps39
    go_wp2_with fail
    go_ret
    exact ⟨rfl, rfl⟩

theorem rasset_any (n : Int) (w : World) : Calls Tryd.prog 40 #[.int .i64 n] w fun e w' => e = .returned (.bool (accB n)) ∧ w' = w := by
  by_cases h0 : 0 ≤ n
  · by_cases h1 : n < 65536
    · have d0 : decide (0 ≤ n) = true := decide_eq_true h0
      have d1 : decide (n < 65536) = true := decide_eq_true h1
      rw [show accB n = true by unfold accB; rw [d0, d1]; rfl]
      go_enter Tryd.func40, Tryd.ntmps40
      go_wp2_with fail
      go_ret
      exact ⟨rfl, rfl⟩
    · have d0 : decide (0 ≤ n) = true := decide_eq_true h0
      have d1 : decide (n < 65536) = false := decide_eq_false h1
      rw [show accB n = false by unfold accB; rw [d0, d1]; rfl]
      go_enter Tryd.func40, Tryd.ntmps40
      go_wp2_with fail
      go_ret
      exact ⟨rfl, rfl⟩
  · have d0 : decide (0 ≤ n) = false := decide_eq_false h0
    rw [show accB n = false by unfold accB; rw [d0]; rfl]
    go_enter Tryd.func40, Tryd.ntmps40
    go_wp2_with fail
    go_ret
    exact ⟨rfl, rfl⟩

/-- The number of the error, the legs. -/
def lgE (s b x c q m : Int) : Int := if accB s = false ∨ accB b = false then 14 else if s = b then 17 else if accB x = false ∨ accB c = false ∨ x = c then 15 else if q < 1 ∨ m < 0 then 16 else 0
def lgL (s b x c q m : Int) : List LG.El := if lgE s b x c q m = 0 then (if 0 < m then [(s, b, x, q, 0), (b, s, c, m, 0)] else [(s, b, x, q, 0)]) else []
theorem lgE_lo (s b x c q m : Int) : 0 ≤ lgE s b x c q m ∧ lgE s b x c q m ≤ 24 := by
  unfold lgE; split
  · omega
  · split
    · omega
    · split
      · omega
      · split <;> omega
theorem lgL_len (s b x c q m : Int) : (lgL s b x c q m).length ≤ 2 := by
  unfold lgL; split
  · split <;> simp
  · simp
theorem lgL_bad {s b x c q m k : Int} (h : lgE s b x c q m = k) (hk : k ≠ 0) : lgL s b x c q m = [] := by unfold lgL; rw [h, if_neg hk]
theorem om_one (w : World) (p : LG.El) : LG.OM (w.alloc (.cells #[.int .i64 p.1, .int .i64 p.2.1, .int .i64 p.2.2.1, .int .i64 p.2.2.2.1, .int .i64 p.2.2.2.2] 83)) w.heap.size (.slice (some ⟨w.heap.size, 0, none⟩) 1 1) [p] :=
  ⟨rfl, .inr ⟨w.heap.size, 1, _, rfl, Nat.le_refl _, alloc_new _ _, Nat.le_refl _, by decide, rfl, rfl⟩⟩

set_option maxHeartbeats 4000000 in
theorem legs_any (s b x c q m : Int) (w : World) : Calls Tryd.prog 22 #[.int .i64 s, .int .i64 b, .int .i64 x, .int .i64 c, .int .i64 q, .int .i64 m] w fun e w' => ∃ v, e = .returned (.tuple #[v, errV (lgE s b x c q m)]) ∧ LG.OM w' w.heap.size v (lgL s b x c q m) ∧ Below w.heap.size w w' := by
  have H1 := hide (fun n w => isAccount_any n w)
  have H2 := hide (fun n w => isAsset_any n w)
  cases ks : accB s with
  | false =>
    have hE : lgE s b x c q m = 14 := by unfold lgE; rw [if_pos (.inl ks)]
    rw [hE, lgL_bad hE (by decide)]
    clear hE
    go_enter Tryd.func22, Tryd.ntmps22
    go_wp2_with fail
    refine (H1.out s _).mono ?_
    rintro e vs ⟨rfl, hvs⟩
    have hvs2 := hvs.symm
    subst hvs2
    clear hvs
    rw [ks]
    go_wp2_with fail
    go_ret2
    exact ⟨_, rfl, LG.OM.nil _ _, Below.refl _ _⟩
  | true =>
    cases kb : accB b with
    | false =>
      have hE : lgE s b x c q m = 14 := by unfold lgE; rw [if_pos (.inr kb)]
      rw [hE, lgL_bad hE (by decide)]
      clear hE
      go_enter Tryd.func22, Tryd.ntmps22
      go_wp2_with fail
      refine (H1.out s _).mono ?_
      rintro e vs ⟨rfl, hvs⟩
      have hvs2 := hvs.symm
      subst hvs2
      clear hvs
      rw [ks]
      go_wp2_with fail
      refine (H1.out b _).mono ?_
      rintro e vb ⟨rfl, hvb⟩
      have hvb2 := hvb.symm
      subst hvb2
      clear hvb
      rw [kb]
      go_wp2_with fail
      go_ret2
      exact ⟨_, rfl, LG.OM.nil _ _, Below.refl _ _⟩
    | true =>
      have n1 : ¬ (accB s = false ∨ accB b = false) := by rw [ks, kb]; decide
      by_cases e1 : s = b
      · have g1 : (s == b) = true := by rw [e1]; simp
        have hE : lgE s b x c q m = 17 := by unfold lgE; rw [if_neg n1, if_pos e1]
        rw [hE, lgL_bad hE (by decide)]
        clear hE
        clear e1 n1
        go_enter Tryd.func22, Tryd.ntmps22
        go_wp2_with fail
        refine (H1.out s _).mono ?_
        rintro e vs ⟨rfl, hvs⟩
        have hvs2 := hvs.symm
        subst hvs2
        clear hvs
        rw [ks]
        go_wp2_with fail
        refine (H1.out b _).mono ?_
        rintro e vb ⟨rfl, hvb⟩
        have hvb2 := hvb.symm
        subst hvb2
        clear hvb
        rw [kb]
        go_wp2_with fail
        go_ret2
        exact ⟨_, rfl, LG.OM.nil _ _, Below.refl _ _⟩
      · have g1 : (s == b) = false := by simpa using e1
        cases kx : accB x with
        | false =>
          have hE : lgE s b x c q m = 15 := by unfold lgE; rw [if_neg n1, if_neg e1, if_pos (.inl kx)]
          rw [hE, lgL_bad hE (by decide)]
          clear hE
          clear e1 n1
          go_enter Tryd.func22, Tryd.ntmps22
          go_wp2_with fail
          refine (H1.out s _).mono ?_
          rintro e vs ⟨rfl, hvs⟩
          have hvs2 := hvs.symm
          subst hvs2
          clear hvs
          rw [ks]
          go_wp2_with fail
          refine (H1.out b _).mono ?_
          rintro e vb ⟨rfl, hvb⟩
          have hvb2 := hvb.symm
          subst hvb2
          clear hvb
          rw [kb]
          go_wp2_with fail
          refine (H2.out x _).mono ?_
          rintro e vx ⟨rfl, hvx⟩
          have hvx2 := hvx.symm
          subst hvx2
          clear hvx
          rw [kx]
          go_wp2_with fail
          go_ret2
          exact ⟨_, rfl, LG.OM.nil _ _, Below.refl _ _⟩
        | true =>
          cases kc : accB c with
          | false =>
            have hE : lgE s b x c q m = 15 := by unfold lgE; rw [if_neg n1, if_neg e1, if_pos (.inr (.inl kc))]
            rw [hE, lgL_bad hE (by decide)]
            clear hE
            clear e1 n1
            go_enter Tryd.func22, Tryd.ntmps22
            go_wp2_with fail
            refine (H1.out s _).mono ?_
            rintro e vs ⟨rfl, hvs⟩
            have hvs2 := hvs.symm
            subst hvs2
            clear hvs
            rw [ks]
            go_wp2_with fail
            refine (H1.out b _).mono ?_
            rintro e vb ⟨rfl, hvb⟩
            have hvb2 := hvb.symm
            subst hvb2
            clear hvb
            rw [kb]
            go_wp2_with fail
            refine (H2.out x _).mono ?_
            rintro e vx ⟨rfl, hvx⟩
            have hvx2 := hvx.symm
            subst hvx2
            clear hvx
            rw [kx]
            go_wp2_with fail
            refine (H2.out c _).mono ?_
            rintro e vc ⟨rfl, hvc⟩
            have hvc2 := hvc.symm
            subst hvc2
            clear hvc
            rw [kc]
            go_wp2_with fail
            go_ret2
            exact ⟨_, rfl, LG.OM.nil _ _, Below.refl _ _⟩
          | true =>
            by_cases e2 : x = c
            · have g2 : (x == c) = true := by rw [e2]; simp
              have hE : lgE s b x c q m = 15 := by unfold lgE; rw [if_neg n1, if_neg e1, if_pos (.inr (.inr e2))]
              rw [hE, lgL_bad hE (by decide)]
              clear hE
              clear e1 n1 e2
              go_enter Tryd.func22, Tryd.ntmps22
              go_wp2_with fail
              refine (H1.out s _).mono ?_
              rintro e vs ⟨rfl, hvs⟩
              have hvs2 := hvs.symm
              subst hvs2
              clear hvs
              rw [ks]
              go_wp2_with fail
              refine (H1.out b _).mono ?_
              rintro e vb ⟨rfl, hvb⟩
              have hvb2 := hvb.symm
              subst hvb2
              clear hvb
              rw [kb]
              go_wp2_with fail
              refine (H2.out x _).mono ?_
              rintro e vx ⟨rfl, hvx⟩
              have hvx2 := hvx.symm
              subst hvx2
              clear hvx
              rw [kx]
              go_wp2_with fail
              refine (H2.out c _).mono ?_
              rintro e vc ⟨rfl, hvc⟩
              have hvc2 := hvc.symm
              subst hvc2
              clear hvc
              rw [kc]
              go_wp2_with fail
              go_ret2
              exact ⟨_, rfl, LG.OM.nil _ _, Below.refl _ _⟩
            · have g2 : (x == c) = false := by simpa using e2
              have n2 : ¬ (accB x = false ∨ accB c = false ∨ x = c) := by rw [kx, kc]; simp; exact e2
              by_cases e3 : q < 1
              · have g3 : decide (q < 1) = true := decide_eq_true e3
                have hE : lgE s b x c q m = 16 := by unfold lgE; rw [if_neg n1, if_neg e1, if_neg n2, if_pos (.inl e3)]
                rw [hE, lgL_bad hE (by decide)]
                clear hE
                clear e1 n1 e2 n2
                go_enter Tryd.func22, Tryd.ntmps22
                go_wp2_with fail
                refine (H1.out s _).mono ?_
                rintro e vs ⟨rfl, hvs⟩
                have hvs2 := hvs.symm
                subst hvs2
                clear hvs
                rw [ks]
                go_wp2_with fail
                refine (H1.out b _).mono ?_
                rintro e vb ⟨rfl, hvb⟩
                have hvb2 := hvb.symm
                subst hvb2
                clear hvb
                rw [kb]
                go_wp2_with fail
                refine (H2.out x _).mono ?_
                rintro e vx ⟨rfl, hvx⟩
                have hvx2 := hvx.symm
                subst hvx2
                clear hvx
                rw [kx]
                go_wp2_with fail
                refine (H2.out c _).mono ?_
                rintro e vc ⟨rfl, hvc⟩
                have hvc2 := hvc.symm
                subst hvc2
                clear hvc
                rw [kc]
                go_wp2_with fail
                go_ret2
                exact ⟨_, rfl, LG.OM.nil _ _, Below.refl _ _⟩
              · have g3 : decide (q < 1) = false := decide_eq_false e3
                by_cases e4 : m < 0
                · have g4 : decide (m < 0) = true := decide_eq_true e4
                  have hE : lgE s b x c q m = 16 := by unfold lgE; rw [if_neg n1, if_neg e1, if_neg n2, if_pos (.inr e4)]
                  rw [hE, lgL_bad hE (by decide)]
                  clear hE
                  clear e1 n1 e2 n2
                  go_enter Tryd.func22, Tryd.ntmps22
                  go_wp2_with fail
                  refine (H1.out s _).mono ?_
                  rintro e vs ⟨rfl, hvs⟩
                  have hvs2 := hvs.symm
                  subst hvs2
                  clear hvs
                  rw [ks]
                  go_wp2_with fail
                  refine (H1.out b _).mono ?_
                  rintro e vb ⟨rfl, hvb⟩
                  have hvb2 := hvb.symm
                  subst hvb2
                  clear hvb
                  rw [kb]
                  go_wp2_with fail
                  refine (H2.out x _).mono ?_
                  rintro e vx ⟨rfl, hvx⟩
                  have hvx2 := hvx.symm
                  subst hvx2
                  clear hvx
                  rw [kx]
                  go_wp2_with fail
                  refine (H2.out c _).mono ?_
                  rintro e vc ⟨rfl, hvc⟩
                  have hvc2 := hvc.symm
                  subst hvc2
                  clear hvc
                  rw [kc]
                  go_wp2_with fail
                  go_ret2
                  exact ⟨_, rfl, LG.OM.nil _ _, Below.refl _ _⟩
                · have g4 : decide (m < 0) = false := decide_eq_false e4
                  have hE : lgE s b x c q m = 0 := by unfold lgE; rw [if_neg n1, if_neg e1, if_neg n2, if_neg (by omega)]
                  have hL : lgL s b x c q m = if 0 < m then [(s, b, x, q, 0), (b, s, c, m, 0)] else [(s, b, x, q, 0)] := by unfold lgL; rw [if_pos hE]
                  rw [hE, hL]
                  have HO := hide (om_one w (s, b, x, q, 0))
                  have HB := hide ((Below.refl w.heap.size w).alloc (Nat.le_refl _) (.cells #[.int .i64 s, .int .i64 b, .int .i64 x, .int .i64 q, .int .i64 0] 83))
                  clear hE hL n1 n2 e1 e2
                  by_cases e5 : 0 < m
                  · have g5 : decide (0 < m) = true := decide_eq_true e5
                    rw [if_pos e5]
                    clear e5
                    go_enter Tryd.func22, Tryd.ntmps22
                    go_wp2_with fail
                    refine (H1.out s _).mono ?_
                    rintro e vs ⟨rfl, hvs⟩
                    have hvs2 := hvs.symm
                    subst hvs2
                    clear hvs
                    rw [ks]
                    go_wp2_with fail
                    refine (H1.out b _).mono ?_
                    rintro e vb ⟨rfl, hvb⟩
                    have hvb2 := hvb.symm
                    subst hvb2
                    clear hvb
                    rw [kb]
                    go_wp2_with fail
                    refine (H2.out x _).mono ?_
                    rintro e vx ⟨rfl, hvx⟩
                    have hvx2 := hvx.symm
                    subst hvx2
                    clear hvx
                    rw [kx]
                    go_wp2_with fail
                    refine (H2.out c _).mono ?_
                    rintro e vc ⟨rfl, hvc⟩
                    have hvc2 := hvc.symm
                    subst hvc2
                    clear hvc
                    rw [kc]
                    have HO2 := hide (World.ownsRow.alloc HO.out (.cells #[.int .i64 b, .int .i64 s, .int .i64 c, .int .i64 m, .int .i64 0] 83))
                    have hN := five_cells (alloc_new (w.alloc (.cells #[.int .i64 s, .int .i64 b, .int .i64 x, .int .i64 q, .int .i64 0] 83)) (.cells #[.int .i64 b, .int .i64 s, .int .i64 c, .int .i64 m, .int .i64 0] 83)) rfl
                    have hS : (w.alloc (.cells #[.int .i64 s, .int .i64 b, .int .i64 x, .int .i64 q, .int .i64 0] 83)).heap.size = w.heap.size + 1 := by simp
                    rw [hS] at hN
                    have HN := hide hN
                    have HB2 := hide (HB.out.alloc (by simp) (.cells #[.int .i64 b, .int .i64 s, .int .i64 c, .int .i64 m, .int .i64 0] 83))
                    clear hN hS
                    go_wp2_with (at_builtin; refine LG.wp_append_kept rfl _ _ rfl w.heap.size _ [(s, b, x, q, 0)] (b, s, c, m, 0) _ rfl rfl HO2.out HN.out.1 HN.out.2.1 HN.out.2.2.1 HN.out.2.2.2.1 HN.out.2.2.2.2 HB2.out.size (by simp) ?_)
                    intro v5 w5 ho5 hg5 _
                    have HO5 := hide ho5
                    have HB5 := hide (hg5.toBelow HB2.out HB2.out.size (fun g hg => (World.ownsRow.lt HO2.out g hg).1))
                    obtain ⟨a5, c5, hv5⟩ := LG.OM.slice ho5
                    clear ho5 hg5
                    subst hv5
                    go_wp2_with fail
                    go_ret2
                    exact ⟨_, rfl, HO5.out, HB5.out⟩
                  · have g5 : decide (0 < m) = false := decide_eq_false e5
                    rw [if_neg e5]
                    clear e5
                    go_enter Tryd.func22, Tryd.ntmps22
                    go_wp2_with fail
                    refine (H1.out s _).mono ?_
                    rintro e vs ⟨rfl, hvs⟩
                    have hvs2 := hvs.symm
                    subst hvs2
                    clear hvs
                    rw [ks]
                    go_wp2_with fail
                    refine (H1.out b _).mono ?_
                    rintro e vb ⟨rfl, hvb⟩
                    have hvb2 := hvb.symm
                    subst hvb2
                    clear hvb
                    rw [kb]
                    go_wp2_with fail
                    refine (H2.out x _).mono ?_
                    rintro e vx ⟨rfl, hvx⟩
                    have hvx2 := hvx.symm
                    subst hvx2
                    clear hvx
                    rw [kx]
                    go_wp2_with fail
                    refine (H2.out c _).mono ?_
                    rintro e vc ⟨rfl, hvc⟩
                    have hvc2 := hvc.symm
                    subst hvc2
                    clear hvc
                    rw [kc]
                    go_wp2_with fail
                    go_ret2
                    exact ⟨_, rfl, HO.out, HB.out⟩

set_option maxHeartbeats 4000000 in
theorem rlegs_any (s b x c q m : Int) (w : World) : Calls Tryd.prog 21 #[.int .i64 s, .int .i64 b, .int .i64 x, .int .i64 c, .int .i64 q, .int .i64 m] w fun e w' => ∃ v, e = .returned (.tuple #[v, .int .i64 (lgE s b x c q m)]) ∧ LG.OM w' w.heap.size v (lgL s b x c q m) ∧ Below w.heap.size w w' := by
  have H1 := hide (fun n w => raccount_any n w)
  have H2 := hide (fun n w => rasset_any n w)
  cases ks : accB s with
  | false =>
    have hE : lgE s b x c q m = 14 := by unfold lgE; rw [if_pos (.inl ks)]
    rw [hE, lgL_bad hE (by decide)]
    clear hE
    go_enter Tryd.func21, Tryd.ntmps21
    go_wp2_with fail
    refine (H1.out s _).mono ?_
    rintro e vs ⟨rfl, hvs⟩
    have hvs2 := hvs.symm
    subst hvs2
    clear hvs
    rw [ks]
    go_wp2_with fail
    go_ret2
    exact ⟨_, rfl, LG.OM.nil _ _, Below.refl _ _⟩
  | true =>
    cases kb : accB b with
    | false =>
      have hE : lgE s b x c q m = 14 := by unfold lgE; rw [if_pos (.inr kb)]
      rw [hE, lgL_bad hE (by decide)]
      clear hE
      go_enter Tryd.func21, Tryd.ntmps21
      go_wp2_with fail
      refine (H1.out s _).mono ?_
      rintro e vs ⟨rfl, hvs⟩
      have hvs2 := hvs.symm
      subst hvs2
      clear hvs
      rw [ks]
      go_wp2_with fail
      refine (H1.out b _).mono ?_
      rintro e vb ⟨rfl, hvb⟩
      have hvb2 := hvb.symm
      subst hvb2
      clear hvb
      rw [kb]
      go_wp2_with fail
      go_ret2
      exact ⟨_, rfl, LG.OM.nil _ _, Below.refl _ _⟩
    | true =>
      have n1 : ¬ (accB s = false ∨ accB b = false) := by rw [ks, kb]; decide
      by_cases e1 : s = b
      · have g1 : (s == b) = true := by rw [e1]; simp
        have hE : lgE s b x c q m = 17 := by unfold lgE; rw [if_neg n1, if_pos e1]
        rw [hE, lgL_bad hE (by decide)]
        clear hE
        clear e1 n1
        go_enter Tryd.func21, Tryd.ntmps21
        go_wp2_with fail
        refine (H1.out s _).mono ?_
        rintro e vs ⟨rfl, hvs⟩
        have hvs2 := hvs.symm
        subst hvs2
        clear hvs
        rw [ks]
        go_wp2_with fail
        refine (H1.out b _).mono ?_
        rintro e vb ⟨rfl, hvb⟩
        have hvb2 := hvb.symm
        subst hvb2
        clear hvb
        rw [kb]
        go_wp2_with fail
        go_ret2
        exact ⟨_, rfl, LG.OM.nil _ _, Below.refl _ _⟩
      · have g1 : (s == b) = false := by simpa using e1
        cases kx : accB x with
        | false =>
          have hE : lgE s b x c q m = 15 := by unfold lgE; rw [if_neg n1, if_neg e1, if_pos (.inl kx)]
          rw [hE, lgL_bad hE (by decide)]
          clear hE
          clear e1 n1
          go_enter Tryd.func21, Tryd.ntmps21
          go_wp2_with fail
          refine (H1.out s _).mono ?_
          rintro e vs ⟨rfl, hvs⟩
          have hvs2 := hvs.symm
          subst hvs2
          clear hvs
          rw [ks]
          go_wp2_with fail
          refine (H1.out b _).mono ?_
          rintro e vb ⟨rfl, hvb⟩
          have hvb2 := hvb.symm
          subst hvb2
          clear hvb
          rw [kb]
          go_wp2_with fail
          refine (H2.out x _).mono ?_
          rintro e vx ⟨rfl, hvx⟩
          have hvx2 := hvx.symm
          subst hvx2
          clear hvx
          rw [kx]
          go_wp2_with fail
          go_ret2
          exact ⟨_, rfl, LG.OM.nil _ _, Below.refl _ _⟩
        | true =>
          cases kc : accB c with
          | false =>
            have hE : lgE s b x c q m = 15 := by unfold lgE; rw [if_neg n1, if_neg e1, if_pos (.inr (.inl kc))]
            rw [hE, lgL_bad hE (by decide)]
            clear hE
            clear e1 n1
            go_enter Tryd.func21, Tryd.ntmps21
            go_wp2_with fail
            refine (H1.out s _).mono ?_
            rintro e vs ⟨rfl, hvs⟩
            have hvs2 := hvs.symm
            subst hvs2
            clear hvs
            rw [ks]
            go_wp2_with fail
            refine (H1.out b _).mono ?_
            rintro e vb ⟨rfl, hvb⟩
            have hvb2 := hvb.symm
            subst hvb2
            clear hvb
            rw [kb]
            go_wp2_with fail
            refine (H2.out x _).mono ?_
            rintro e vx ⟨rfl, hvx⟩
            have hvx2 := hvx.symm
            subst hvx2
            clear hvx
            rw [kx]
            go_wp2_with fail
            refine (H2.out c _).mono ?_
            rintro e vc ⟨rfl, hvc⟩
            have hvc2 := hvc.symm
            subst hvc2
            clear hvc
            rw [kc]
            go_wp2_with fail
            go_ret2
            exact ⟨_, rfl, LG.OM.nil _ _, Below.refl _ _⟩
          | true =>
            by_cases e2 : x = c
            · have g2 : (x == c) = true := by rw [e2]; simp
              have hE : lgE s b x c q m = 15 := by unfold lgE; rw [if_neg n1, if_neg e1, if_pos (.inr (.inr e2))]
              rw [hE, lgL_bad hE (by decide)]
              clear hE
              clear e1 n1 e2
              go_enter Tryd.func21, Tryd.ntmps21
              go_wp2_with fail
              refine (H1.out s _).mono ?_
              rintro e vs ⟨rfl, hvs⟩
              have hvs2 := hvs.symm
              subst hvs2
              clear hvs
              rw [ks]
              go_wp2_with fail
              refine (H1.out b _).mono ?_
              rintro e vb ⟨rfl, hvb⟩
              have hvb2 := hvb.symm
              subst hvb2
              clear hvb
              rw [kb]
              go_wp2_with fail
              refine (H2.out x _).mono ?_
              rintro e vx ⟨rfl, hvx⟩
              have hvx2 := hvx.symm
              subst hvx2
              clear hvx
              rw [kx]
              go_wp2_with fail
              refine (H2.out c _).mono ?_
              rintro e vc ⟨rfl, hvc⟩
              have hvc2 := hvc.symm
              subst hvc2
              clear hvc
              rw [kc]
              go_wp2_with fail
              go_ret2
              exact ⟨_, rfl, LG.OM.nil _ _, Below.refl _ _⟩
            · have g2 : (x == c) = false := by simpa using e2
              have n2 : ¬ (accB x = false ∨ accB c = false ∨ x = c) := by rw [kx, kc]; simp; exact e2
              by_cases e3 : q < 1
              · have g3 : decide (q < 1) = true := decide_eq_true e3
                have hE : lgE s b x c q m = 16 := by unfold lgE; rw [if_neg n1, if_neg e1, if_neg n2, if_pos (.inl e3)]
                rw [hE, lgL_bad hE (by decide)]
                clear hE
                clear e1 n1 e2 n2
                go_enter Tryd.func21, Tryd.ntmps21
                go_wp2_with fail
                refine (H1.out s _).mono ?_
                rintro e vs ⟨rfl, hvs⟩
                have hvs2 := hvs.symm
                subst hvs2
                clear hvs
                rw [ks]
                go_wp2_with fail
                refine (H1.out b _).mono ?_
                rintro e vb ⟨rfl, hvb⟩
                have hvb2 := hvb.symm
                subst hvb2
                clear hvb
                rw [kb]
                go_wp2_with fail
                refine (H2.out x _).mono ?_
                rintro e vx ⟨rfl, hvx⟩
                have hvx2 := hvx.symm
                subst hvx2
                clear hvx
                rw [kx]
                go_wp2_with fail
                refine (H2.out c _).mono ?_
                rintro e vc ⟨rfl, hvc⟩
                have hvc2 := hvc.symm
                subst hvc2
                clear hvc
                rw [kc]
                go_wp2_with fail
                go_ret2
                exact ⟨_, rfl, LG.OM.nil _ _, Below.refl _ _⟩
              · have g3 : decide (q < 1) = false := decide_eq_false e3
                by_cases e4 : m < 0
                · have g4 : decide (m < 0) = true := decide_eq_true e4
                  have hE : lgE s b x c q m = 16 := by unfold lgE; rw [if_neg n1, if_neg e1, if_neg n2, if_pos (.inr e4)]
                  rw [hE, lgL_bad hE (by decide)]
                  clear hE
                  clear e1 n1 e2 n2
                  go_enter Tryd.func21, Tryd.ntmps21
                  go_wp2_with fail
                  refine (H1.out s _).mono ?_
                  rintro e vs ⟨rfl, hvs⟩
                  have hvs2 := hvs.symm
                  subst hvs2
                  clear hvs
                  rw [ks]
                  go_wp2_with fail
                  refine (H1.out b _).mono ?_
                  rintro e vb ⟨rfl, hvb⟩
                  have hvb2 := hvb.symm
                  subst hvb2
                  clear hvb
                  rw [kb]
                  go_wp2_with fail
                  refine (H2.out x _).mono ?_
                  rintro e vx ⟨rfl, hvx⟩
                  have hvx2 := hvx.symm
                  subst hvx2
                  clear hvx
                  rw [kx]
                  go_wp2_with fail
                  refine (H2.out c _).mono ?_
                  rintro e vc ⟨rfl, hvc⟩
                  have hvc2 := hvc.symm
                  subst hvc2
                  clear hvc
                  rw [kc]
                  go_wp2_with fail
                  go_ret2
                  exact ⟨_, rfl, LG.OM.nil _ _, Below.refl _ _⟩
                · have g4 : decide (m < 0) = false := decide_eq_false e4
                  have hE : lgE s b x c q m = 0 := by unfold lgE; rw [if_neg n1, if_neg e1, if_neg n2, if_neg (by omega)]
                  have hL : lgL s b x c q m = if 0 < m then [(s, b, x, q, 0), (b, s, c, m, 0)] else [(s, b, x, q, 0)] := by unfold lgL; rw [if_pos hE]
                  rw [hE, hL]
                  have HO := hide (om_one w (s, b, x, q, 0))
                  have HB := hide ((Below.refl w.heap.size w).alloc (Nat.le_refl _) (.cells #[.int .i64 s, .int .i64 b, .int .i64 x, .int .i64 q, .int .i64 0] 83))
                  clear hE hL n1 n2 e1 e2
                  by_cases e5 : 0 < m
                  · have g5 : decide (0 < m) = true := decide_eq_true e5
                    rw [if_pos e5]
                    clear e5
                    go_enter Tryd.func21, Tryd.ntmps21
                    go_wp2_with fail
                    refine (H1.out s _).mono ?_
                    rintro e vs ⟨rfl, hvs⟩
                    have hvs2 := hvs.symm
                    subst hvs2
                    clear hvs
                    rw [ks]
                    go_wp2_with fail
                    refine (H1.out b _).mono ?_
                    rintro e vb ⟨rfl, hvb⟩
                    have hvb2 := hvb.symm
                    subst hvb2
                    clear hvb
                    rw [kb]
                    go_wp2_with fail
                    refine (H2.out x _).mono ?_
                    rintro e vx ⟨rfl, hvx⟩
                    have hvx2 := hvx.symm
                    subst hvx2
                    clear hvx
                    rw [kx]
                    go_wp2_with fail
                    refine (H2.out c _).mono ?_
                    rintro e vc ⟨rfl, hvc⟩
                    have hvc2 := hvc.symm
                    subst hvc2
                    clear hvc
                    rw [kc]
                    have HO2 := hide (World.ownsRow.alloc HO.out (.cells #[.int .i64 b, .int .i64 s, .int .i64 c, .int .i64 m, .int .i64 0] 83))
                    have hN := five_cells (alloc_new (w.alloc (.cells #[.int .i64 s, .int .i64 b, .int .i64 x, .int .i64 q, .int .i64 0] 83)) (.cells #[.int .i64 b, .int .i64 s, .int .i64 c, .int .i64 m, .int .i64 0] 83)) rfl
                    have hS : (w.alloc (.cells #[.int .i64 s, .int .i64 b, .int .i64 x, .int .i64 q, .int .i64 0] 83)).heap.size = w.heap.size + 1 := by simp
                    rw [hS] at hN
                    have HN := hide hN
                    have HB2 := hide (HB.out.alloc (by simp) (.cells #[.int .i64 b, .int .i64 s, .int .i64 c, .int .i64 m, .int .i64 0] 83))
                    clear hN hS
                    go_wp2_with (at_builtin; refine LG.wp_append_kept rfl _ _ rfl w.heap.size _ [(s, b, x, q, 0)] (b, s, c, m, 0) _ rfl rfl HO2.out HN.out.1 HN.out.2.1 HN.out.2.2.1 HN.out.2.2.2.1 HN.out.2.2.2.2 HB2.out.size (by simp) ?_)
                    intro v5 w5 ho5 hg5 _
                    have HO5 := hide ho5
                    have HB5 := hide (hg5.toBelow HB2.out HB2.out.size (fun g hg => (World.ownsRow.lt HO2.out g hg).1))
                    obtain ⟨a5, c5, hv5⟩ := LG.OM.slice ho5
                    clear ho5 hg5
                    subst hv5
                    go_wp2_with fail
                    go_ret2
                    exact ⟨_, rfl, HO5.out, HB5.out⟩
                  · have g5 : decide (0 < m) = false := decide_eq_false e5
                    rw [if_neg e5]
                    clear e5
                    go_enter Tryd.func21, Tryd.ntmps21
                    go_wp2_with fail
                    refine (H1.out s _).mono ?_
                    rintro e vs ⟨rfl, hvs⟩
                    have hvs2 := hvs.symm
                    subst hvs2
                    clear hvs
                    rw [ks]
                    go_wp2_with fail
                    refine (H1.out b _).mono ?_
                    rintro e vb ⟨rfl, hvb⟩
                    have hvb2 := hvb.symm
                    subst hvb2
                    clear hvb
                    rw [kb]
                    go_wp2_with fail
                    refine (H2.out x _).mono ?_
                    rintro e vx ⟨rfl, hvx⟩
                    have hvx2 := hvx.symm
                    subst hvx2
                    clear hvx
                    rw [kx]
                    go_wp2_with fail
                    refine (H2.out c _).mono ?_
                    rintro e vc ⟨rfl, hvc⟩
                    have hvc2 := hvc.symm
                    subst hvc2
                    clear hvc
                    rw [kc]
                    go_wp2_with fail
                    go_ret2
                    exact ⟨_, rfl, HO.out, HB.out⟩

end Go.Proofs.YtmojckejjjlkjaaDoor
