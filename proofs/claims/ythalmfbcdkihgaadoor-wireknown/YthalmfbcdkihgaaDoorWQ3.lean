/-
  My own text: texts that the document's own reader answers.
-/
import Derived.Test.YthalmfbcdkihgaaDoorWQ2
import Derived.BigQuiet
import Derived.Deep.QuietTactic
namespace Go.Proofs.YthalmfbcdkihgaaDoor
open Go.RowKit Go.Extern

theorem rdY_fm (M : Int) (l : List UInt8) (e : Int) : rdY M l e = if (fm e l).2.2 ≠ 0 then ([], l, (fm e l).2.2) else if M < (fm e l).1 then ([], l, 5) else if ((l.drop (fm e l).2.1).length : Int) < (fm e l).1 then ([], l, 2) else ((l.drop (fm e l).2.1).take (fm e l).1.toNat, (l.drop (fm e l).2.1).drop (fm e l).1.toNat, 0) := by
  unfold rdY
  rw [rdU_fm]
  generalize fm e l = f
  obtain ⟨X, N, E⟩ := f
  dsimp only
  by_cases h : E = 0
  · subst h
    by_cases h2 : M < X
    · simp [rdT, h2]
    · by_cases h3 : ((l.drop N).length : Int) < X
      · rw [if_pos h3]
        simp only [ne_eq, not_true_eq_false, if_false, if_neg h2, rdT, if_pos h3]
        rfl
      · rw [if_neg h3]
        simp only [ne_eq, not_true_eq_false, if_false, if_neg h2, rdT, if_neg h3]
  · rw [if_pos h]
    simp only [ne_eq, h, not_false_eq_true, if_true, rdT]
theorem RG.drewN {w : World} {g : Nat} {v : Value} {l : List UInt8} (h : RG w g v l) (n : Nat) : RG (w.drewN n) g v l := h.keep (Nat.le_refl _) (fun _ _ => rfl)
theorem Ch.drewN (q o : Nat) (w : World) (n : Nat) : Ch q o w (w.drewN n) := ⟨⟨rfl, rfl, rfl, Nat.le_refl _, fun _ _ _ => rfl⟩, fun _ _ _ => rfl, fun _ => rfl⟩
theorem Rf.drewN {w : World} {q o n : Nat} {v : Value} {e : Int} (h : Rf w q o v n e) (k : Nat) : Rf (w.drewN k) q o v n e := ⟨h.c0, h.c1, h.c2, h.f1, h.f2⟩
theorem rg_sub2 {w : World} {g off cap n m : Nat} {l : List UInt8} (h : RG w g (.slice (some ⟨g, off, none⟩) l.length cap) l) (hn : n ≤ m) (hm : m ≤ l.length) : RG w g (.slice (some ⟨g, off + n, none⟩) (m - n) (cap - n)) ((l.drop n).take (m - n)) := by
  have h1 := rg_drop (n := n) h (by omega)
  rw [show l.length - n = (l.drop n).length from List.length_drop.symm] at h1
  exact rg_take h1 (by rw [List.length_drop]; omega)
set_option maxRecDepth 100000 in
set_option maxHeartbeats 1000000 in
theorem refRText_of (most M : Int) (hM : (most < 0 ∧ M = 0) ∨ (0 ≤ most ∧ M = most)) (m2 : most ≤ 9223372036854775807) (q o g n : Nat) (v : Value) (L : List UInt8) (e : Int) (w : World) (hf : Rf w q o v n e) (hg : RG w g v L) (hq : g ≠ q) (hn : n ≤ L.length) (he : 0 ≤ e) (h24 : e ≤ 24) (hl : L.length ≤ 140737488355328) :
    Calls Tryd.prog 71 #[.pointer (some ⟨q, o, none⟩), .int .i64 most] w fun en w' => en = .returned (.string ⟨(rdY M (L.drop n) e).1.toArray⟩) ∧ After w w' q o v L (rdY M (L.drop n) e).2.1 (rdY M (L.drop n) e).2.2 := by
  have HM := hide (refForm_any q o g n v L e w hf hg hn hl)
  rw [rdY_fm]
  obtain ⟨x0, x1, y0, y1, z⟩ := fm_rng e (L.drop n) he h24
  rw [List.length_drop] at z
  obtain ⟨X, hX⟩ : ∃ X, Hid ((fm e (L.drop n)).1 = X) := ⟨_, hide rfl⟩
  obtain ⟨N, hN⟩ : ∃ N, Hid ((fm e (L.drop n)).2.1 = N) := ⟨_, hide rfl⟩
  obtain ⟨E, hE⟩ : ∃ E, Hid ((fm e (L.drop n)).2.2 = E) := ⟨_, hide rfl⟩
  rw [hX.out, hN.out, hE.out] at HM
  rw [hX.out, hN.out, hE.out]
  rw [hX.out] at x0 x1
  rw [hE.out] at y0 y1
  rw [hE.out, hN.out] at z
  clear hX hN hE
  have HG := hide hg
  obtain ⟨a, cap, rfl, hcap, hr⟩ := hg
  have HA : Hid (L ≠ [] → ∃ off, a = some ⟨g, off, none⟩) := hide (fun h => by
    rcases hr with h0 | ⟨off, h1, _⟩
    · exact absurd h0 h
    · exact ⟨off, h1⟩)
  clear hf hr
  by_cases h : E = 0
  · subst h
    obtain ⟨z1, z9⟩ := z rfl
    rw [if_neg (by simp), List.drop_drop]
    clear z
    have hM0 : 0 ≤ M := by omega
    by_cases hm : M < X
    · rw [if_pos hm]
      have dm : decide (M < X) = true := by rw [decide_eq_true_eq]; exact hm
      clear hm
      rcases hM with ⟨hm, rfl⟩ | ⟨hm, rfl⟩
      all_goals
        go_enter Tryd.func71, Tryd.ntmps71
        go_wp2_with fail
        refine HM.out.mono ?_
        rintro en w1 ⟨rfl, hf1, hc1⟩
        have c2 := hf1.c2
        have f2 := hf1.f2
        have HS := hide (hf1.set2 5)
        have HC := hide (hc1.trans (Ch.set2 q o w1 (.int .i64 5)))
        clear hf1 hc1
        go_wp2_with fail
        go_ret
        exact ⟨rfl, ⟨n, hn, rfl, HS.out⟩, HC.out⟩
    · rw [if_neg hm]
      have dm : decide (M < X) = false := by rw [decide_eq_false_iff_not]; exact hm
      have hXM : X ≤ M := by omega
      clear hm
      obtain ⟨m, hm⟩ : ∃ m : Nat, (n : Int) + (N : Int) = (m : Int) := ⟨n + N, by omega⟩
      have HMm : Hid (n + N = m) := hide (by omega)
      have hmL : m ≤ L.length := by omega
      have HLD : Hid (((L.drop m).length : Int) = (L.length : Int) - (m : Int)) := hide (by rw [List.length_drop]; omega)
      rw [HMm.out, HLD.out, List.drop_drop]
      obtain ⟨r, hr⟩ : ∃ r : Int, (L.length : Int) - (n : Int) - (N : Int) = r := ⟨_, rfl⟩
      have hr2 : (L.length : Int) - (m : Int) = r := by omega
      have r0 : 0 ≤ r := by omega
      have r1 : r ≤ 140737488355328 := by omega
      rw [hr2]
      by_cases hs : r < X
      · rw [if_pos hs]
        have ds : decide (r < X) = true := by rw [decide_eq_true_eq]; exact hs
        clear hm hs hr2
        rcases hM with ⟨hm, rfl⟩ | ⟨hm, rfl⟩
        all_goals
          go_enter Tryd.func71, Tryd.ntmps71
          go_wp2_with fail
          refine HM.out.mono ?_
          rintro en w1 ⟨rfl, hf1, hc1⟩
          have c0 := hf1.c0
          have c1 := hf1.c1
          have c2 := hf1.c2
          have f2 := hf1.f2
          have HS := hide (fun k => (hf1.drewN k).set2 2)
          have HC := hide (fun k => hc1.trans ((Ch.drewN q o w1 k).trans (Ch.set2 q o (w1.drewN k) (.int .i64 2))))
          clear hf1 hc1
          go_wp2_with fail
          go_quiet (fail)
          go_wp2_with fail
          go_ret
          exact ⟨rfl, ⟨n, hn, rfl, HS.out _⟩, HC.out _⟩
      · rw [if_neg hs]
        have ds : decide (r < X) = false := by rw [decide_eq_false_iff_not]; exact hs
        have hXr : X ≤ r := by omega
        obtain ⟨m5, h5⟩ : ∃ m5 : Nat, (m : Int) + X = (m5 : Int) := ⟨m + X.toNat, by omega⟩
        have H5 : Hid (m + X.toNat = m5) := hide (by omega)
        have H5x : Hid (X.toNat = m5 - m) := hide (by omega)
        have h5a : m ≤ m5 := by omega
        have h5b : m5 ≤ L.length := by omega
        rw [H5.out, H5x.out]
        clear hs hr2 HLD
        have HCV0 : Hid (∀ (W : World) b c, (convert 29 9 (.slice b 0 c)).run Tryd.prog W = .ok (.string ⟨#[]⟩) W) := hide (fun W b c => conv_rg (g := 0) (l := []) ⟨_, _, rfl, Nat.zero_le _, .inl rfl⟩)
        by_cases hX0 : X = 0
        · subst hX0
          obtain rfl : m5 = m := by omega
          rw [Nat.sub_self, List.take_zero]
          have hcv0 := HCV0.out
          clear h5 h5a H5 H5x x0 x1 HG hXr
          cases a with
          | none =>
            have hL0 : L = [] := Classical.byContradiction fun h => by obtain ⟨off, h1⟩ := HA.out h; cases h1
            subst hL0
            obtain rfl : m5 = 0 := by simpa using hmL
            have hn0 : n = 0 := by have := HMm.out; omega
            have hN0 : N = 0 := by have := HMm.out; omega
            subst hn0 hN0
            clear HA HMm
            rcases hM with ⟨hmm, rfl⟩ | ⟨hmm, rfl⟩
            all_goals
              go_enter Tryd.func71, Tryd.ntmps71
              go_wp2_with fail
              refine HM.out.mono ?_
              rintro en w1 ⟨rfl, hf1, hc1⟩
              have c0 := hf1.c0
              have c1 := hf1.c1
              have c2 := hf1.c2
              have f1 := hf1.f1
              have HF1 := hide hf1
              have HC1 := hide hc1
              clear hf1 hc1
              go_wp2_with fail
              go_quiet (fail)
              go_wp2_with fail
              clear hr ds
              go_quiet (fail)
              go_wp2_with fail
              go_ret
              exact ⟨rfl, ⟨0, by omega, rfl, (HF1.out.drewN _).set1 0⟩, (HC1.out.trans (Ch.drewN q o w1 _)).trans (Ch.set1 q o _ _)⟩
          | some ad =>
            clear HA
            by_cases hcm : cap = m5
            · subst hcm
              rcases hM with ⟨hmm, rfl⟩ | ⟨hmm, rfl⟩
              all_goals
                go_enter Tryd.func71, Tryd.ntmps71
                go_wp2_with fail
                refine HM.out.mono ?_
                rintro en w1 ⟨rfl, hf1, hc1⟩
                have c0 := hf1.c0
                have c1 := hf1.c1
                have c2 := hf1.c2
                have f1 := hf1.f1
                have HF1 := hide hf1
                have HC1 := hide hc1
                clear hf1 hc1
                go_wp2_with fail
                go_quiet (fail)
                go_wp2_with fail
                clear hr ds
                go_quiet (fail)
                go_wp2_with fail
                go_ret
                exact ⟨rfl, ⟨cap, by omega, rfl, (HF1.out.drewN _).set1 cap⟩, (HC1.out.trans (Ch.drewN q o w1 _)).trans (Ch.set1 q o _ _)⟩
            · have hcm2 : ¬ (cap : Int) = (m5 : Int) := by omega
              rcases hM with ⟨hmm, rfl⟩ | ⟨hmm, rfl⟩
              all_goals
                go_enter Tryd.func71, Tryd.ntmps71
                go_wp2_with fail
                refine HM.out.mono ?_
                rintro en w1 ⟨rfl, hf1, hc1⟩
                have c0 := hf1.c0
                have c1 := hf1.c1
                have c2 := hf1.c2
                have f1 := hf1.f1
                have HF1 := hide hf1
                have HC1 := hide hc1
                clear hf1 hc1
                go_wp2_with fail
                go_quiet (fail)
                go_wp2_with fail
                clear hr ds
                go_quiet (fail)
                go_wp2_with fail
                go_ret
                exact ⟨rfl, ⟨m5, by omega, rfl, (HF1.out.drewN _).set1 m5⟩, (HC1.out.trans (Ch.drewN q o w1 _)).trans (Ch.set1 q o _ _)⟩
        · have hL0 : L ≠ [] := by intro h; rw [h] at h5b; simp at h5b; omega
          obtain ⟨off, rfl⟩ := HA.out hL0
          have hcm : ¬ cap = m := by omega
          have hcm2 : ¬ (cap : Int) = (m : Int) := by omega
          clear HA HCV0 hL0
          rcases hM with ⟨hmm, hM2⟩ | ⟨hmm, rfl⟩
          · omega
          all_goals
            go_enter Tryd.func71, Tryd.ntmps71
            go_wp2_with fail
            refine HM.out.mono ?_
            rintro en w1 ⟨rfl, hf1, hc1⟩
            have c0 := hf1.c0
            have c1 := hf1.c1
            have c2 := hf1.c2
            have f1 := hf1.f1
            have HF1 := hide hf1
            have HC1 := hide hc1
            have hrg := rg_sub2 (HG.out.only hc1.only hq) h5a h5b
            have hcv : ∀ j k, (convert 29 9 (.slice (some ⟨g, off + m, none⟩) (m5 - m) (cap - m))).run Tryd.prog ((w1.drewN j).drewN k) = .ok (.string ⟨((L.drop m).take (m5 - m)).toArray⟩) ((w1.drewN j).drewN k) := fun j k => conv_rg ((hrg.drewN j).drewN k)
            have hcw : ∀ k, (convert 29 9 (.slice (some ⟨g, off + m, none⟩) (m5 - m) (cap - m))).run Tryd.prog (w1.drewN k) = .ok (.string ⟨((L.drop m).take (m5 - m)).toArray⟩) (w1.drewN k) := fun k => conv_rg (hrg.drewN k)
            clear hrg
            clear hf1 hc1
            go_wp2_with fail
            go_quiet (fail)
            go_wp2_with fail
            clear hr ds
            go_quiet (fail)
            go_wp2_with fail
            go_ret
            exact ⟨rfl, ⟨m5, by omega, rfl, (HF1.out.drewN _).set1 m5⟩, (HC1.out.trans (Ch.drewN q o w1 _)).trans (Ch.set1 q o _ _)⟩
  · rw [if_pos h]
    have hne : (E != 0) = true := by simpa using h
    go_enter Tryd.func71, Tryd.ntmps71
    go_wp2_with fail
    refine HM.out.mono ?_
    rintro en w1 ⟨rfl, hf1, hc1⟩
    have c2 := hf1.c2
    have HS := hide hf1
    have HC := hide hc1
    clear hf1 hc1
    go_wp2_with fail
    go_ret
    exact ⟨rfl, ⟨n, hn, rfl, HS.out⟩, HC.out⟩
theorem refRText_any (most : Int) (m2 : most ≤ 9223372036854775807) (q o g n : Nat) (v : Value) (L : List UInt8) (e : Int) (w : World) (hf : Rf w q o v n e) (hg : RG w g v L) (hq : g ≠ q) (hn : n ≤ L.length) (he : 0 ≤ e) (h24 : e ≤ 24) (hl : L.length ≤ 140737488355328) :
    Calls Tryd.prog 71 #[.pointer (some ⟨q, o, none⟩), .int .i64 most] w fun en w' => en = .returned (.string ⟨(rdX most (L.drop n) e).1.toArray⟩) ∧ After w w' q o v L (rdX most (L.drop n) e).2.1 (rdX most (L.drop n) e).2.2 := by
  unfold rdX
  refine refRText_of most (mostOf most) ?_ m2 q o g n v L e w hf hg hq hn he h24 hl
  unfold mostOf
  by_cases h : most < 0
  · exact .inl ⟨h, if_pos h⟩
  · exact .inr ⟨by omega, if_neg h⟩
end Go.Proofs.YthalmfbcdkihgaaDoor
