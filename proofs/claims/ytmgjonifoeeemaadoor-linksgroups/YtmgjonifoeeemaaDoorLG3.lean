/-
  My own text: layer 23: what Groups answers, by the document and by the program; told.
-/
import Derived.Test.YtmgjonifoeeemaaDoorLG2
import Derived.Test.YtmgjonifoeeemaaDoorBE1
namespace Go.Proofs.YtmgjonifoeeemaaDoor
open Go.RowKit

/-- What is wrong: its number, its place. -/
def bad23 (n : Int) (L : List (Int × Int)) : Int × Int :=
  if cntE n = 0 then (match lostP n L with | none => (0, 0) | some k => (10, (k : Int))) else (cntE n, 0)
def erV (b : Int × Int) : Value := if b.1 = 10 then ltV 10 b.2 else errV b.1
theorem cntE_is (n : Int) : cntE n = 0 ∨ cntE n = 1 ∨ cntE n = 5 := by unfold cntE; split; simp; split <;> simp
theorem cntE_zero {n : Int} : cntE n = 0 ↔ 0 ≤ n ∧ n ≤ 4096 := by
  unfold cntE
  split
  · constructor <;> intro h <;> omega
  · split
    · constructor <;> intro h <;> omega
    · constructor <;> intro h <;> first | rfl | omega
theorem bad23_rng (n : Int) (L : List (Int × Int)) : 0 ≤ (bad23 n L).1 ∧ (bad23 n L).1 ≤ 24 ∧ ((bad23 n L).1 ≠ 11 ∧ (bad23 n L).1 ≠ 24) := by
  unfold bad23
  rcases cntE_is n with h | h | h
  · rw [if_pos h]; split <;> simp
  · rw [if_neg (by omega), h]; simp
  · rw [if_neg (by omega), h]; simp
/-- The groups, where nothing is wrong. -/
def grL (n : Int) (L : List (Int × Int)) : List Nat := if (bad23 n L).1 = 0 then grp n.toNat (pn L) else []
theorem lost_all {n : Int} {L : List (Int × Int)} (h : lostP n L = none) : ∀ (j : Nat) (p : Int × Int), L[j]? = some p → namB n p = true := by
  intro j p hj
  unfold lostP at h
  rw [List.findIdx?_eq_none_iff] at h
  have := h p (List.mem_of_getElem? hj)
  simpa using this
theorem grL_le (n : Int) (L : List (Int × Int)) : (grL n L).length ≤ 4096 := by
  unfold grL
  split
  · rename_i h
    rw [grp_len]
    unfold bad23 at h
    rcases cntE_is n with q | q | q
    · have := cntE_zero.1 q; omega
    · rw [if_neg (by omega), q] at h; simp at h
    · rw [if_neg (by omega), q] at h; simp at h
  · simp
set_option maxRecDepth 100000 in
set_option maxHeartbeats 2000000 in
theorem rGroups_any (n : Int) (v : Value) (L : List (Int × Int)) (w : World) (hv : TW.RM w v L) (hl : L.length ≤ 8796093022200) :
    Calls Tryd.prog 4 #[.int .i64 n, v] w fun e w' => ∃ v', e = .returned (.tuple #[v', .int .i64 (bad23 n L).1, .int .i64 (bad23 n L).2]) ∧ IN.OM w' w.heap.size v' (ni (grL n L)) ∧ Below w.heap.size w w' := by
  have H1 := hide (rsize_any n)
  have H2 := hide (rlost_any n v L w hv hl)
  obtain ⟨a, cap, hav⟩ := TW.rm_lt hv
  by_cases hc : cntE n = 0
  · obtain ⟨hn0, hn1⟩ := cntE_zero.1 hc
    rw [hc] at H1
    cases hp : lostP n L with
    | none =>
      have HB : Hid (bad23 n L = (0, 0)) := hide (by unfold bad23; rw [if_pos hc, hp])
      have HG : Hid (grL n L = grp n.toNat (pn L)) := hide (by unfold grL; rw [HB.out, if_pos rfl])
      have hl2 : lostI n L = -1 := by unfold lostI; rw [hp]
      rw [hl2] at H2
      have hnn : ((n.toNat : Nat) : Int) = n := by omega
      have H3 := hide (fun W (hb : Below w.heap.size w W) => rgroups_any n.toNat v L W (hv.later hb) hl (by omega) (by rw [hnn]; exact lost_all hp))
      rw [hnn] at H3
      subst hav
      rw [HB.out, HG.out]
      clear hv hl hc hp hl2 hnn hn0 hn1
      go_enter Tryd.func4, Tryd.ntmps4
      go_wp2_with fail
      refine (H1.out _).mono ?_
      rintro e w1 ⟨rfl, hw⟩
      obtain rfl := hw.symm
      go_wp2_with fail
      refine H2.out.mono ?_
      rintro e w2 ⟨rfl, hb⟩
      have HB2 := hide hb
      clear hb
      go_wp2_with fail
      refine (H3.out _ HB2.out).mono ?_
      rintro e w3 ⟨v', rfl, hO, hb3⟩
      have HO : Hid (IN.OM w3 w.heap.size v' (ni (grp n.toNat (pn L)))) := hide (IN.OM.base hO (fun g hg => by have := (World.ownsRow.lt hO g hg).1; have := HB2.out.size; omega))
      have HB3 := hide (HB2.out.trans (hb3.mono HB2.out.size))
      clear hO hb3 H1 H2 H3
      go_wp2_with fail
      go_ret3
      exact ⟨v', rfl, HO.out, HB3.out⟩
    | some k =>
      have HB : Hid (bad23 n L = (10, (k : Int))) := hide (by unfold bad23; rw [if_pos hc, hp])
      have HG : Hid (grL n L = []) := hide (by unfold grL; rw [HB.out, if_neg (show ¬ (10 : Int) = 0 by decide)])
      have hl2 : lostI n L = (k : Int) := by unfold lostI; rw [hp]
      rw [hl2] at H2
      subst hav
      rw [HB.out, HG.out]
      have e1 : decide ((0 : Int) ≤ (k : Int)) = true := by rw [decide_eq_true_eq]; omega
      have e2 : (0 : Int) ≤ (k : Int) := by omega
      clear hv hl hc hp hl2 hn0 hn1
      go_enter Tryd.func4, Tryd.ntmps4
      go_wp2_with fail
      refine (H1.out _).mono ?_
      rintro e w1 ⟨rfl, hw⟩
      obtain rfl := hw.symm
      go_wp2_with fail
      refine H2.out.mono ?_
      rintro e w2 ⟨rfl, hb⟩
      have HB2 := hide hb
      clear hb
      go_wp2_with fail
      go_ret3
      exact ⟨_, rfl, IN.OM.nil _ _, HB2.out⟩
  · have HB : Hid (bad23 n L = (cntE n, 0)) := hide (by unfold bad23; rw [if_neg hc])
    have HG : Hid (grL n L = []) := hide (by unfold grL; rw [HB.out, if_neg hc])
    obtain ⟨c, hcc⟩ : ∃ c, cntE n = c := ⟨_, rfl⟩
    rw [HB.out, HG.out]
    rw [hcc] at H1 hc ⊢
    subst hav
    have hne : (c != 0) = true := by rw [bne_iff_ne]; exact hc
    clear hv hl hcc hc
    go_enter Tryd.func4, Tryd.ntmps4
    go_wp2_with fail
    refine (H1.out _).mono ?_
    rintro e w1 ⟨rfl, hw⟩
    obtain rfl := hw.symm
    go_wp2_with fail
    go_ret3
    exact ⟨_, rfl, IN.OM.nil _ _, Below.refl _ _⟩
set_option maxRecDepth 100000 in
set_option maxHeartbeats 2000000 in
theorem Groups_any (n : Int) (v : Value) (L : List (Int × Int)) (w : World) (hv : TW.RM w v L) (hl : L.length ≤ 8796093022200) :
    Calls Tryd.prog 6 #[.int .i64 n, v] w fun e w' => ∃ v', e = .returned (.tuple #[v', erV (bad23 n L)]) ∧ IN.OM w' w.heap.size v' (ni (grL n L)) ∧ Below w.heap.size w w' := by
  have H1 := hide (checkCount_any n)
  have H2 := hide (checkPairs_any n v L w hv hl)
  obtain ⟨a, cap, hav⟩ := TW.rm_lt hv
  by_cases hc : cntE n = 0
  · obtain ⟨hn0, hn1⟩ := cntE_zero.1 hc
    cases hp : lostP n L with
    | none =>
      have HB : bad23 n L = (0, 0) := by unfold bad23; rw [if_pos hc, hp]
      have HG : grL n L = grp n.toNat (pn L) := by unfold grL; rw [HB, if_pos rfl]
      have hnn : ((n.toNat : Nat) : Int) = n := by omega
      have h := groupsOk_any n.toNat v L w hv hl (by omega) (by rw [hnn]; exact lost_all hp)
      rw [hnn] at h
      refine h.mono fun e w' hh => ?_
      obtain ⟨P, he, hP, hV, hb⟩ := hh
      refine ⟨_, by rw [HB]; exact he, ?_, hb⟩
      rw [HG]
      have h2 := hV.om hP (by rw [grp_len]; unfold maxLen; omega)
      rw [grp_len] at h2
      exact h2
    | some k =>
      have HB : Hid (bad23 n L = (10, (k : Int))) := hide (by unfold bad23; rw [if_pos hc, hp])
      have HG : Hid (grL n L = []) := hide (by unfold grL; rw [HB.out, if_neg (show ¬ (10 : Int) = 0 by decide)])
      rw [hc, errV_zero] at H1
      rw [show lostV n L = ltV 10 (k : Int) by unfold lostV; rw [hp]] at H2
      rw [HB.out, HG.out, show erV (10, (k : Int)) = ltV 10 (k : Int) from if_pos rfl]
      unfold ltV at H2 ⊢
      subst hav
      clear hv hl hc hp hn0 hn1
      go_enter Tryd.func6, Tryd.ntmps6
      go_wp2_with fail
      refine (H1.out _).mono ?_
      rintro e w1 ⟨rfl, hw⟩
      obtain rfl := hw.symm
      go_wp2_with fail
      refine H2.out.mono ?_
      rintro e w2 ⟨rfl, hb⟩
      have HB2 := hide hb
      clear hb
      go_wp2_with fail
      go_ret2
      exact ⟨_, rfl, IN.OM.nil _ _, HB2.out⟩
  · have HB : Hid (bad23 n L = (cntE n, 0)) := hide (by unfold bad23; rw [if_neg hc])
    have HG : Hid (grL n L = []) := hide (by unfold grL; rw [HB.out, if_neg hc])
    have hc2 := cntE_is n
    obtain ⟨c, hcc⟩ : ∃ c, cntE n = c := ⟨_, rfl⟩
    rw [HB.out, HG.out]
    rw [hcc] at H1 hc hc2 ⊢
    rw [errV_pos (show 1 ≤ c by omega)] at H1
    rw [show erV (c, 0) = .iface 49 (.int .i64 c) by unfold erV; rw [if_neg (show ¬ c = 10 by omega)]; exact errV_pos (show 1 ≤ c by omega)]
    subst hav
    clear hv hl hcc hc hc2
    go_enter Tryd.func6, Tryd.ntmps6
    go_wp2_with fail
    refine (H1.out _).mono ?_
    rintro e w1 ⟨rfl, hw⟩
    obtain rfl := hw.symm
    go_wp2_with fail
    go_ret2
    exact ⟨_, rfl, IN.OM.nil _ _, Below.refl _ _⟩
set_option maxRecDepth 100000 in
set_option maxHeartbeats 1000000 in
theorem told_any (b : Int × Int) (w : World) (h0 : 0 ≤ b.1) (h1 : b.1 ≤ 24) (h2 : b.1 ≠ 11 ∧ b.1 ≠ 24) (hE : ErrType w) :
    Calls Tryd.prog 7 #[erV b, .int .i64 b.1, .int .i64 0, .int .i64 b.2] w fun e w' => e = .returned (.bool true) ∧ Below w.heap.size w w' := by
  obtain ⟨no, k⟩ := b
  dsimp only at h0 h1 h2 ⊢
  by_cases hc : no = 10
  · subst hc
    have HA := hide (at_fault 10 0 k w (by omega) (by omega) hE)
    rw [show erV (10, k) = ltV 10 k from if_pos rfl]
    unfold fltV at HA
    unfold ltV
    have e1 : ((10 : Int) == 10) = true := by decide
    clear h0 h1 h2 hE
    go_enter Tryd.func7, Tryd.ntmps7
    go_wp2_with fail
    refine HA.out.mono ?_
    rintro e w1 ⟨rfl, hb⟩
    have HB := hide hb
    clear hb
    go_wp2_with fail
    go_ret
    exact ⟨rfl, HB.out⟩
  · have HA := hide (plain_errV no no w h0 h1 hE)
    rw [show (no == no) = true by simp] at HA
    rw [show erV (no, k) = errV no from if_neg hc]
    have e1 : (no == 10) = false := by rw [beq_eq_false_iff_ne]; exact hc
    have e2 : (no == 11) = false := by rw [beq_eq_false_iff_ne]; exact h2.1
    have e3 : (no == 24) = false := by rw [beq_eq_false_iff_ne]; exact h2.2
    generalize errV no = ev at *
    clear h0 h1 h2 hE hc
    go_enter Tryd.func7, Tryd.ntmps7
    go_wp2_with fail
    refine HA.out.mono ?_
    rintro e w1 ⟨rfl, hb⟩
    have HB := hide hb
    clear hb
    go_wp2_with fail
    go_ret
    exact ⟨rfl, HB.out⟩
end Go.Proofs.YtmgjonifoeeemaaDoor
