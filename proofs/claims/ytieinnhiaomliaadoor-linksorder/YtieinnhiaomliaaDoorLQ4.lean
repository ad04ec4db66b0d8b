/-
  My own text: layer 23: what the document's Order answers; told.
-/
import Derived.Test.YtieinnhiaomliaaDoorLQ3
namespace Go.Proofs.YtieinnhiaomliaaDoor
open Go.RowKit

theorem badO_rng (n : Int) (m : Nat) (L : List (Int × Int)) : 0 ≤ (badO n m L).1 ∧ (badO n m L).1 ≤ 24 ∧ ((badO n m L).1 ≠ 11 ∧ (badO n m L).1 ≠ 24) := by
  unfold badO
  rcases cntE_is n with h | h | h
  · rw [if_pos h]
    split
    · simp
    · split
      · simp
      · split <;> simp
  · rw [if_neg (by omega), h]; simp
  · rw [if_neg (by omega), h]; simp
theorem AnsO.rng {n : Int} {P : List Int} {L : List (Int × Int)} {l : List Nat} {b : Int × Int} (h : AnsO n P L l b) : 0 ≤ b.1 ∧ b.1 ≤ 24 ∧ (b.1 ≠ 11 ∧ b.1 ≠ 24) := by
  by_cases e : (badO n P.length L).1 = 0
  · obtain ⟨row, _, _, h3, h4⟩ := h.good e
    by_cases q : row.length = n.toNat
    · rw [(h3 q).2]; simp
    · rw [(h4 q).2]; simp
  · rw [(h.bad e).2]; exact badO_rng n P.length L
theorem AnsO.le {n : Int} {P : List Int} {L : List (Int × Int)} {l : List Nat} {b : Int × Int} (h : AnsO n P L l b) : l.length ≤ 4096 := by
  by_cases e : (badO n P.length L).1 = 0
  · obtain ⟨row, hG, _, h3, h4⟩ := h.good e
    have hn : 0 ≤ n ∧ n ≤ 4096 := by
      unfold badO at e
      by_cases c : cntE n = 0
      · exact cntE_zero.1 c
      · rw [if_neg c] at e; exact absurd e c
    by_cases q : row.length = n.toNat
    · rw [(h3 q).1]; have := hG.len_le; omega
    · rw [(h4 q).1]; simp
  · rw [(h.bad e).1]; simp
set_option maxRecDepth 100000 in
set_option maxHeartbeats 4000000 in
theorem rOrder_any (n : Int) (v p : Value) (L : List (Int × Int)) (P : List Int) (w : World) (hv : TW.RM w v L) (hp : IN.RM w p P) (hl : L.length ≤ 8796093022200) :
    Calls Tryd.prog 4 #[.int .i64 n, v, p] w fun e w' => ∃ (v' : Value) (l : List Nat) (b : Int × Int), e = .returned (.tuple #[v', .int .i64 b.1, .int .i64 b.2]) ∧ AnsO n P L l b ∧ IN.OM w' w.heap.size v' (ni l) ∧ Below w.heap.size w w' := by
  have H1 := hide (rsize_any n)
  have H2 := hide (rlost_any n v L w hv hl)
  obtain ⟨a, cap, hav⟩ := TW.rm_lt hv
  obtain ⟨pa, pcap, hpv⟩ := IN.rm_lt hp
  by_cases hc : cntE n = 0
  · obtain ⟨hn0, hn1⟩ := cntE_zero.1 hc
    rw [hc] at H1
    by_cases h1 : (P.length : Int) < n
    · have HA : Hid (AnsO n P L [] (2, 0)) := hide (AnsO.of_bad (by unfold badO; rw [if_pos hc, if_pos h1]) (show ¬ (2 : Int) = 0 by decide))
      subst hav
      subst hpv
      have d1 : decide ((P.length : Int) < n) = true := decide_eq_true h1
      clear hv hp hl hc hn0 hn1
      go_enter Tryd.func4, Tryd.ntmps4
      go_wp2_with fail
      refine (H1.out _).mono ?_
      rintro e w1 ⟨rfl, hw⟩
      obtain rfl := hw.symm
      go_wp2_with fail
      go_ret3
      exact ⟨_, [], (2, 0), rfl, HA.out, IN.OM.nil _ _, Below.refl _ _⟩
    · by_cases h2 : n < (P.length : Int)
      · have HA : Hid (AnsO n P L [] (3, 0)) := hide (AnsO.of_bad (by unfold badO; rw [if_pos hc, if_neg h1, if_pos h2]) (show ¬ (3 : Int) = 0 by decide))
        subst hav
        subst hpv
        have d1 : decide ((P.length : Int) < n) = false := decide_eq_false h1
        have d2 : decide (n < (P.length : Int)) = true := decide_eq_true h2
        clear hv hp hl hc hn0 hn1
        go_enter Tryd.func4, Tryd.ntmps4
        go_wp2_with fail
        refine (H1.out _).mono ?_
        rintro e w1 ⟨rfl, hw⟩
        obtain rfl := hw.symm
        go_wp2_with fail
        go_ret3
        exact ⟨_, [], (3, 0), rfl, HA.out, IN.OM.nil _ _, Below.refl _ _⟩
      · have hnn : ((n.toNat : Nat) : Int) = n := by omega
        have hpl : P.length = n.toNat := by omega
        cases hq : lostP n L with
        | none =>
          have HB : Hid (badO n P.length L = (0, 0)) := hide (by unfold badO; rw [if_pos hc, if_neg h1, if_neg h2, hq])
          have hl2 : lostI n L = -1 := by unfold lostI; rw [hq]
          rw [hl2] at H2
          have H3 := hide (fun W (hb : Below w.heap.size w W) => rorder_any n.toNat v p L (prL P) W (hv.later hb) hl (by omega) (by rw [hnn]; exact lost_all hq) (pb_row (hp.later hb) hpl))
          rw [hnn] at H3
          subst hav
          subst hpv
          have d1 : decide ((P.length : Int) < n) = false := decide_eq_false h1
          have d2 : decide (n < (P.length : Int)) = false := decide_eq_false h2
          clear hv hp hl hc hq hl2 hnn hn0 hn1 hpl
          go_enter Tryd.func4, Tryd.ntmps4
          go_wp2_with fail
          refine (H1.out _).mono ?_
          rintro e w1 ⟨rfl, hw⟩
          obtain rfl := hw.symm
          go_wp2_with fail
          refine H2.out.mono ?_
          rintro e w2 ⟨rfl, hb⟩
          have HB2 := hide hb
          clear hb
          go_wp2_with fail
          refine (H3.out _ HB2.out).mono ?_
          rintro e w3 ⟨v', okv, l, rfl, hR, hO, hb3⟩
          obtain ⟨⟨row, hG, hA, rfl, rfl⟩⟩ := hR
          have HO : Hid (IN.OM w3 w.heap.size v' (ni (if row.length = n.toNat then row else []))) := hide (IN.OM.base hO (fun g hg => by have := (World.ownsRow.lt hO g hg).1; have := HB2.out.size; omega))
          have HB3 := hide (HB2.out.trans (hb3.mono HB2.out.size))
          clear hO hb3 H1 H2 H3
          by_cases q : row.length = n.toNat
          · rw [if_pos q] at HO
            have HA : Hid (AnsO n P L row (0, 0)) := hide ⟨fun e => absurd (by rw [HB.out]) e, fun _ => ⟨row, hG, hA, fun _ => ⟨rfl, rfl⟩, fun e => absurd q e⟩⟩
            rw [decide_eq_true q]
            clear q hG hA HB
            go_wp2_with fail
            go_ret3
            exact ⟨v', row, (0, 0), rfl, HA.out, HO.out, HB3.out⟩
          · have HA : Hid (AnsO n P L [] (12, 0)) := hide ⟨fun e => absurd (by rw [HB.out]) e, fun _ => ⟨row, hG, hA, fun e => absurd e q, fun _ => ⟨rfl, rfl⟩⟩⟩
            rw [decide_eq_false q]
            clear q hG hA HB HO
            go_wp2_with fail
            go_ret3
            exact ⟨_, [], (12, 0), rfl, HA.out, IN.OM.nil _ _, HB3.out⟩
        | some k =>
          have HA : Hid (AnsO n P L [] (10, (k : Int))) := hide (AnsO.of_bad (by unfold badO; rw [if_pos hc, if_neg h1, if_neg h2, hq]) (show ¬ (10 : Int) = 0 by decide))
          have hl2 : lostI n L = (k : Int) := by unfold lostI; rw [hq]
          rw [hl2] at H2
          subst hav
          subst hpv
          have d1 : decide ((P.length : Int) < n) = false := decide_eq_false h1
          have d2 : decide (n < (P.length : Int)) = false := decide_eq_false h2
          have e1 : decide ((0 : Int) ≤ (k : Int)) = true := by rw [decide_eq_true_eq]; omega
          have e2 : (0 : Int) ≤ (k : Int) := by omega
          clear hv hp hl hc hq hl2 hn0 hn1 hnn hpl
          go_enter Tryd.func4, Tryd.ntmps4
          go_wp2_with fail
          refine (H1.out _).mono ?_
          rintro e w1 ⟨rfl, hw⟩
          obtain rfl := hw.symm
          go_wp2_with fail
          refine H2.out.mono ?_
          rintro e w2 ⟨rfl, hb⟩
          have HB2 := hide hb
          clear hb
          go_wp2_with fail
          go_ret3
          exact ⟨_, [], (10, (k : Int)), rfl, HA.out, IN.OM.nil _ _, HB2.out⟩
  · have HA : Hid (AnsO n P L [] (cntE n, 0)) := hide (AnsO.of_bad (by unfold badO; rw [if_neg hc]) hc)
    obtain ⟨c, hcc⟩ : ∃ c, cntE n = c := ⟨_, rfl⟩
    rw [hcc] at H1 hc HA
    subst hav
    subst hpv
    have hne : (c != 0) = true := by rw [bne_iff_ne]; exact hc
    clear hv hp hl hcc hc
    go_enter Tryd.func4, Tryd.ntmps4
    go_wp2_with fail
    refine (H1.out _).mono ?_
    rintro e w1 ⟨rfl, hw⟩
    obtain rfl := hw.symm
    go_wp2_with fail
    go_ret3
    exact ⟨_, [], (c, 0), rfl, HA.out, IN.OM.nil _ _, Below.refl _ _⟩
set_option maxRecDepth 100000 in
set_option maxHeartbeats 1000000 in
theorem told_any (b : Int × Int) (w : World) (h0 : 0 ≤ b.1) (h1 : b.1 ≤ 24) (h2 : b.1 ≠ 11 ∧ b.1 ≠ 24) (hE : ErrType w) :
    Calls Tryd.prog 8 #[erV b, .int .i64 b.1, .int .i64 0, .int .i64 b.2] w fun e w' => e = .returned (.bool true) ∧ Below w.heap.size w w' := by
  obtain ⟨no, k⟩ := b
  dsimp only at h0 h1 h2 ⊢
  by_cases hc : no = 10
  · subst hc
    have HA := hide (at_fault 10 0 k w (by omega) (by omega) hE)
    rw [show erV (10, k) = ltV 10 k from if_pos rfl]
    unfold fltV at HA
    unfold ltV
    have e1 : ((10 : Int) == 10) = true := by decide
    clear h0 h1 h2 hE
    go_enter Tryd.func8, Tryd.ntmps8
    go_wp2_with fail
    refine HA.out.mono ?_
    rintro e w1 ⟨rfl, hb⟩
    have HB := hide hb
    clear hb
    go_wp2_with fail
    go_ret
    exact ⟨rfl, HB.out⟩
  · have HA := hide (plain_errV no no w h0 h1 hE)
    rw [show (no == no) = true by simp] at HA
    rw [show erV (no, k) = errV no from if_neg hc]
    have e1 : (no == 10) = false := by rw [beq_eq_false_iff_ne]; exact hc
    have e2 : (no == 11) = false := by rw [beq_eq_false_iff_ne]; exact h2.1
    have e3 : (no == 24) = false := by rw [beq_eq_false_iff_ne]; exact h2.2
    generalize errV no = ev at *
    clear h0 h1 h2 hE hc
    go_enter Tryd.func8, Tryd.ntmps8
    go_wp2_with fail
    refine HA.out.mono ?_
    rintro e w1 ⟨rfl, hb⟩
    have HB := hide hb
    clear hb
    go_wp2_with fail
    go_ret
    exact ⟨rfl, HB.out⟩
end Go.Proofs.YtieinnhiaomliaaDoor
