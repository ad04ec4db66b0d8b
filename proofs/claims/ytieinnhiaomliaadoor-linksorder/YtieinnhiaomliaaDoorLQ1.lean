/-
  My own text: layer 23: what Order answers.
-/
import Derived.Test.YtieinnhiaomliaaDoorLW1
import Derived.Test.YtieinnhiaomliaaDoorBE1
namespace Go.Proofs.YtieinnhiaomliaaDoor
open Go.RowKit

def erV (b : Int × Int) : Value := if b.1 = 10 then ltV 10 b.2 else errV b.1
theorem cntE_is (n : Int) : cntE n = 0 ∨ cntE n = 1 ∨ cntE n = 5 := by unfold cntE; split; simp; split <;> simp
theorem cntE_zero {n : Int} : cntE n = 0 ↔ 0 ≤ n ∧ n ≤ 4096 := by
  unfold cntE
  split
  · constructor <;> intro h <;> omega
  · split
    · constructor <;> intro h <;> omega
    · constructor <;> intro h <;> first | rfl | omega
theorem lost_all {n : Int} {L : List (Int × Int)} (h : lostP n L = none) : ∀ (j : Nat) (p : Int × Int), L[j]? = some p → namB n p = true := by
  intro j p hj
  unfold lostP at h
  rw [List.findIdx?_eq_none_iff] at h
  have := h p (List.mem_of_getElem? hj)
  simpa using this
/-- What is wrong ahead of the order: its number, its place. -/
def badO (n : Int) (m : Nat) (L : List (Int × Int)) : Int × Int :=
  if cntE n = 0 then (if (m : Int) < n then (2, 0) else if n < (m : Int) then (3, 0) else (match lostP n L with | none => (0, 0) | some k => (10, (k : Int)))) else (cntE n, 0)
/-- The priorities of a row. -/
def prL (P : List Int) : Nat → Int := fun x => P.getD x 0
/-- The answer's row and what is wrong. -/
structure AnsO (n : Int) (P : List Int) (L : List (Int × Int)) (l : List Nat) (b : Int × Int) : Prop where
  bad : (badO n P.length L).1 ≠ 0 → l = [] ∧ b = badO n P.length L
  good : (badO n P.length L).1 = 0 → ∃ row : List Nat, Gr' n.toNat (pn L) (prL P) row ∧ (∀ y, ¬ Av n.toNat (pn L) row y) ∧ (row.length = n.toNat → l = row ∧ b = (0, 0)) ∧ (row.length ≠ n.toNat → l = [] ∧ b = (12, 0))
theorem AnsO.uniq {n : Int} {P : List Int} {L : List (Int × Int)} {l l' : List Nat} {b b' : Int × Int} (h : AnsO n P L l b) (k : AnsO n P L l' b') : l = l' ∧ b = b' := by
  by_cases e : (badO n P.length L).1 = 0
  · obtain ⟨r, a1, a2, a3, a4⟩ := h.good e
    obtain ⟨r', c1, c2, c3, c4⟩ := k.good e
    have hr := Gr'.uniq a1 c1 a2 c2
    subst hr
    by_cases q : r.length = n.toNat
    · exact ⟨(a3 q).1.trans (c3 q).1.symm, (a3 q).2.trans (c3 q).2.symm⟩
    · exact ⟨(a4 q).1.trans (c4 q).1.symm, (a4 q).2.trans (c4 q).2.symm⟩
  · exact ⟨(h.bad e).1.trans (k.bad e).1.symm, (h.bad e).2.trans (k.bad e).2.symm⟩
theorem AnsO.of_bad {n : Int} {P : List Int} {L : List (Int × Int)} {b : Int × Int} (h : badO n P.length L = b) (hb : b.1 ≠ 0) : AnsO n P L [] b := ⟨fun _ => ⟨rfl, h.symm⟩, fun e => absurd (by rw [← h]; exact e) hb⟩
theorem pb_row {w : World} {v : Value} {P : List Int} {n : Nat} (h : IN.RM w v P) (hn : P.length = n) : PB w v n (prL P) := by
  obtain ⟨g, a, cap, hv, hc, hr⟩ := h
  rw [hn] at hv hc
  refine ⟨a, cap, hv, hc, fun x hx => ?_⟩
  have hxl : x < P.length := by omega
  have hgx : P[x]? = some (prL P x) := by unfold prL; rw [List.getD_eq_getElem?_getD, List.getElem?_eq_getElem hxl]; rfl
  rcases hr with hr | ⟨off, ha, hg, hr⟩
  · exfalso
    have : P.length = 0 := by simp_all
    omega
  · exact ⟨g, off, ha, hg, hr _ _ hgx⟩
set_option maxRecDepth 100000 in
set_option maxHeartbeats 2000000 in
theorem Order_any (n : Int) (v p : Value) (L : List (Int × Int)) (P : List Int) (w : World) (hv : TW.RM w v L) (hp : IN.RM w p P) (hl : L.length ≤ 8796093022200) (hso : ∀ k, k ≤ 4096 → SortOk k) :
    Calls Tryd.prog 7 #[.int .i64 n, v, p] w fun e w' => ∃ (v' : Value) (l : List Nat) (b : Int × Int), e = .returned (.tuple #[v', erV b]) ∧ AnsO n P L l b ∧ IN.OM w' w.heap.size v' (ni l) ∧ Below w.heap.size w w' := by
  have H1 := hide (checkCount_any n)
  have H2 := hide (checkPairs_any n v L w hv hl)
  obtain ⟨a, cap, hav⟩ := TW.rm_lt hv
  obtain ⟨pa, pcap, hpv⟩ := IN.rm_lt hp
  by_cases hc : cntE n = 0
  · obtain ⟨hn0, hn1⟩ := cntE_zero.1 hc
    by_cases h1 : (P.length : Int) < n
    · have HA : Hid (AnsO n P L [] (2, 0)) := hide (AnsO.of_bad (by unfold badO; rw [if_pos hc, if_pos h1]) (show ¬ (2 : Int) = 0 by decide))
      rw [hc, errV_zero] at H1
      subst hav
      subst hpv
      have d1 : decide ((P.length : Int) < n) = true := decide_eq_true h1
      clear hv hp hl hc hn0 hn1
      go_enter Tryd.func7, Tryd.ntmps7
      go_wp2_with fail
      refine (H1.out _).mono ?_
      rintro e w1 ⟨rfl, hw⟩
      obtain rfl := hw.symm
      go_wp2_with fail
      go_ret2
      exact ⟨_, [], (2, 0), rfl, HA.out, IN.OM.nil _ _, Below.refl _ _⟩
    · by_cases h2 : n < (P.length : Int)
      · have HA : Hid (AnsO n P L [] (3, 0)) := hide (AnsO.of_bad (by unfold badO; rw [if_pos hc, if_neg h1, if_pos h2]) (show ¬ (3 : Int) = 0 by decide))
        rw [hc, errV_zero] at H1
        subst hav
        subst hpv
        have d1 : decide ((P.length : Int) < n) = false := decide_eq_false h1
        have d2 : decide (n < (P.length : Int)) = true := decide_eq_true h2
        clear hv hp hl hc hn0 hn1
        go_enter Tryd.func7, Tryd.ntmps7
        go_wp2_with fail
        refine (H1.out _).mono ?_
        rintro e w1 ⟨rfl, hw⟩
        obtain rfl := hw.symm
        go_wp2_with fail
        go_ret2
        exact ⟨_, [], (3, 0), rfl, HA.out, IN.OM.nil _ _, Below.refl _ _⟩
      · have hnn : ((n.toNat : Nat) : Int) = n := by omega
        have hpl : P.length = n.toNat := by omega
        cases hq : lostP n L with
        | none =>
          have HB : badO n P.length L = (0, 0) := by unfold badO; rw [if_pos hc, if_neg h1, if_neg h2, hq]
          have h := orderOk_any n.toNat v p L (prL P) w hv hl (by omega) (by rw [hnn]; exact lost_all hq) (pb_row hp hpl) (hso _ (by omega))
          rw [hnn] at h
          refine h.mono fun e w' hh => ?_
          obtain ⟨row, vr, he, hO, hG, hA, hb⟩ := hh
          by_cases hr : row.length = n.toNat
          · refine ⟨vr, row, (0, 0), ?_, ⟨fun q => absurd (by rw [HB]) q, fun _ => ⟨row, hG, hA, fun _ => ⟨rfl, rfl⟩, fun q => absurd hr q⟩⟩, hO, hb⟩
            rw [he]
            unfold ordV
            rw [if_pos hr]
            rfl
          · refine ⟨_, [], (12, 0), ?_, ⟨fun q => absurd (by rw [HB]) q, fun _ => ⟨row, hG, hA, fun q => absurd q hr, fun _ => ⟨rfl, rfl⟩⟩⟩, IN.OM.nil _ _, hb⟩
            rw [he]
            unfold ordV
            rw [if_neg hr]
            rfl
        | some k =>
          have HA : Hid (AnsO n P L [] (10, (k : Int))) := hide (AnsO.of_bad (by unfold badO; rw [if_pos hc, if_neg h1, if_neg h2, hq]) (show ¬ (10 : Int) = 0 by decide))
          rw [hc, errV_zero] at H1
          rw [show lostV n L = ltV 10 (k : Int) by unfold lostV; rw [hq]] at H2
          have HE : Hid (erV (10, (k : Int)) = ltV 10 (k : Int)) := hide (if_pos rfl)
          unfold ltV at H2 HE
          subst hav
          subst hpv
          have d1 : decide ((P.length : Int) < n) = false := decide_eq_false h1
          have d2 : decide (n < (P.length : Int)) = false := decide_eq_false h2
          clear hv hp hl hc hq hn0 hn1 hnn hpl
          go_enter Tryd.func7, Tryd.ntmps7
          go_wp2_with fail
          refine (H1.out _).mono ?_
          rintro e w1 ⟨rfl, hw⟩
          obtain rfl := hw.symm
          go_wp2_with fail
          refine H2.out.mono ?_
          rintro e w2 ⟨rfl, hb⟩
          have HB2 := hide hb
          clear hb
          go_wp2_with fail
          go_ret2
          exact ⟨.slice none 0 0, [], (10, (k : Int)), by rw [HE.out]; rfl, HA.out, IN.OM.nil _ _, HB2.out⟩
  · have hc2 := cntE_is n
    have HA : Hid (AnsO n P L [] (cntE n, 0)) := hide (AnsO.of_bad (by unfold badO; rw [if_neg hc]) hc)
    obtain ⟨c, hcc⟩ : ∃ c, cntE n = c := ⟨_, rfl⟩
    rw [hcc] at H1 hc hc2 HA
    rw [errV_pos (show 1 ≤ c by omega)] at H1
    have HE : Hid (erV (c, 0) = .iface 44 (.int .i64 c)) := hide (by unfold erV; rw [if_neg (show ¬ c = 10 by omega)]; exact errV_pos (show 1 ≤ c by omega))
    subst hav
    subst hpv
    clear hv hp hl hcc hc hc2
    go_enter Tryd.func7, Tryd.ntmps7
    go_wp2_with fail
    refine (H1.out _).mono ?_
    rintro e w1 ⟨rfl, hw⟩
    obtain rfl := hw.symm
    go_wp2_with fail
    go_ret2
    exact ⟨.slice none 0 0, [], (c, 0), by rw [HE.out]; rfl, HA.out, IN.OM.nil _ _, Below.refl _ _⟩
end Go.Proofs.YtieinnhiaomliaaDoor
