/-
  My own text: layer 23: the document's names, size, lost, groups, Groups.
-/
import Derived.Test.YtieinnhiaomliaaDoorLK3
import Derived.Test.YtieinnhiaomliaaDoorQIL
import Derived.Test.YtieinnhiaomliaaDoorLO3
namespace Go.Proofs.YtieinnhiaomliaaDoor
open Go.RowKit

set_option maxRecDepth 100000 in
theorem rnames_any (n a b : Int) (w : World) :
    Calls Tryd.prog 29 #[.int .i64 n, .agg #[.int .i64 a, .int .i64 b]] w fun e w' => e = .returned (.bool (namB n (a, b))) ∧ Below w.heap.size w w' := by
  have B0 := hide ((Below.refl w.heap.size w).alloc (Nat.le_refl _) (.cells #[.int .i64 a, .int .i64 b] 52))
  have N1 := alloc_new w (.cells #[.int .i64 a, .int .i64 b] 52)
  obtain ⟨d0, d1⟩ := TW.cellsA N1 rfl
  clear N1
  have HB : Hid (∀ r : Bool, (r = true ↔ (0 ≤ a ∧ 0 ≤ b) ∧ (a < n ∧ b < n)) → namB n (a, b) = r) := hide (fun r hr => by
    rw [Bool.eq_iff_iff, namB_iff, hr])
  go_enter Tryd.func29, Tryd.ntmps29
  by_cases h1 : 0 ≤ a
  · have e1 := decide_eq_true h1
    by_cases h2 : a < n
    · have e2 := decide_eq_true h2
      by_cases h3 : 0 ≤ b
      · have e3 := decide_eq_true h3
        by_cases h4 : b < n
        · have e4 := decide_eq_true h4
          have HR := hide (HB.out true (by constructor <;> intro _ <;> first | rfl | omega))
          clear h1 h2 h3 h4
          go_wp2_with fail
          go_ret
          exact ⟨ret_b HR.out.symm, B0.out⟩
        · have e4 := decide_eq_false h4
          have HR := hide (HB.out false (by constructor <;> intro _ <;> first | (exfalso; omega) | (rename_i q; cases q)))
          clear h1 h2 h3 h4
          go_wp2_with fail
          go_ret
          exact ⟨ret_b HR.out.symm, B0.out⟩
      · have e3 := decide_eq_false h3
        have HR := hide (HB.out false (by constructor <;> intro _ <;> first | (exfalso; omega) | (rename_i q; cases q)))
        clear h1 h2 h3
        go_wp2_with fail
        go_ret
        exact ⟨ret_b HR.out.symm, B0.out⟩
    · have e2 := decide_eq_false h2
      have HR := hide (HB.out false (by constructor <;> intro _ <;> first | (exfalso; omega) | (rename_i q; cases q)))
      clear h1 h2
      go_wp2_with fail
      go_ret
      exact ⟨ret_b HR.out.symm, B0.out⟩
  · have e1 := decide_eq_false h1
    have HR := hide (HB.out false (by constructor <;> intro _ <;> first | (exfalso; omega) | (rename_i q; cases q)))
    clear h1
    go_wp2_with fail
    go_ret
    exact ⟨ret_b HR.out.symm, B0.out⟩
theorem rsize_any (n : Int) (w : World) :
    Calls Tryd.prog 14 #[.int .i64 n] w fun e w' => e = .returned (.int .i64 (cntE n)) ∧ w' = w := by
  by_cases h : n < 0
  · rw [show cntE n = 1 from if_pos h]
    go_enter Tryd.func14, Tryd.ntmps14
    go_wp2_with fail
    go_ret
    exact ⟨rfl, rfl⟩
  · by_cases h2 : n > 4096
    · rw [show cntE n = 5 by unfold cntE; rw [if_neg h, if_pos h2]]
      go_enter Tryd.func14, Tryd.ntmps14
      go_wp2_with fail
      go_ret
      exact ⟨rfl, rfl⟩
    · rw [show cntE n = 0 by unfold cntE; rw [if_neg h, if_neg h2]]
      go_enter Tryd.func14, Tryd.ntmps14
      go_wp2_with fail
      go_ret
      exact ⟨rfl, rfl⟩
def lostI (n : Int) (L : List (Int × Int)) : Int := match lostP n L with | none => -1 | some k => (k : Int)
set_option maxRecDepth 100000 in
set_option maxHeartbeats 1000000 in
theorem rlost_any (n : Int) (v : Value) (L : List (Int × Int)) (w : World) (hv : TW.RM w v L) (hl : L.length ≤ 8796093022200) :
    Calls Tryd.prog 15 #[.int .i64 n, v] w fun e w' => e = .returned (.int .i64 (lostI n L)) ∧ Below w.heap.size w w' := by
  obtain ⟨a, cap, rfl, _, hr⟩ := hv
  have HR := hide hr
  have HL := hide hl
  have HNA := hide (fun x y W => rnames_any n x y W)
  clear hr hl
  go_enter Tryd.func15, Tryd.ntmps15
  go_wp2_with fail
  go_loopw [5] (fun i wr => ∃ k : Nat, k ≤ L.length ∧ i = .int .i64 (k : Int) ∧ Hid (∀ (j : Nat) (p : Int × Int), j < k → L[j]? = some p → namB n p = true) ∧ Hid (Below w.heap.size w wr)) (fun i _ => L.length - (intOf i).toNat)
  case atStart => exact ⟨0, Nat.zero_le _, rfl, hide (fun j p hj => by omega), hide (Below.refl _ _)⟩
  case round =>
    obtain ⟨k, hk, rfl, HI, HW⟩ := hrel
    by_cases hlt : k < L.length
    · obtain ⟨⟨q0, q1⟩, hp⟩ : ∃ p, L[k]? = some p := ⟨_, List.getElem?_eq_getElem hlt⟩
      obtain ⟨b, off, rfl, hgl, hc⟩ := HR.out.resolve_left (fun h => by rw [h] at hlt; simp at hlt)
      have z0 : wr.cell? ⟨b, off + k * 2, none⟩ = some (.int .i64 q0) := (HW.out.cell (p := ⟨b, _, none⟩) hgl).trans (hc k _ hp).1
      have z1 : wr.cell? ⟨b, off + k * 2 + 1, none⟩ = some (.int .i64 q1) := (HW.out.cell (p := ⟨b, _, none⟩) hgl).trans (hc k _ hp).2
      have z1' : wr.cell? ⟨b, off + (k * 2 + 1), none⟩ = some (.int .i64 q1) := z1
      have hd1 : decide ((k : Int) < (L.length : Int)) = true := by rw [decide_eq_true_eq]; omega
      have hd1' : decide (k < L.length) = true := decide_eq_true hlt
      have k0 : (0 : Int) ≤ (k : Int) := by omega
      have k1 : (k : Int) < (L.length : Int) := by omega
      have wk : wrap64 ((k : Int) + 1) = (k : Int) + 1 := by have := HL.out; unfold wrap64; omega
      have HP := hide hp
      clear hp hc
      cases hE : namB n (q0, q1) with
      | true =>
        have HX := hide (fun W => HNA.out q0 q1 W)
        rw [hE] at HX
        go_wp2_with fail
        refine (HX.out _).mono ?_
        rintro e w1 ⟨rfl, hb⟩
        have HW2 := hide (HW.out.trans (hb.mono HW.out.size))
        clear hb
        go_wp2_with fail
        go_roundw
        case rel =>
          refine ⟨k + 1, hlt, iv_succ wk, hide (fun j p hj hp => ?_), HW2⟩
          by_cases e : j = k
          · subst e; rw [HP.out] at hp; cases hp; exact hE
          · exact HI.out j p (by omega) hp
        case measure => exact meas_j wk hlt
      | false =>
        have HX := hide (fun W => HNA.out q0 q1 W)
        rw [hE] at HX
        have HF : Hid (lostI n L = (k : Int)) := hide (by unfold lostI; rw [lost_some HI.out HP.out hE])
        go_wp2_with fail
        refine (HX.out _).mono ?_
        rintro e w1 ⟨rfl, hb⟩
        have HW2 := hide (HW.out.trans (hb.mono HW.out.size))
        clear hb
        go_wp2_with fail
        go_ret
        exact ⟨ret_i HF.out.symm, HW2.out⟩
    · have e : k = L.length := by omega
      subst e
      have hd1 : decide ((L.length : Int) < (L.length : Int)) = false := by simp
      have hd1' : decide (L.length < L.length) = false := by simp
      have HF : Hid (lostI n L = -1) := hide (by unfold lostI; rw [lost_none (fun j p hp => HI.out j p (List.getElem?_eq_some_iff.1 hp).1 hp)])
      go_wp2_with fail
      go_ret
      exact ⟨ret_i HF.out.symm, HW.out⟩
end Go.Proofs.YtieinnhiaomliaaDoor
