/-
  My own text: the law that a message is read back from its text.
-/
import Derived.Test.YthlkplhgohegbaaTB5
import Derived.Test.YthlkplhgohegbaaTB6
import Derived.Test.YthlkplhgohegbaaQW
namespace Go.Proofs.Ythlkplhgohegbaa
open Go.RowKit

set_option maxRecDepth 100000 in
theorem message_any (l : List Tr) (v : Value) (d : Nat) (w : World) (hD : wts l ≤ 1099511627776) (hd : d ≤ 8) (hv : RT w v l) :
    Calls Try.prog 4 #[v, .int .i64 (d : Int)] w fun e w' => (∃ a cap m, e = .returned (.slice a (m : List Tr).length cap) ∧ RT w' (.slice a m.length cap) m ∧ errL m d = 0 ∧ (txtL m).length ≤ 72000) ∧ Below w.heap.size w w' := by
  have B0 := hide ((Below.refl w.heap.size w).alloc (Nat.le_refl _) (.cells #[.int .i64 300] 3))
  have HT := hide (tidy_any w w.heap.size (Nat.le_refl _) (wts l) d l v 300 (w.alloc (.cells #[.int .i64 300] 3)) (Nat.le_refl _) hD (Nat.le_refl _) hd hv B0.out (alloc_new w _))
  obtain ⟨a, cap, rfl, hr⟩ := hv
  clear hr hD
  go_enter Try.func4, Try.ntmps4
  go_wp2_with fail
  refine HT.out.mono ?_
  rintro e w1 ⟨qa, qc, m, n', rfl, hpt, herr, hle, hbk, hlen, hcnt, hmv⟩
  have R1 := hide (PT_rt _ _ _ (Nat.le_refl _) hpt)
  have E1 := hide herr
  have L1 : Hid ((txtL m).length ≤ 72000) := hide (by omega)
  have B1 := hide (Mv.below B0.out hmv (by simp) (Nat.le_refl _) (Nat.le_refl _))
  clear hpt herr hle hbk hlen hcnt hmv HT
  go_wp2_with fail
  go_ret
  exact ⟨⟨qa, qc, m, rfl, R1.out, E1.out, L1.out⟩, B1.out⟩
set_option maxRecDepth 100000 in
set_option maxHeartbeats 4000000 in
theorem back_law (l : List Tr) (v : Value) (w : World) (hD : wts l ≤ 1099511627776) (hv : RT w v l) (hm : ML w) :
    Calls Try.prog 3 #[v] w fun e w' => e = .returned (.bool true) ∧ Below w.heap.size w w' := by
  have HM := hide hm
  have HMS : Hid (Calls Try.prog 4 #[v, .int .i64 0] w fun e w' => (∃ a cap m, e = .returned (.slice a (m : List Tr).length cap) ∧ RT w' (.slice a m.length cap) m ∧ errL m (0 : Nat) = 0 ∧ (txtL m).length ≤ 72000) ∧ Below w.heap.size w w') := hide (message_any l v 0 w hD (by omega) hv)
  have HW := hide (fun (W : World) (h : ML W) => works_any W h)
  obtain ⟨a0, cap0, rfl, hr⟩ := hv
  clear hr hD hm
  go_enter Try.func3, Try.ntmps3
  go_wp2_with fail
  refine HMS.out.mono ?_
  rintro e w1 ⟨⟨a, cap, m, rfl, hrt, herr, hlen⟩, hb1⟩
  have herr0 : errL m 0 = 0 := herr
  have hwm := wts_txt (wts m) m 0 (Nat.le_refl _) herr0
  have hpe : prE m = 0 := by unfold prE; rw [herr0]; simp; omega
  have hpt : prT m = txtL m := by unfold prT; rw [hpe]; rfl
  obtain ⟨n', b', hrd⟩ := rdT_back m herr0
  have R1 := hide hrt
  have B1 := hide hb1
  have HPR := hide (tPrint_any m (.slice a m.length cap) w1 (by omega) hrt)
  rw [hpe, hpt, errV_zero] at HPR
  have HPA := hide (fun (W : World) (h : ML W) => parse_ok (txtL m) m W (by omega) (readsOk (by omega) hrd) h)
  have HSM := hide (fun (va vb : Value) (W : World) (h1 : RT W va m) (h2 : RT W vb m) => sameItems_all (wts m) m m va vb W (Nat.le_refl _) (by omega) h1 h2)
  rw [eqL_refl] at HSM
  have HCT := hide (fun (va : Value) (W : World) (h1 : RT W va m) => count_any (wts m) m va W (Nat.le_refl _) (by omega) h1)
  have HFL := hide (fun (va : Value) (W : World) (h1 : RT W va m) => fields_any (wts m) m va W (Nat.le_refl _) (by omega) h1)
  rw [flL_cnt (wts m) m 0 (Nat.le_refl _) herr0] at HFL
  obtain ⟨cn, HCN⟩ : ∃ cn, Hid (cntL m = cn) := ⟨_, hide rfl⟩
  rw [HCN.out] at HCT HFL
  obtain ⟨T, HTE⟩ : ∃ T, Hid (txtL m = T) := ⟨_, hide rfl⟩
  rw [HTE.out] at HPR HPA
  clear hrt herr hlen hb1 herr0 hwm hpe hpt hrd HMS
  go_wp2_with fail
  refine HPR.out.mono ?_
  rintro e w2 ⟨rfl, hb2⟩
  have B2 := hide (B1.out.trans (hb2.mono B1.out.size))
  have R2 := hide (RT_later R1.out hb2)
  clear hb2 HPR
  go_wp2_with fail
  refine (HPA.out w2 (HM.out.later B2.out)).mono ?_
  rintro e w3 ⟨⟨qa, qc, rfl, hpt⟩, hb3⟩
  have B3 := hide (B2.out.trans (hb3.mono B2.out.size))
  have R3 := hide (RT_later R2.out hb3)
  have M3 := hide (PT_rt _ _ _ (Nat.le_refl _) hpt)
  clear hb3 hpt HPA
  go_wp2_with fail
  refine (HSM.out _ _ w3 M3.out R3.out).mono ?_
  rintro e w4 ⟨rfl, hb4⟩
  have B4 := hide (B3.out.trans (hb4.mono B3.out.size))
  have R4 := hide (RT_later R3.out hb4)
  have M4 := hide (RT_later M3.out hb4)
  clear hb4 HSM
  go_wp2_with fail
  refine (HCT.out _ w4 M4.out).mono ?_
  rintro e w5 ⟨rfl, hb5⟩
  have B5 := hide (B4.out.trans (hb5.mono B4.out.size))
  have R5 := hide (RT_later R4.out hb5)
  clear hb5 HCT
  go_wp2_with fail
  refine (HFL.out _ w5 R5.out).mono ?_
  rintro e w6 ⟨rfl, hb6⟩
  have B6 := hide (B5.out.trans (hb6.mono B5.out.size))
  clear hb6 HFL
  go_wp2_with fail
  refine (HW.out w6 (HM.out.later B6.out)).mono ?_
  rintro e w7 ⟨rfl, hb7⟩
  have B7 := hide (B6.out.trans (hb7.mono B6.out.size))
  clear hb7
  go_wp2_with fail
  go_ret
  exact ⟨rfl, B7.out⟩
end Go.Proofs.Ythlkplhgohegbaa
