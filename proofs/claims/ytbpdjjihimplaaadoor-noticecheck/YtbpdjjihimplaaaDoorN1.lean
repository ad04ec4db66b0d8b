/-
  My own text: notices: what is wrong with one, as functions; references, days and codes: the program's and the document's.
-/
import Derived.Test.YtbpdjjihimplaaaDoorD5
import Derived.Test.YtbpdjjihimplaaaDoorC10c
namespace Go.Proofs.YtbpdjjihimplaaaDoor
open Go.RowKit LC

/-- Is a text a reference? -/
def refB (l : List UInt8) : Bool := decide (l.length ≤ 16) && decide ((LC.formR l (LC.accF l)).1 = 0)
theorem refB_long {l : List UInt8} (h : 16 < l.length) : refB l = false := by unfold refB; rw [decide_eq_false (by omega)]; rfl
theorem refB_iff {l : List UInt8} (h : l.length ≤ 16) : refB l = decide ((LC.formR l (LC.accF l)).1 = 0) := by unfold refB; rw [decide_eq_true h]; rfl
theorem errF_nil {r : Int × Int} (h : r.1 = 0) : LC.errF r = .nilIface := by unfold LC.errF; rw [if_pos h]
set_option maxHeartbeats 1000000 in
theorem isRef_any (l : List UInt8) (w : World) (hl : l.length ≤ 140737488355328) :
    Calls Tryd.prog 24 #[.string ⟨l.toArray⟩] w fun e w' => e = .returned (.bool (refB l)) ∧ Below w.heap.size w w' := by
  by_cases h16 : l.length ≤ 16
  · have HA := hide (LC.account_any l w hl)
    rw [refB_iff h16]
    by_cases h0 : (LC.formR l (LC.accF l)).1 = 0
    · rw [decide_eq_true h0]
      rw [errF_nil h0] at HA
      clear h0
      go_enter Tryd.func24, Tryd.ntmps24
      go_wp2_with fail
      refine HA.out.mono ?_
      rintro e w1 ⟨rfl, hb1⟩
      go_wp2_with fail
      go_ret
      exact ⟨rfl, hb1⟩
    · rw [decide_eq_false h0]
      obtain ⟨t, u, he⟩ := LC.errF_iface h0
      rw [he] at HA
      clear h0 he
      go_enter Tryd.func24, Tryd.ntmps24
      go_wp2_with fail
      refine HA.out.mono ?_
      rintro e w1 ⟨rfl, hb1⟩
      go_wp2_with fail
      go_ret
      exact ⟨rfl, hb1⟩
  · rw [refB_long (by omega)]
    go_enter Tryd.func24, Tryd.ntmps24
    go_wp2_with fail
    go_ret
    exact ⟨rfl, Below.refl _ _⟩
set_option maxRecDepth 100000 in
set_option maxHeartbeats 1000000 in
theorem reference_any (l : List UInt8) (w : World) (hl : l.length ≤ 140737488355328) :
    Calls Tryd.prog 16 #[.string ⟨l.toArray⟩] w fun e w' => e = .returned (.bool (refB l)) ∧ Below w.heap.size w w' := by
  by_cases h0 : l.length < 1
  · have hb : refB l = false := by
      rw [refB_iff (by omega), LC.form_short (by unfold LC.accF; rw [List.length_replicate]; omega)]; rfl
    rw [hb]
    clear hb
    go_enter Tryd.func16, Tryd.ntmps16
    go_wp2_with fail
    go_ret
    exact ⟨rfl, Below.refl _ _⟩
  by_cases h16 : 16 < l.length
  · rw [refB_long h16]
    go_enter Tryd.func16, Tryd.ntmps16
    go_wp2_with fail
    go_ret
    exact ⟨rfl, Below.refl _ _⟩
  have HI := hide (refB_iff (l := l) (by omega))
  have HA : Hid (LC.accF l = List.replicate l.length 83) := by show LC.accF l = _; unfold LC.accF; congr 1; omega
  have HL : Hid (l.length = (LC.accF l).length) := by show _ = _; rw [HA.out, List.length_replicate]
  go_enter Tryd.func16, Tryd.ntmps16
  go_wp2_with fail
  go_loop [3] (fun i => ∃ k : Nat, k ≤ l.length ∧ i = .int .i64 k ∧ Hid (LC.Fits l (LC.accF l) k)) (fun i => l.length - (intOf i).toNat)
  case atStart => exact ⟨0, Nat.zero_le _, rfl, hide (LC.fits_zero _ _)⟩
  case round =>
    obtain ⟨k, hk, rfl, HF⟩ := hrel
    by_cases hlt : k < l.length
    · have hs1 : k < (⟨l.toArray⟩ : ByteArray).size := by rw [LC.bytes_size]; exact hlt
      obtain ⟨c, hc, Hc⟩ : ∃ c, (⟨l.toArray⟩ : ByteArray)[k]'hs1 = c ∧ Hid (l.getD k 0 = c) := ⟨_, rfl, by rw [LC.getD_at hlt]; exact hide rfl⟩
      have HP : Hid ((LC.accF l).getD k 0 = 83) := by show _ = _; rw [HA.out]; exact LC.acc_at hlt
      have HFB : Hid (LC.fitB c 83 = (LC.isDg c || LC.isCp c)) := hide (LC.fitB_s (by decide) (by decide))
      have HSG := hide (fun W : World => LC.refIsSign_any c W)
      cases hfit : (LC.isDg c || LC.isCp c)
      · have H := hide (LC.form_bad HL.out HF.out hlt (by rw [Hc.out, HP.out, HFB.out]; exact hfit))
        have HR : Hid (refB l = false) := by show _ = _; rw [HI.out, H.out]; rfl
        rw [hfit] at HSG
        clear hfit
        go_wp2_with fail
        refine (HSG.out _).mono ?_
        rintro e w' ⟨rfl, rfl⟩
        go_wp2_with fail
        go_ret
        exact ⟨LC.ret_b HR.out.symm, Below.refl _ _⟩
      · have H := hide (LC.fits_next HF.out (by rw [Hc.out, HP.out, HFB.out]; exact hfit))
        rw [hfit] at HSG
        clear hfit
        go_wp2_with fail
        refine (HSG.out _).mono ?_
        rintro e w' ⟨rfl, rfl⟩
        go_wp2_with fail
        go_round
        case rel => exact ⟨k + 1, by omega, by go_num, H⟩
        case measure => simp [intOf]; omega
    · have hk' : k = l.length := by omega
      subst hk'
      have HR : Hid (refB l = true) := by
        show _ = _
        rw [HI.out, LC.form_eq ⟨HL.out, HF.out⟩]; rfl
      go_wp2_with fail
      go_ret
      exact ⟨LC.ret_b HR.out.symm, Below.refl _ _⟩
set_option maxRecDepth 100000 in
set_option maxHeartbeats 1000000 in
theorem nIsDay_any (n : Int) (w : World) (HM : Hid (MDays w)) :
    Calls Tryd.prog 25 #[.int .i64 n] w fun e w' => e = .returned (.bool (dayB n)) ∧ Below w.heap.size w w' := by
  have HO := hide (Of_any n w HM)
  cases hd : dayB n
  · rw [(of_bad hd).1, (of_bad hd).2] at HO
    clear hd
    unfold dateV errV at HO
    go_enter Tryd.func25, Tryd.ntmps25
    go_wp2_with fail
    refine HO.out.mono ?_
    rintro e w1 ⟨rfl, hb1⟩
    have HB := hide hb1
    clear hb1
    go_wp2_with fail
    go_ret
    exact ⟨rfl, HB.out.alloc HB.out.size _⟩
  · rw [(of_ok hd).1, (of_ok hd).2] at HO
    clear hd
    unfold dateV errV at HO
    generalize yearI n = a at *
    generalize monthI n = b at *
    generalize dayI n = c at *
    go_enter Tryd.func25, Tryd.ntmps25
    go_wp2_with fail
    refine HO.out.mono ?_
    rintro e w1 ⟨rfl, hb1⟩
    have HB := hide hb1
    clear hb1
    go_wp2_with fail
    go_ret
    exact ⟨rfl, HB.out.alloc HB.out.size _⟩
end Go.Proofs.YtbpdjjihimplaaaDoor
