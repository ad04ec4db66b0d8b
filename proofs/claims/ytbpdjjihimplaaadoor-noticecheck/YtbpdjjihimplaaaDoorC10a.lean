/-
  My own text: currencies and accounts: the program's and the document's.
-/
import Derived.Test.YtbpdjjihimplaaaDoorTxt
namespace Go.Proofs.YtbpdjjihimplaaaDoor.LC
open Go.RowKit

theorem bytes_take2 (l : List UInt8) (n : Nat) : (⟨l.toArray⟩ : ByteArray).extract 0 n = ⟨(l.take n).toArray⟩ := by
  apply ByteArray.ext; simp
theorem bytes_drop2 (l : List UInt8) (n m : Nat) (h : l.length = m) : (⟨l.toArray⟩ : ByteArray).extract n m = ⟨(l.drop n).toArray⟩ := by
  apply ByteArray.ext; simp [← h]
  rw [List.take_of_length_le (by rw [List.length_drop]; omega)]
theorem rng_drop2 {w : World} {b n : Nat} {l : List UInt8} (h : w.rangeAt b 0 (cel l).toList) : w.rangeAt b n (cel (l.drop n)).toList := fun j v hv => by
  have h2 := h (n + j) v (by
    rw [← hv]; simp [cel, List.getElem?_drop])
  rw [Nat.zero_add] at h2; exact h2
def curF : List UInt8 := [67, 67, 67]
/-- The form of an account. -/
def accF (l : List UInt8) : List UInt8 := List.replicate (min (max l.length 1) 34) 83
set_option maxHeartbeats 1000000 in
theorem currency_any (l : List UInt8) (w : World) (hl : l.length ≤ 140737488355328) :
    Calls Tryd.prog 29 #[.string ⟨l.toArray⟩] w fun e w' => e = .returned (errF (formR l curF)) ∧ Below w.heap.size w w' := by
  have HC := hide (check_any l curF w hl)
  go_enter Tryd.func29, Tryd.ntmps29
  go_wp2_with fail
  refine HC.out.mono ?_
  rintro e w1 ⟨rfl, hb1⟩
  go_wp2_with fail
  go_ret
  exact ⟨rfl, hb1⟩
set_option maxHeartbeats 1000000 in
theorem refCurrency_any (l : List UInt8) (w : World) (hl : l.length ≤ 140737488355328) :
    Calls Tryd.prog 35 #[.string ⟨l.toArray⟩] w fun e w' => e = .returned (.tuple #[.int .i64 (formR l curF).1, .int .i64 (formR l curF).2]) ∧ Below w.heap.size w w' := by
  have HC := hide (has_any l curF w hl)
  go_enter Tryd.func35, Tryd.ntmps35
  go_wp2_with fail
  refine HC.out.mono ?_
  rintro e w1 ⟨rfl, hb1⟩
  go_wp2_with fail
  go_ret2
  exact ⟨rfl, hb1⟩
theorem acc_cut {n : Nat} (h : n ≤ 34) : (⟨#[83, 83, 83, 83, 83, 83, 83, 83, 83, 83, 83, 83, 83, 83, 83, 83, 83, 83, 83, 83, 83, 83, 83, 83, 83, 83, 83, 83, 83, 83, 83, 83, 83, 83]⟩ : ByteArray).extract 0 n = ⟨(List.replicate n 83).toArray⟩ := by
  have h2 := bytes_take2 (List.replicate 34 83) n
  rw [List.take_replicate, Nat.min_eq_left h] at h2; exact h2
set_option maxRecDepth 100000 in
set_option maxHeartbeats 1000000 in
theorem account_any (l : List UInt8) (w : World) (hl : l.length ≤ 140737488355328) :
    Calls Tryd.prog 27 #[.string ⟨l.toArray⟩] w fun e w' => e = .returned (errF (formR l (accF l))) ∧ Below w.heap.size w w' := by
  obtain ⟨n, hn, HN⟩ : ∃ n : Nat, n ≤ 34 ∧ Hid (min (max l.length 1) 34 = n) := ⟨_, Nat.min_le_right _ _, hide rfl⟩
  have HC := hide (check_any l (accF l) w hl)
  unfold accF at HC ⊢
  rw [HN.out] at HC ⊢
  have hcut := acc_cut hn
  obtain ⟨F, HF⟩ : ∃ F, Hid (List.replicate n (83 : UInt8) = F) := ⟨_, hide rfl⟩
  rw [HF.out] at HC hcut ⊢
  have h1 : min (max (l.length : Int) 1) 34 = (n : Int) := by have := HN.out; omega
  by_cases h0 : l.length < 1
  · have hn1 : n = 1 := by have := HN.out; omega
    subst hn1
    clear h1 hn
    go_enter Tryd.func27, Tryd.ntmps27
    go_wp2_with fail
    refine HC.out.mono ?_
    rintro e w1 ⟨rfl, hb1⟩
    go_wp2_with fail
    go_ret
    exact ⟨rfl, hb1⟩
  by_cases h34 : l.length ≤ 34
  · have hn1 : n = l.length := by have := HN.out; omega
    subst hn1
    clear h1 hn
    go_enter Tryd.func27, Tryd.ntmps27
    go_wp2_with fail
    refine HC.out.mono ?_
    rintro e w1 ⟨rfl, hb1⟩
    go_wp2_with fail
    go_ret
    exact ⟨rfl, hb1⟩
  · have hn1 : n = 34 := by have := HN.out; omega
    subst hn1
    clear h1 hn
    go_enter Tryd.func27, Tryd.ntmps27
    go_wp2_with fail
    refine HC.out.mono ?_
    rintro e w1 ⟨rfl, hb1⟩
    go_wp2_with fail
    go_ret
    exact ⟨rfl, hb1⟩
theorem acc_at {n j : Nat} (h : j < n) : (List.replicate n (83 : UInt8)).getD j 0 = 83 := by
  rw [List.getD_eq_getElem?_getD, List.getElem?_replicate, if_pos h]; rfl
set_option maxRecDepth 100000 in
set_option maxHeartbeats 1000000 in
theorem refAccount_any (l : List UInt8) (w : World) (hl : l.length ≤ 140737488355328) :
    Calls Tryd.prog 33 #[.string ⟨l.toArray⟩] w fun e w' => e = .returned (.tuple #[.int .i64 (formR l (accF l)).1, .int .i64 (formR l (accF l)).2]) ∧ Below w.heap.size w w' := by
  by_cases h0 : l.length = 0
  · have H := hide (form_short (l := l) (f := accF l) (by unfold accF; rw [List.length_replicate, h0]; decide))
    have hb0 : ((l.length : Int) == 0) = true := by rw [h0]; rfl
    clear h0
    go_enter Tryd.func33, Tryd.ntmps33
    go_wp2_with fail
    go_ret2
    exact ⟨ret_ii H.out.symm, Below.refl _ _⟩
  have hb0 : ((l.length : Int) == 0) = false := beq_eq_false_iff_ne.2 (by omega)
  by_cases h34 : 34 < l.length
  · have H := hide (form_long (l := l) (f := accF l) (by unfold accF; rw [List.length_replicate]; omega))
    go_enter Tryd.func33, Tryd.ntmps33
    go_wp2_with fail
    go_ret2
    exact ⟨ret_ii H.out.symm, Below.refl _ _⟩
  have HA : Hid (accF l = List.replicate l.length 83) := by show accF l = _; unfold accF; congr 1; omega
  have HL : Hid (l.length = (accF l).length) := by show _ = _; rw [HA.out, List.length_replicate]
  go_enter Tryd.func33, Tryd.ntmps33
  go_wp2_with fail
  go_loop [4] (fun i => ∃ k : Nat, k ≤ l.length ∧ i = .int .i64 k ∧ Hid (Fits l (accF l) k)) (fun i => l.length - (intOf i).toNat)
  case atStart => exact ⟨0, Nat.zero_le _, rfl, hide (fits_zero _ _)⟩
  case round =>
    obtain ⟨k, hk, rfl, HF⟩ := hrel
    by_cases hlt : k < l.length
    · have hs1 : k < (⟨l.toArray⟩ : ByteArray).size := by rw [bytes_size]; exact hlt
      obtain ⟨c, hc, Hc⟩ : ∃ c, (⟨l.toArray⟩ : ByteArray)[k]'hs1 = c ∧ Hid (l.getD k 0 = c) := ⟨_, rfl, by rw [getD_at hlt]; exact hide rfl⟩
      have HP : Hid ((accF l).getD k 0 = 83) := by show _ = _; rw [HA.out]; exact acc_at hlt
      have HFB : Hid (fitB c 83 = (isDg c || isCp c)) := hide (fitB_s (by decide) (by decide))
      have HSG := hide (fun W : World => refIsSign_any c W)
      cases hfit : (isDg c || isCp c)
      · have H := hide (form_bad HL.out HF.out hlt (by rw [Hc.out, HP.out, HFB.out]; exact hfit))
        rw [hfit] at HSG
        clear hfit
        go_wp2_with fail
        refine (HSG.out _).mono ?_
        rintro e w' ⟨rfl, rfl⟩
        go_wp2_with fail
        go_ret2
        exact ⟨ret_ii H.out.symm, Below.refl _ _⟩
      · have H := hide (fits_next HF.out (by rw [Hc.out, HP.out, HFB.out]; exact hfit))
        rw [hfit] at HSG
        clear hfit
        go_wp2_with fail
        refine (HSG.out _).mono ?_
        rintro e w' ⟨rfl, rfl⟩
        go_wp2_with fail
        go_round
        case rel => exact ⟨k + 1, by omega, by go_num, H⟩
        case measure => simp [intOf]; omega
    · have hk' : k = l.length := by omega
      subst hk'
      have H := hide (form_ok HL.out HF.out)
      go_wp2_with fail
      go_ret2
      exact ⟨ret_ii H.out.symm, Below.refl _ _⟩
end Go.Proofs.YtbpdjjihimplaaaDoor.LC
