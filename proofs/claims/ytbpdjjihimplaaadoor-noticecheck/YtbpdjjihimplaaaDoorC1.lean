/-
  My own text: signs and forms: the program's look at a text, and the document's.
-/
import Derived.Test.YtbpdjjihimplaaaDoorCMath
import Derived.Test.YtbpdjjihimplaaaDoorErr
import Derived.RegionTactic
import Derived.WalkSmall
import Derived.Deep.QuietTactic
import Derived.BigQuiet
namespace Go.Proofs.YtbpdjjihimplaaaDoor.LC
open Go.RowKit

theorem ret_b {a b : Bool} (h : a = b) : Ending.returned (.bool a) = .returned (.bool b) := by rw [h]
theorem ret_v {a b : Value} (h : a = b) : Ending.returned a = .returned b := by rw [h]
theorem bytes_size (l : List UInt8) : (⟨l.toArray⟩ : ByteArray).size = l.length := by simp [ByteArray.size]
theorem bytes_app (a b : List UInt8) : (⟨a.toArray⟩ : ByteArray) ++ ⟨b.toArray⟩ = ⟨(a ++ b).toArray⟩ := by
  apply ByteArray.ext; simp
theorem isDg_yes {c : UInt8} {x : Nat} (h : c.toNat = x) (h1 : 48 ≤ x) (h2 : x ≤ 57) : isDg c = true := by unfold isDg; rw [h]; simp; omega
theorem isDg_no {c : UInt8} {x : Nat} (h : c.toNat = x) (h1 : x < 48 ∨ 57 < x) : isDg c = false := by unfold isDg; rw [h]; simp; omega
theorem isCp_yes {c : UInt8} {x : Nat} (h : c.toNat = x) (h1 : 65 ≤ x) (h2 : x ≤ 90) : isCp c = true := by unfold isCp; rw [h]; simp; omega
theorem isCp_no {c : UInt8} {x : Nat} (h : c.toNat = x) (h1 : x < 65 ∨ 90 < x) : isCp c = false := by unfold isCp; rw [h]; simp; omega

theorem isDigit_any (c : UInt8) (w : World) :
    Calls Tryd.prog 60 #[.int .u8 (c.toNat : Int)] w fun e w' => e = .returned (.bool (isDg c)) ∧ w' = w := by
  obtain ⟨x, hx, Hx⟩ : ∃ x : Nat, c.toNat = x ∧ Hid (c.toNat = x) := ⟨_, rfl, hide rfl⟩
  rw [hx]; clear hx
  by_cases h1 : x < 48
  · have H := hide (isDg_no Hx.out (.inl h1))
    go_enter Tryd.func60, Tryd.ntmps60
    go_wp2
    go_ret
    exact ⟨ret_b (by rw [H.out]; try (simp; omega)), rfl⟩
  by_cases h2 : 57 < x
  · have H := hide (isDg_no Hx.out (.inr h2))
    go_enter Tryd.func60, Tryd.ntmps60
    go_wp2
    go_ret
    exact ⟨ret_b (by rw [H.out]; try (simp; omega)), rfl⟩
  have H := hide (isDg_yes Hx.out (by omega) (by omega))
  go_enter Tryd.func60, Tryd.ntmps60
  go_wp2
  go_ret
  exact ⟨ret_b (by rw [H.out]; try (simp; omega)), rfl⟩
theorem isCapital_any (c : UInt8) (w : World) :
    Calls Tryd.prog 61 #[.int .u8 (c.toNat : Int)] w fun e w' => e = .returned (.bool (isCp c)) ∧ w' = w := by
  obtain ⟨x, hx, Hx⟩ : ∃ x : Nat, c.toNat = x ∧ Hid (c.toNat = x) := ⟨_, rfl, hide rfl⟩
  rw [hx]; clear hx
  by_cases h1 : x < 65
  · have H := hide (isCp_no Hx.out (.inl h1))
    go_enter Tryd.func61, Tryd.ntmps61
    go_wp2
    go_ret
    exact ⟨ret_b (by rw [H.out]; try (simp; omega)), rfl⟩
  by_cases h2 : 90 < x
  · have H := hide (isCp_no Hx.out (.inr h2))
    go_enter Tryd.func61, Tryd.ntmps61
    go_wp2
    go_ret
    exact ⟨ret_b (by rw [H.out]; try (simp; omega)), rfl⟩
  have H := hide (isCp_yes Hx.out (by omega) (by omega))
  go_enter Tryd.func61, Tryd.ntmps61
  go_wp2
  go_ret
  exact ⟨ret_b (by rw [H.out]; try (simp; omega)), rfl⟩
theorem refIsDigit_any (c : UInt8) (w : World) :
    Calls Tryd.prog 50 #[.int .u8 (c.toNat : Int)] w fun e w' => e = .returned (.bool (isDg c)) ∧ w' = w := by
  obtain ⟨x, hx, Hx⟩ : ∃ x : Nat, c.toNat = x ∧ Hid (c.toNat = x) := ⟨_, rfl, hide rfl⟩
  rw [hx]; clear hx
  by_cases h1 : x < 48
  · have H := hide (isDg_no Hx.out (.inl h1))
    go_enter Tryd.func50, Tryd.ntmps50
    go_wp2
    go_ret
    exact ⟨ret_b (by rw [H.out]; try (simp; omega)), rfl⟩
  by_cases h2 : 57 < x
  · have H := hide (isDg_no Hx.out (.inr h2))
    go_enter Tryd.func50, Tryd.ntmps50
    go_wp2
    go_ret
    exact ⟨ret_b (by rw [H.out]; try (simp; omega)), rfl⟩
  have H := hide (isDg_yes Hx.out (by omega) (by omega))
  go_enter Tryd.func50, Tryd.ntmps50
  go_wp2
  go_ret
  exact ⟨ret_b (by rw [H.out]; try (simp; omega)), rfl⟩
theorem refIsCapital_any (c : UInt8) (w : World) :
    Calls Tryd.prog 51 #[.int .u8 (c.toNat : Int)] w fun e w' => e = .returned (.bool (isCp c)) ∧ w' = w := by
  obtain ⟨x, hx, Hx⟩ : ∃ x : Nat, c.toNat = x ∧ Hid (c.toNat = x) := ⟨_, rfl, hide rfl⟩
  rw [hx]; clear hx
  by_cases h1 : x < 65
  · have H := hide (isCp_no Hx.out (.inl h1))
    go_enter Tryd.func51, Tryd.ntmps51
    go_wp2
    go_ret
    exact ⟨ret_b (by rw [H.out]; try (simp; omega)), rfl⟩
  by_cases h2 : 90 < x
  · have H := hide (isCp_no Hx.out (.inr h2))
    go_enter Tryd.func51, Tryd.ntmps51
    go_wp2
    go_ret
    exact ⟨ret_b (by rw [H.out]; try (simp; omega)), rfl⟩
  have H := hide (isCp_yes Hx.out (by omega) (by omega))
  go_enter Tryd.func51, Tryd.ntmps51
  go_wp2
  go_ret
  exact ⟨ret_b (by rw [H.out]; try (simp; omega)), rfl⟩
theorem refIsSign_any (c : UInt8) (w : World) :
    Calls Tryd.prog 36 #[.int .u8 (c.toNat : Int)] w fun e w' => e = .returned (.bool (isDg c || isCp c)) ∧ w' = w := by
  cases hd : isDg c
  · go_enter Tryd.func36, Tryd.ntmps36
    go_wp2_with (first
      | (go_at_call 50; refine (refIsDigit_any c _).mono ?_; rintro e w' ⟨rfl, rfl⟩; rw [hd])
      | (go_at_call 51; refine (refIsCapital_any c _).mono ?_; rintro e w' ⟨rfl, rfl⟩))
    go_ret
    exact ⟨rfl, rfl⟩
  · go_enter Tryd.func36, Tryd.ntmps36
    go_wp2_with (first
      | (go_at_call 50; refine (refIsDigit_any c _).mono ?_; rintro e w' ⟨rfl, rfl⟩; rw [hd])
      | (go_at_call 51; refine (refIsCapital_any c _).mono ?_; rintro e w' ⟨rfl, rfl⟩))
    go_ret
    exact ⟨rfl, rfl⟩
theorem fitB_d (c : UInt8) : fitB c 68 = isDg c := rfl
theorem fitB_c (c : UInt8) : fitB c 67 = isCp c := rfl
theorem fitB_s {c p : UInt8} (h1 : p ≠ 68) (h2 : p ≠ 67) : fitB c p = (isDg c || isCp c) := by unfold fitB; rw [if_neg h1, if_neg h2]
theorem u8_ne {p q : UInt8} (h : p ≠ q) : ((p.toNat : Int) == (q.toNat : Int)) = false := by
  have : p.toNat ≠ q.toNat := fun e => h (UInt8.toNat_inj.1 e)
  simp; omega

set_option maxHeartbeats 1000000 in
theorem fits_any (c p : UInt8) (w : World) :
    Calls Tryd.prog 56 #[.int .u8 (c.toNat : Int), .int .u8 (p.toNat : Int)] w fun e w' => e = .returned (.bool (fitB c p)) ∧ w' = w := by
  by_cases h1 : p = 68
  · subst h1
    rw [fitB_d, show ((68 : UInt8).toNat : Int) = 68 from rfl]
    go_enter Tryd.func56, Tryd.ntmps56
    go_wp2_with (go_at_call 60; refine (isDigit_any c _).mono ?_; rintro e w' ⟨rfl, rfl⟩)
    go_ret
    exact ⟨rfl, rfl⟩
  by_cases h2 : p = 67
  · subst h2
    rw [fitB_c, show ((67 : UInt8).toNat : Int) = 67 from rfl]
    go_enter Tryd.func56, Tryd.ntmps56
    go_wp2_with (go_at_call 61; refine (isCapital_any c _).mono ?_; rintro e w' ⟨rfl, rfl⟩)
    go_ret
    exact ⟨rfl, rfl⟩
  have e1 : ((p.toNat : Int) == 68) = false := u8_ne (q := 68) h1
  have e2 : ((p.toNat : Int) == 67) = false := u8_ne (q := 67) h2
  rw [fitB_s h1 h2]
  obtain ⟨x, hx⟩ : ∃ x : Nat, p.toNat = x := ⟨_, rfl⟩
  rw [hx] at e1 e2 ⊢
  clear h1 h2 hx
  cases hd : isDg c
  · go_enter Tryd.func56, Tryd.ntmps56
    go_wp2_with (first
      | (go_at_call 60; refine (isDigit_any c _).mono ?_; rintro e w' ⟨rfl, rfl⟩; rw [hd])
      | (go_at_call 61; refine (isCapital_any c _).mono ?_; rintro e w' ⟨rfl, rfl⟩))
    go_ret
    exact ⟨rfl, rfl⟩
  · go_enter Tryd.func56, Tryd.ntmps56
    go_wp2_with (first
      | (go_at_call 60; refine (isDigit_any c _).mono ?_; rintro e w' ⟨rfl, rfl⟩; rw [hd])
      | (go_at_call 61; refine (isCapital_any c _).mono ?_; rintro e w' ⟨rfl, rfl⟩))
    go_ret
    exact ⟨rfl, rfl⟩
set_option maxHeartbeats 1000000 in
theorem refFits_any (c p : UInt8) (w : World) :
    Calls Tryd.prog 57 #[.int .u8 (c.toNat : Int), .int .u8 (p.toNat : Int)] w fun e w' => e = .returned (.bool (fitB c p)) ∧ w' = w := by
  by_cases h1 : p = 68
  · subst h1
    rw [fitB_d, show ((68 : UInt8).toNat : Int) = 68 from rfl]
    go_enter Tryd.func57, Tryd.ntmps57
    go_wp2_with (go_at_call 50; refine (refIsDigit_any c _).mono ?_; rintro e w' ⟨rfl, rfl⟩)
    go_ret
    exact ⟨rfl, rfl⟩
  by_cases h2 : p = 67
  · subst h2
    rw [fitB_c, show ((67 : UInt8).toNat : Int) = 67 from rfl]
    go_enter Tryd.func57, Tryd.ntmps57
    go_wp2_with (go_at_call 51; refine (refIsCapital_any c _).mono ?_; rintro e w' ⟨rfl, rfl⟩)
    go_ret
    exact ⟨rfl, rfl⟩
  have e1 : ((p.toNat : Int) == 68) = false := u8_ne (q := 68) h1
  have e2 : ((p.toNat : Int) == 67) = false := u8_ne (q := 67) h2
  rw [fitB_s h1 h2]
  obtain ⟨x, hx⟩ : ∃ x : Nat, p.toNat = x := ⟨_, rfl⟩
  rw [hx] at e1 e2 ⊢
  clear h1 h2 hx
  go_enter Tryd.func57, Tryd.ntmps57
  go_wp2_with (go_at_call 36; refine (refIsSign_any c _).mono ?_; rintro e w' ⟨rfl, rfl⟩)
  go_ret
  exact ⟨rfl, rfl⟩

/-! ### the look at a whole text -/
/-- An error by its number and place. -/
def errF (r : Int × Int) : Value := if r.1 = 0 then .nilIface else if r.1 = 6 then .iface 37 (.agg #[.int .i64 6, .int .i64 0, .int .i64 r.2]) else .iface 35 (.int .i64 r.1)
theorem errF_ok : errF (0, 0) = .nilIface := rfl
theorem errF_no {n : Int} (h0 : n ≠ 0) (h6 : n ≠ 6) : errF (n, 0) = .iface 35 (.int .i64 n) := by unfold errF; rw [if_neg h0, if_neg h6]
theorem errF_at (k : Int) : errF (6, k) = .iface 37 (.agg #[.int .i64 6, .int .i64 0, .int .i64 k]) := rfl
theorem getD_at {l : List UInt8} {k : Nat} (h : k < l.length) : l.getD k 0 = l[k] := by rw [List.getD_eq_getElem?_getD, List.getElem?_eq_getElem h]; rfl
set_option maxRecDepth 100000 in
set_option maxHeartbeats 1000000 in
theorem check_any (l f : List UInt8) (w : World) (hl : l.length ≤ 140737488355328) :
    Calls Tryd.prog 45 #[.string ⟨l.toArray⟩, .string ⟨f.toArray⟩] w fun e w' => e = .returned (errF (formR l f)) ∧ Below w.heap.size w w' := by
  by_cases h1 : l.length < f.length
  · have H := hide (form_short h1)
    go_enter Tryd.func45, Tryd.ntmps45
    go_wp2
    go_ret
    exact ⟨ret_v (by rw [H.out]; rfl), Below.refl _ _⟩
  by_cases h2 : f.length < l.length
  · have H := hide (form_long h2)
    go_enter Tryd.func45, Tryd.ntmps45
    go_wp2
    go_ret
    exact ⟨ret_v (by rw [H.out]; rfl), Below.refl _ _⟩
  have HL : Hid (l.length = f.length) := hide (by omega)
  go_enter Tryd.func45, Tryd.ntmps45
  go_wp2
  go_loopw [20] (fun i wr => ∃ k : Nat, k ≤ l.length ∧ i = .int .i64 k ∧ Hid (Fits l f k) ∧ Below w.heap.size w wr) (fun i _ => l.length - (intOf i).toNat)
  case atStart => exact ⟨0, Nat.zero_le _, rfl, hide (fits_zero l f), Below.refl _ _⟩
  case round =>
    obtain ⟨k, hk, rfl, HF, hB⟩ := hrel
    by_cases hlt : k < l.length
    · have hlt2 : k < f.length := by have := HL.out; omega
      have hs1 : k < (⟨l.toArray⟩ : ByteArray).size := by rw [bytes_size]; exact hlt
      have hs2 : k < (⟨f.toArray⟩ : ByteArray).size := by rw [bytes_size]; exact hlt2
      obtain ⟨c, hc, Hc⟩ : ∃ c, (⟨l.toArray⟩ : ByteArray)[k]'hs1 = c ∧ Hid (l.getD k 0 = c) := ⟨_, rfl, by rw [getD_at hlt]; exact hide rfl⟩
      obtain ⟨p, hp, Hp⟩ : ∃ p, (⟨f.toArray⟩ : ByteArray)[k]'hs2 = p ∧ Hid (f.getD k 0 = p) := ⟨_, rfl, by rw [getD_at hlt2]; exact hide rfl⟩
      cases hfit : fitB c p
      · have H := hide (form_bad HL.out HF.out hlt (by rw [Hc.out, Hp.out]; exact hfit))
        go_wp2_with fail
        go_quiet (first | (go_at_call 56; exact Calls.quiet_of_same (fits_any c p _)))
        rw [hfit]
        go_wp2_with fail
        go_ret
        exact ⟨ret_v (by rw [H.out]; rfl), below_drewN hB _⟩
      · have H := hide (fits_next HF.out (by rw [Hc.out, Hp.out]; exact hfit))
        go_wp2_with fail
        go_quiet (first | (go_at_call 56; exact Calls.quiet_of_same (fits_any c p _)))
        rw [hfit]
        go_wp2_with fail
        go_roundw
        case rel => exact ⟨k + 1, by omega, by go_num, H, below_drewN hB _⟩
        case measure => simp [intOf]; omega
    · have hk' : k = l.length := by omega
      subst hk'
      have H := hide (form_ok HL.out HF.out)
      go_wp2_with fail
      go_ret
      exact ⟨ret_v (by rw [H.out]; rfl), hB⟩
theorem ret_ii {a b c d : Int} (h : (a, b) = (c, d)) : Ending.returned (.tuple #[.int .i64 a, .int .i64 b]) = .returned (.tuple #[.int .i64 c, .int .i64 d]) := by cases h; rfl
set_option maxRecDepth 100000 in
set_option maxHeartbeats 1000000 in
theorem has_any (l f : List UInt8) (w : World) (hl : l.length ≤ 140737488355328) :
    Calls Tryd.prog 47 #[.string ⟨l.toArray⟩, .string ⟨f.toArray⟩] w fun e w' => e = .returned (.tuple #[.int .i64 (formR l f).1, .int .i64 (formR l f).2]) ∧ Below w.heap.size w w' := by
  by_cases h1 : l.length < f.length
  · have H := hide (form_short h1)
    go_enter Tryd.func47, Tryd.ntmps47
    go_wp2
    go_ret2
    exact ⟨ret_ii H.out.symm, Below.refl _ _⟩
  by_cases h2 : f.length < l.length
  · have H := hide (form_long h2)
    go_enter Tryd.func47, Tryd.ntmps47
    go_wp2
    go_ret2
    exact ⟨ret_ii H.out.symm, Below.refl _ _⟩
  have HL : Hid (l.length = f.length) := hide (by omega)
  go_enter Tryd.func47, Tryd.ntmps47
  go_wp2
  go_loopw [6] (fun i wr => ∃ k : Nat, k ≤ l.length ∧ i = .int .i64 k ∧ Hid (Fits l f k) ∧ Below w.heap.size w wr) (fun i _ => l.length - (intOf i).toNat)
  case atStart => exact ⟨0, Nat.zero_le _, rfl, hide (fits_zero l f), Below.refl _ _⟩
  case round =>
    obtain ⟨k, hk, rfl, HF, hB⟩ := hrel
    by_cases hlt : k < l.length
    · have hlt2 : k < f.length := by have := HL.out; omega
      have hs1 : k < (⟨l.toArray⟩ : ByteArray).size := by rw [bytes_size]; exact hlt
      have hs2 : k < (⟨f.toArray⟩ : ByteArray).size := by rw [bytes_size]; exact hlt2
      obtain ⟨c, hc, Hc⟩ : ∃ c, (⟨l.toArray⟩ : ByteArray)[k]'hs1 = c ∧ Hid (l.getD k 0 = c) := ⟨_, rfl, by rw [getD_at hlt]; exact hide rfl⟩
      obtain ⟨p, hp, Hp⟩ : ∃ p, (⟨f.toArray⟩ : ByteArray)[k]'hs2 = p ∧ Hid (f.getD k 0 = p) := ⟨_, rfl, by rw [getD_at hlt2]; exact hide rfl⟩
      cases hfit : fitB c p
      · have H := hide (form_bad HL.out HF.out hlt (by rw [Hc.out, Hp.out]; exact hfit))
        go_wp2_with fail
        go_quiet (first | (go_at_call 57; exact Calls.quiet_of_same (refFits_any c p _)))
        rw [hfit]
        go_wp2_with fail
        go_ret2
        exact ⟨ret_ii H.out.symm, below_drewN hB _⟩
      · have H := hide (fits_next HF.out (by rw [Hc.out, Hp.out]; exact hfit))
        go_wp2_with fail
        go_quiet (first | (go_at_call 57; exact Calls.quiet_of_same (refFits_any c p _)))
        rw [hfit]
        go_wp2_with fail
        go_roundw
        case rel => exact ⟨k + 1, by omega, by go_num, H, below_drewN hB _⟩
        case measure => simp [intOf]; omega
    · have hk' : k = l.length := by omega
      subst hk'
      have H := hide (form_ok HL.out HF.out)
      go_wp2_with fail
      go_ret2
      exact ⟨ret_ii H.out.symm, hB⟩
end Go.Proofs.YtbpdjjihimplaaaDoor.LC
