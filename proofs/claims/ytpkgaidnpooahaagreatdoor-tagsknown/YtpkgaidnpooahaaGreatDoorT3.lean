/-
  My own text: T2, T3 in one.
-/
import Derived.Test.YtpkgaidnpooahaaGreatDoorT1
namespace Go.Proofs.YtpkgaidnpooahaaGreatDoor
open Go.RowKit

theorem getD_at {l : List UInt8} {k : Nat} (h : k < l.length) : l.getD k 0 = l[k] := by rw [List.getD_eq_getElem?_getD, List.getElem?_eq_getElem h]; rfl
def fstNot (p : UInt8 → Bool) (l : List UInt8) : Nat := l.findIdx fun c => !p c
theorem fstNot_at {p : UInt8 → Bool} {l : List UInt8} {k : Nat} (hk : k < l.length) (h : ∀ j, j < k → p (l.getD j 0) = true) (hb : p (l.getD k 0) = false) : fstNot p l = k := by
  unfold fstNot
  rw [List.findIdx_eq hk]
  refine ⟨by rw [← getD_at hk, hb]; rfl, fun j hj => ?_⟩
  have := h j hj
  rw [getD_at (by omega)] at this
  simp [this]
theorem fstNot_all {p : UInt8 → Bool} {l : List UInt8} (h : ∀ j, j < l.length → p (l.getD j 0) = true) : fstNot p l = l.length := by
  unfold fstNot
  rw [List.findIdx_eq_length]
  intro c hc
  obtain ⟨j, hj, rfl⟩ := List.getElem_of_mem hc
  have := h j hj
  rw [getD_at hj] at this
  simp [this]
theorem fstNot_le (p : UInt8 → Bool) (l : List UInt8) : fstNot p l ≤ l.length := List.findIdx_le_length
theorem fstNot_eq (p : UInt8 → Bool) (l : List UInt8) : decide (fstNot p l = l.length) = l.all p := by
  rw [Bool.eq_iff_iff, decide_eq_true_iff, List.all_eq_true]
  unfold fstNot
  rw [List.findIdx_eq_length]
  simp
theorem all_of {p : UInt8 → Bool} {l : List UInt8} (h : ∀ j, j < l.length → p (l.getD j 0) = true) : l.all p = true := by
  rw [List.all_eq_true]; intro c hc
  obtain ⟨j, hj, rfl⟩ := List.getElem_of_mem hc
  rw [← getD_at hj]; exact h j hj
theorem all_no {p : UInt8 → Bool} {l : List UInt8} {k : Nat} (hk : k < l.length) (hb : p (l.getD k 0) = false) : l.all p = false := by
  rw [List.all_eq_false]
  exact ⟨l[k], List.getElem_mem _, by rw [← getD_at hk, hb]; simp⟩
set_option maxRecDepth 100000 in
set_option maxHeartbeats 1000000 in
theorem firstSg_any (l : List UInt8) (w : World) (hl : l.length ≤ 140737488355328) :
    Calls Tryz.prog 86 #[.func (Fn.func 103) #[] #[], .string ⟨l.toArray⟩] w fun e w' => e = .returned (.int .i64 (fstNot (fun c => sg c) l : Int)) ∧ w' = w := by
  go_enter Tryz.func86, Tryz.ntmps86
  go_wp2_with fail
  go_loop [8] (fun i => ∃ k : Nat, k ≤ l.length ∧ i = .int .i64 k ∧ Hid (∀ j, j < k → (fun c => sg c) (l.getD j 0) = true)) (fun i => l.length - (intOf i).toNat)
  case atStart => exact ⟨0, Nat.zero_le _, rfl, hide (fun j hj => by omega)⟩
  case round =>
    obtain ⟨k, hk, rfl, HA⟩ := hrel
    by_cases hlt : k < l.length
    · have hs1 : k < (⟨l.toArray⟩ : ByteArray).size := by rw [bytes_size]; exact hlt
      obtain ⟨c, hc, Hc⟩ : ∃ c, (⟨l.toArray⟩ : ByteArray)[k]'hs1 = c ∧ Hid (l.getD k 0 = c) := ⟨_, rfl, by rw [getD_at hlt]; exact hide rfl⟩
      have HS := hide (fun W : World => tSign_any c W)
      cases hb : (fun c => sg c) c
      · have HR := hide (fstNot_at (p := fun c => sg c) hlt HA.out (by rw [Hc.out]; exact hb))
        have hb' := hb
        dsimp only at hb'
        rw [hb'] at HS
        go_wp2_with fail
        refine (HS.out _).mono ?_
        rintro e w' ⟨rfl, rfl⟩
        go_wp2_with fail
        go_ret
        exact ⟨ret_i (by rw [HR.out]), rfl⟩
      · have HX : Hid (∀ j, j < k + 1 → (fun c => sg c) (l.getD j 0) = true) := hide (fun j hj => by
          by_cases e : j = k
          · subst e; rw [Hc.out]; exact hb
          · exact HA.out j (by omega))
        have hb' := hb
        dsimp only at hb'
        rw [hb'] at HS
        go_wp2_with fail
        refine (HS.out _).mono ?_
        rintro e w' ⟨rfl, rfl⟩
        go_wp2_with fail
        go_round
        case rel => exact ⟨k + 1, by omega, by go_num, HX⟩
        case measure => simp [intOf]; omega
    · have hk' : k = l.length := by omega
      subst hk'
      have HR := hide (fstNot_all (p := fun c => sg c) HA.out)
      go_wp2_with fail
      go_ret
      exact ⟨ret_i (by rw [HR.out]), rfl⟩
set_option maxRecDepth 100000 in
set_option maxHeartbeats 1000000 in
theorem firstTx_any (l : List UInt8) (w : World) (hl : l.length ≤ 140737488355328) :
    Calls Tryz.prog 86 #[.func (Fn.func 92) #[] #[], .string ⟨l.toArray⟩] w fun e w' => e = .returned (.int .i64 (fstNot (fun c => inS c || c == 10) l : Int)) ∧ w' = w := by
  go_enter Tryz.func86, Tryz.ntmps86
  go_wp2_with fail
  go_loop [8] (fun i => ∃ k : Nat, k ≤ l.length ∧ i = .int .i64 k ∧ Hid (∀ j, j < k → (fun c => inS c || c == 10) (l.getD j 0) = true)) (fun i => l.length - (intOf i).toNat)
  case atStart => exact ⟨0, Nat.zero_le _, rfl, hide (fun j hj => by omega)⟩
  case round =>
    obtain ⟨k, hk, rfl, HA⟩ := hrel
    by_cases hlt : k < l.length
    · have hs1 : k < (⟨l.toArray⟩ : ByteArray).size := by rw [bytes_size]; exact hlt
      obtain ⟨c, hc, Hc⟩ : ∃ c, (⟨l.toArray⟩ : ByteArray)[k]'hs1 = c ∧ Hid (l.getD k 0 = c) := ⟨_, rfl, by rw [getD_at hlt]; exact hide rfl⟩
      have HS := hide (fun W : World => tIsOfText_any c W)
      cases hb : (fun c => inS c || c == 10) c
      · have HR := hide (fstNot_at (p := fun c => inS c || c == 10) hlt HA.out (by rw [Hc.out]; exact hb))
        have hb' := hb
        dsimp only at hb'
        rw [hb'] at HS
        go_wp2_with fail
        refine (HS.out _).mono ?_
        rintro e w' ⟨rfl, rfl⟩
        go_wp2_with fail
        go_ret
        exact ⟨ret_i (by rw [HR.out]), rfl⟩
      · have HX : Hid (∀ j, j < k + 1 → (fun c => inS c || c == 10) (l.getD j 0) = true) := hide (fun j hj => by
          by_cases e : j = k
          · subst e; rw [Hc.out]; exact hb
          · exact HA.out j (by omega))
        have hb' := hb
        dsimp only at hb'
        rw [hb'] at HS
        go_wp2_with fail
        refine (HS.out _).mono ?_
        rintro e w' ⟨rfl, rfl⟩
        go_wp2_with fail
        go_round
        case rel => exact ⟨k + 1, by omega, by go_num, HX⟩
        case measure => simp [intOf]; omega
    · have hk' : k = l.length := by omega
      subst hk'
      have HR := hide (fstNot_all (p := fun c => inS c || c == 10) HA.out)
      go_wp2_with fail
      go_ret
      exact ⟨ret_i (by rw [HR.out]), rfl⟩
def nameB (l : List UInt8) : Bool := decide (1 ≤ l.length) && decide (l.length ≤ 16) && l.all sg
def qualB (l : List UInt8) : Bool := decide (l.length = 4) && l.all sg
set_option maxHeartbeats 1000000 in
theorem tIsName_any (l : List UInt8) (w : World) (hl : l.length ≤ 140737488355328) :
    Calls Tryz.prog 88 #[.string ⟨l.toArray⟩] w fun e w' => e = .returned (.bool (nameB l)) ∧ w' = w := by
  have HF := hide (firstSg_any l w hl)
  have HE := hide (fstNot_eq sg l)
  have HQ : Hid ((fun c => sg c) = sg) := hide rfl
  unfold nameB
  by_cases h0 : 1 ≤ l.length
  · by_cases h1 : l.length ≤ 16
    · rw [decide_eq_true h0, decide_eq_true h1, ← HE.out]
      obtain ⟨m, Hm⟩ : ∃ m, Hid (fstNot sg l = m) := ⟨_, hide rfl⟩
      rw [show (fun c => sg c) = sg from rfl, Hm.out] at HF
      rw [Hm.out]
      have hq : ((m : Int) == (l.length : Int)) = decide (m = l.length) := by rw [Bool.eq_iff_iff]; simp only [beq_iff_eq, decide_eq_true_iff]; omega
      clear Hm HE HQ
      go_enter Tryz.func88, Tryz.ntmps88
      go_wp2_with fail
      refine HF.out.mono ?_
      rintro e w' ⟨rfl, rfl⟩
      go_wp2_with fail
      go_ret
      exact ⟨ret_b (by first | rfl | (rw [hq]; simp) | (rw [← hq]; simp) | simp_all), rfl⟩
    · rw [decide_eq_false h1]
      have h1' : 16 < l.length := by omega
      clear h1 HE HQ
      go_enter Tryz.func88, Tryz.ntmps88
      go_wp2_with fail
      go_ret
      exact ⟨ret_b (by simp), rfl⟩
  · rw [decide_eq_false h0]
    have h0' : l.length < 1 := by omega
    clear h0 HE HQ
    go_enter Tryz.func88, Tryz.ntmps88
    go_wp2_with fail
    go_ret
    exact ⟨ret_b (by simp), rfl⟩
set_option maxHeartbeats 1000000 in
theorem tIsQual_any (l : List UInt8) (w : World) (hl : l.length ≤ 140737488355328) :
    Calls Tryz.prog 91 #[.string ⟨l.toArray⟩] w fun e w' => e = .returned (.bool (qualB l)) ∧ w' = w := by
  have HF := hide (firstSg_any l w hl)
  have HE := hide (fstNot_eq sg l)
  unfold qualB
  by_cases h0 : l.length = 4
  · rw [decide_eq_true h0, ← HE.out]
    obtain ⟨m, Hm⟩ : ∃ m, Hid (fstNot sg l = m) := ⟨_, hide rfl⟩
    rw [show (fun c => sg c) = sg from rfl, Hm.out] at HF
    rw [Hm.out]
    have hb : ((l.length : Int) == 4) = true := by rw [h0]; rfl
    have hq : ((m : Int) == 4) = decide (m = l.length) := by rw [Bool.eq_iff_iff]; simp only [beq_iff_eq, decide_eq_true_iff]; omega
    clear Hm HE h0
    go_enter Tryz.func91, Tryz.ntmps91
    go_wp2_with fail
    refine HF.out.mono ?_
    rintro e w' ⟨rfl, rfl⟩
    go_wp2_with fail
    go_ret
    exact ⟨ret_b (by first | rfl | (rw [hq]; simp) | (rw [← hq]; simp) | simp_all), rfl⟩
  · rw [decide_eq_false h0]
    have hb : ((l.length : Int) == 4) = false := beq_eq_false_iff_ne.2 (by omega)
    clear h0 HE
    go_enter Tryz.func91, Tryz.ntmps91
    go_wp2_with fail
    go_ret
    exact ⟨ret_b (by simp), rfl⟩
set_option maxRecDepth 100000 in
set_option maxHeartbeats 2000000 in
theorem refGreat_any (l : List UInt8) (a b : Int) (w : World) (hl : l.length ≤ 140737488355328) :
    Calls Tryz.prog 96 #[.string ⟨l.toArray⟩, .int .i64 a, .int .i64 b] w fun e w' => e = .returned (.bool (decide (a ≤ (l.length : Int)) && decide ((l.length : Int) ≤ b) && l.all sg)) ∧ w' = w := by
  go_enter Tryz.func96, Tryz.ntmps96
  go_wp2_with fail
  go_loop [7] (fun i => ∃ k : Nat, k ≤ l.length ∧ i = .int .i64 k ∧ Hid (∀ j, j < k → sg (l.getD j 0) = true)) (fun i => l.length - (intOf i).toNat)
  case atStart => exact ⟨0, Nat.zero_le _, rfl, hide (fun j hj => by omega)⟩
  case round =>
    obtain ⟨k, hk, rfl, HA⟩ := hrel
    by_cases hlt : k < l.length
    · have hs1 : k < (⟨l.toArray⟩ : ByteArray).size := by rw [bytes_size]; exact hlt
      obtain ⟨c, hc, Hc⟩ : ∃ c, (⟨l.toArray⟩ : ByteArray)[k]'hs1 = c ∧ Hid (l.getD k 0 = c) := ⟨_, rfl, by rw [getD_at hlt]; exact hide rfl⟩
      have HSG : Hid (sg (l.getD k 0) = ((decide (48 ≤ (c.toNat : Int)) && decide ((c.toNat : Int) ≤ 57)) || (decide (65 ≤ (c.toNat : Int)) && decide ((c.toNat : Int) ≤ 90)))) := by show _ = _; rw [Hc.out]; rfl
      obtain ⟨x, hx0, Hx0⟩ : ∃ x : Nat, c.toNat = x ∧ Hid (c.toNat = x) := ⟨_, rfl, hide rfl⟩
      rw [hx0] at HSG
      rcases (show x < 48 ∨ (48 ≤ x ∧ x ≤ 57) ∨ (57 < x ∧ x < 65) ∨ (65 ≤ x ∧ x ≤ 90) ∨ 90 < x by omega) with hx | hx | hx | hx | hx
      · have h1 : decide (65 ≤ (x : Int)) = false := decide_eq_false (by omega)
        have h2 : decide ((x : Int) ≤ 90) = true := decide_eq_true (by omega)
        have h3 : decide (48 ≤ (x : Int)) = false := decide_eq_false (by omega)
        have h4 : decide ((x : Int) ≤ 57) = true := decide_eq_true (by omega)
        have HB : Hid (sg (l.getD k 0) = false) := hide (by rw [HSG.out, h1, h2, h3, h4]; rfl)
        clear hx HSG
        have HN := hide (all_no (p := sg) hlt HB.out)
        go_wp2_with fail
        go_ret
        exact ⟨ret_b (by rw [HN.out]; simp), rfl⟩
      · have h1 : decide (65 ≤ (x : Int)) = false := decide_eq_false (by omega)
        have h2 : decide ((x : Int) ≤ 90) = true := decide_eq_true (by omega)
        have h3 : decide (48 ≤ (x : Int)) = true := decide_eq_true (by omega)
        have h4 : decide ((x : Int) ≤ 57) = true := decide_eq_true (by omega)
        have HB : Hid (sg (l.getD k 0) = true) := hide (by rw [HSG.out, h1, h2, h3, h4]; rfl)
        clear hx HSG
        have HX : Hid (∀ j, j < k + 1 → sg (l.getD j 0) = true) := hide (fun j hj => by
          by_cases e : j = k
          · subst e; exact HB.out
          · exact HA.out j (by omega))
        go_wp2_with fail
        go_round
        case rel => exact ⟨k + 1, by omega, by go_num, HX⟩
        case measure => simp [intOf]; omega
      · have h1 : decide (65 ≤ (x : Int)) = false := decide_eq_false (by omega)
        have h2 : decide ((x : Int) ≤ 90) = true := decide_eq_true (by omega)
        have h3 : decide (48 ≤ (x : Int)) = true := decide_eq_true (by omega)
        have h4 : decide ((x : Int) ≤ 57) = false := decide_eq_false (by omega)
        have HB : Hid (sg (l.getD k 0) = false) := hide (by rw [HSG.out, h1, h2, h3, h4]; rfl)
        clear hx HSG
        have HN := hide (all_no (p := sg) hlt HB.out)
        go_wp2_with fail
        go_ret
        exact ⟨ret_b (by rw [HN.out]; simp), rfl⟩
      · have h1 : decide (65 ≤ (x : Int)) = true := decide_eq_true (by omega)
        have h2 : decide ((x : Int) ≤ 90) = true := decide_eq_true (by omega)
        have h3 : decide (48 ≤ (x : Int)) = true := decide_eq_true (by omega)
        have h4 : decide ((x : Int) ≤ 57) = false := decide_eq_false (by omega)
        have HB : Hid (sg (l.getD k 0) = true) := hide (by rw [HSG.out, h1, h2, h3, h4]; rfl)
        clear hx HSG
        have HX : Hid (∀ j, j < k + 1 → sg (l.getD j 0) = true) := hide (fun j hj => by
          by_cases e : j = k
          · subst e; exact HB.out
          · exact HA.out j (by omega))
        go_wp2_with fail
        go_round
        case rel => exact ⟨k + 1, by omega, by go_num, HX⟩
        case measure => simp [intOf]; omega
      · have h1 : decide (65 ≤ (x : Int)) = true := decide_eq_true (by omega)
        have h2 : decide ((x : Int) ≤ 90) = false := decide_eq_false (by omega)
        have h3 : decide (48 ≤ (x : Int)) = true := decide_eq_true (by omega)
        have h4 : decide ((x : Int) ≤ 57) = false := decide_eq_false (by omega)
        have HB : Hid (sg (l.getD k 0) = false) := hide (by rw [HSG.out, h1, h2, h3, h4]; rfl)
        clear hx HSG
        have HN := hide (all_no (p := sg) hlt HB.out)
        go_wp2_with fail
        go_ret
        exact ⟨ret_b (by rw [HN.out]; simp), rfl⟩
    · have hk' : k = l.length := by omega
      subst hk'
      have HN := hide (all_of HA.out)
      cases h1 : decide (a ≤ (l.length : Int)) <;> cases h2 : decide ((l.length : Int) ≤ b)
      all_goals
        go_wp2_with fail
        go_ret
        exact ⟨ret_b (by have := HN.out; first | rfl | simp [this] | simp_all), rfl⟩
theorem refName_any (l : List UInt8) (w : World) (hl : l.length ≤ 140737488355328) :
    Calls Tryz.prog 95 #[.string ⟨l.toArray⟩] w fun e w' => e = .returned (.bool (nameB l)) ∧ w' = w := by
  have HG := hide (refGreat_any l 1 16 w hl)
  have HE : Hid (nameB l = (decide ((1 : Int) ≤ (l.length : Int)) && decide ((l.length : Int) ≤ 16) && l.all sg)) := by
    show _ = _
    unfold nameB
    rw [show decide (1 ≤ l.length) = decide ((1 : Int) ≤ (l.length : Int)) from decide_eq_decide.2 (by omega), show decide (l.length ≤ 16) = decide ((l.length : Int) ≤ 16) from decide_eq_decide.2 (by omega)]
  rw [← HE.out] at HG
  go_enter Tryz.func95, Tryz.ntmps95
  go_wp2_with fail
  refine HG.out.mono ?_
  rintro e w' ⟨rfl, rfl⟩
  go_wp2_with fail
  go_ret
  exact ⟨rfl, rfl⟩
theorem refQual_any (l : List UInt8) (w : World) (hl : l.length ≤ 140737488355328) :
    Calls Tryz.prog 77 #[.string ⟨l.toArray⟩] w fun e w' => e = .returned (.bool (qualB l)) ∧ w' = w := by
  have HG := hide (refGreat_any l 4 4 w hl)
  have HE : Hid (qualB l = (decide ((4 : Int) ≤ (l.length : Int)) && decide ((l.length : Int) ≤ 4) && l.all sg)) := by
    show _ = _
    unfold qualB
    rw [← Bool.decide_and, show decide (l.length = 4) = decide ((4 : Int) ≤ (l.length : Int) ∧ (l.length : Int) ≤ 4) from decide_eq_decide.2 (by omega)]
  rw [← HE.out] at HG
  go_enter Tryz.func77, Tryz.ntmps77
  go_wp2_with fail
  refine HG.out.mono ?_
  rintro e w' ⟨rfl, rfl⟩
  go_wp2_with fail
  go_ret
  exact ⟨rfl, rfl⟩
end Go.Proofs.YtpkgaidnpooahaaGreatDoor
namespace Go.Proofs.YtpkgaidnpooahaaGreatDoor
open Go.RowKit

def r16 : List UInt8 := [49, 54, 82]
def s16 : List UInt8 := [49, 54, 83]
def tagB (l : List UInt8) : Bool := (decide (l.length = 2) || decide (l.length = 3)) && isDg (l.getD 0 0) && isDg (l.getD 1 0) && (decide (l.length = 2) || isCp (l.getD 2 0)) && !(l == r16) && !(l == s16)
theorem beq_len {l m : List UInt8} (h : l.length ≠ m.length) : (l == m) = false := beq_eq_false_iff_ne.2 (fun e => h (by rw [e]))
theorem tagB_len {l : List UInt8} (h2 : l.length ≠ 2) (h3 : l.length ≠ 3) : tagB l = false := by unfold tagB; rw [decide_eq_false h2, decide_eq_false h3]; rfl
theorem tagB_two {l : List UInt8} (h : l.length = 2) : tagB l = (isDg (l.getD 0 0) && isDg (l.getD 1 0)) := by
  unfold tagB; rw [decide_eq_true h, beq_len (m := r16) (by rw [h]; decide), beq_len (m := s16) (by rw [h]; decide)]; simp
theorem tagB_three {l : List UInt8} (h : l.length = 3) : tagB l = (isDg (l.getD 0 0) && isDg (l.getD 1 0) && isCp (l.getD 2 0) && !(l == r16) && !(l == s16)) := by
  unfold tagB; rw [decide_eq_true h, decide_eq_false (show ¬ l.length = 2 by omega)]; simp
set_option maxRecDepth 100000 in
set_option maxHeartbeats 4000000 in
theorem tIsTag_any (l : List UInt8) (w : World) (hl : l.length ≤ 140737488355328) :
    Calls Tryz.prog 89 #[.string ⟨l.toArray⟩] w fun e w' => e = .returned (.bool (tagB l)) ∧ w' = w := by
  by_cases h2 : l.length = 2
  · rw [tagB_two h2]
    have e3 : ((l.length : Int) == 3) = false := by rw [h2]; rfl
    have e2 : ((l.length : Int) == 2) = true := by rw [h2]; rfl
    have eR : (l == [49, 54, 82]) = false := beq_len (by rw [h2]; decide)
    have eS : (l == [49, 54, 83]) = false := beq_len (by rw [h2]; decide)
    have s0 : 0 < (⟨l.toArray⟩ : ByteArray).size := by rw [bytes_size]; omega
    have s1 : 1 < (⟨l.toArray⟩ : ByteArray).size := by rw [bytes_size]; omega
    obtain ⟨a, ha, Ha⟩ : ∃ c, (⟨l.toArray⟩ : ByteArray)[0]'s0 = c ∧ l.getD 0 0 = c := ⟨_, rfl, getD_at (by omega)⟩
    obtain ⟨b, hb, Hb⟩ : ∃ c, (⟨l.toArray⟩ : ByteArray)[1]'s1 = c ∧ l.getD 1 0 = c := ⟨_, rfl, getD_at (by omega)⟩
    rw [Ha, Hb]
    have lt0 : 0 < l.length := by omega
    have lt1 : 1 < l.length := by omega
    have HA := hide (fun W : World => tIsDigit_any a W)
    have HB := hide (fun W : World => tIsDigit_any b W)
    clear Ha Hb h2
    cases qa : isDg a
    · rw [qa] at HA
      go_enter Tryz.func89, Tryz.ntmps89
      go_wp2_with fail
      refine (HA.out _).mono ?_
      rintro e w' ⟨rfl, rfl⟩
      go_wp2_with fail
      go_ret
      exact ⟨ret_b (by simp), rfl⟩
    · rw [qa] at HA
      go_enter Tryz.func89, Tryz.ntmps89
      go_wp2_with fail
      refine (HA.out _).mono ?_
      rintro e w' ⟨rfl, rfl⟩
      go_wp2_with fail
      refine (HB.out _).mono ?_
      rintro e w' ⟨rfl, rfl⟩
      go_wp2_with fail
      go_ret
      exact ⟨ret_b (by simp), rfl⟩
  by_cases h3 : l.length = 3
  · rw [tagB_three h3]
    have e3 : ((l.length : Int) == 3) = true := by rw [h3]; rfl
    have e2 : ((l.length : Int) == 2) = false := by rw [h3]; rfl
    have s0 : 0 < (⟨l.toArray⟩ : ByteArray).size := by rw [bytes_size]; omega
    have s1 : 1 < (⟨l.toArray⟩ : ByteArray).size := by rw [bytes_size]; omega
    have s2 : 2 < (⟨l.toArray⟩ : ByteArray).size := by rw [bytes_size]; omega
    obtain ⟨a, ha, Ha⟩ : ∃ c, (⟨l.toArray⟩ : ByteArray)[0]'s0 = c ∧ l.getD 0 0 = c := ⟨_, rfl, getD_at (by omega)⟩
    obtain ⟨b, hb, Hb⟩ : ∃ c, (⟨l.toArray⟩ : ByteArray)[1]'s1 = c ∧ l.getD 1 0 = c := ⟨_, rfl, getD_at (by omega)⟩
    obtain ⟨c, hc, Hc⟩ : ∃ c, (⟨l.toArray⟩ : ByteArray)[2]'s2 = c ∧ l.getD 2 0 = c := ⟨_, rfl, getD_at (by omega)⟩
    rw [Ha, Hb, Hc]
    have lt0 : 0 < l.length := by omega
    have lt1 : 1 < l.length := by omega
    have lt2 : 2 < l.length := by omega
    have HA := hide (fun W : World => tIsDigit_any a W)
    have HB := hide (fun W : World => tIsDigit_any b W)
    have HC := hide (fun W : World => tIsCapital_any c W)
    unfold r16 s16
    clear Ha Hb Hc h2 h3
    cases qc : isCp c
    · rw [qc] at HC
      go_enter Tryz.func89, Tryz.ntmps89
      go_wp2_with fail
      refine (HC.out _).mono ?_
      rintro e w' ⟨rfl, rfl⟩
      go_wp2_with fail
      go_ret
      exact ⟨ret_b (by simp), rfl⟩
    rw [qc] at HC
    cases eR : (l == [49, 54, 82])
    case true =>
      go_enter Tryz.func89, Tryz.ntmps89
      go_wp2_with fail
      refine (HC.out _).mono ?_
      rintro e w' ⟨rfl, rfl⟩
      go_wp2_with fail
      go_ret
      exact ⟨ret_b (by simp), rfl⟩
    cases eS : (l == [49, 54, 83])
    case true =>
      go_enter Tryz.func89, Tryz.ntmps89
      go_wp2_with fail
      refine (HC.out _).mono ?_
      rintro e w' ⟨rfl, rfl⟩
      go_wp2_with fail
      go_ret
      exact ⟨ret_b (by simp), rfl⟩
    cases qa : isDg a
    · rw [qa] at HA
      go_enter Tryz.func89, Tryz.ntmps89
      go_wp2_with fail
      refine (HC.out _).mono ?_
      rintro e w' ⟨rfl, rfl⟩
      go_wp2_with fail
      refine (HA.out _).mono ?_
      rintro e w' ⟨rfl, rfl⟩
      go_wp2_with fail
      go_ret
      exact ⟨ret_b (by simp), rfl⟩
    · rw [qa] at HA
      go_enter Tryz.func89, Tryz.ntmps89
      go_wp2_with fail
      refine (HC.out _).mono ?_
      rintro e w' ⟨rfl, rfl⟩
      go_wp2_with fail
      refine (HA.out _).mono ?_
      rintro e w' ⟨rfl, rfl⟩
      go_wp2_with fail
      refine (HB.out _).mono ?_
      rintro e w' ⟨rfl, rfl⟩
      go_wp2_with fail
      go_ret
      exact ⟨ret_b (by simp), rfl⟩
  rw [tagB_len h2 h3]
  have e3 : ((l.length : Int) == 3) = false := beq_eq_false_iff_ne.2 (by omega)
  have e2 : ((l.length : Int) == 2) = false := beq_eq_false_iff_ne.2 (by omega)
  have eR : (l == [49, 54, 82]) = false := beq_len (by simpa using h3)
  have eS : (l == [49, 54, 83]) = false := beq_len (by simpa using h3)
  clear h2 h3
  go_enter Tryz.func89, Tryz.ntmps89
  go_wp2_with fail
  go_ret
  exact ⟨ret_b (by simp), rfl⟩
theorem isDg_alt (c : UInt8) : isDg c = (!decide ((c.toNat : Int) < 48) && !decide (57 < (c.toNat : Int))) := by
  unfold isDg
  rw [show decide (48 ≤ (c.toNat : Int)) = !decide ((c.toNat : Int) < 48) from by rw [← decide_not]; exact decide_eq_decide.2 (by omega), show decide ((c.toNat : Int) ≤ 57) = !decide (57 < (c.toNat : Int)) from by rw [← decide_not]; exact decide_eq_decide.2 (by omega)]
set_option maxRecDepth 100000 in
set_option maxHeartbeats 4000000 in
theorem refTag_any (l : List UInt8) (w : World) (hl : l.length ≤ 140737488355328) :
    Calls Tryz.prog 76 #[.string ⟨l.toArray⟩] w fun e w' => e = .returned (.bool (tagB l)) ∧ w' = w := by
  by_cases h2 : l.length < 2
  · rw [tagB_len (by omega) (by omega)]
    go_enter Tryz.func76, Tryz.ntmps76
    go_wp2_with fail
    go_ret
    exact ⟨ret_b (by first | rfl | simp), rfl⟩
  by_cases h4 : 3 < l.length
  · rw [tagB_len (by omega) (by omega)]
    go_enter Tryz.func76, Tryz.ntmps76
    go_wp2_with fail
    go_ret
    exact ⟨ret_b (by first | rfl | simp), rfl⟩
  have s0 : 0 < (⟨l.toArray⟩ : ByteArray).size := by rw [bytes_size]; omega
  have s1 : 1 < (⟨l.toArray⟩ : ByteArray).size := by rw [bytes_size]; omega
  obtain ⟨a, ha, Ha⟩ : ∃ c, (⟨l.toArray⟩ : ByteArray)[0]'s0 = c ∧ Hid (l.getD 0 0 = c) := ⟨_, rfl, hide (getD_at (by omega))⟩
  obtain ⟨b, hb, Hb⟩ : ∃ c, (⟨l.toArray⟩ : ByteArray)[1]'s1 = c ∧ Hid (l.getD 1 0 = c) := ⟨_, rfl, hide (getD_at (by omega))⟩
  have lt0 : 0 < l.length := by omega
  have lt1 : 1 < l.length := by omega
  by_cases h3 : l.length = 2
  · have HR : Hid (tagB l = (isDg a && isDg b)) := by show _ = _; rw [tagB_two h3, Ha.out, Hb.out]
    rw [isDg_alt, isDg_alt] at HR
    have e2 : ((l.length : Int) == 2) = true := by rw [h3]; rfl
    have eR : (l == [49, 54, 82]) = false := beq_len (by rw [h3]; decide)
    have eS : (l == [49, 54, 83]) = false := beq_len (by rw [h3]; decide)
    clear h3
    obtain ⟨x, hxa⟩ : ∃ x : Nat, a.toNat = x := ⟨_, rfl⟩
    rw [hxa] at HR
    obtain ⟨y, hxb⟩ : ∃ x : Nat, b.toNat = x := ⟨_, rfl⟩
    rw [hxb] at HR
    cases a1 : decide ((x : Int) < 48)
    case true =>
      rw [a1] at HR
      rw [show tagB l = false from by rw [HR.out]; simp]
      go_enter Tryz.func76, Tryz.ntmps76
      go_wp2_with fail
      go_ret
      exact ⟨ret_b (by first | rfl | simp), rfl⟩
    cases a2 : decide (57 < (x : Int))
    case true =>
      rw [a1, a2] at HR
      rw [show tagB l = false from by rw [HR.out]; simp]
      go_enter Tryz.func76, Tryz.ntmps76
      go_wp2_with fail
      go_ret
      exact ⟨ret_b (by first | rfl | simp), rfl⟩
    cases b1 : decide ((y : Int) < 48)
    case true =>
      rw [a1, a2, b1] at HR
      rw [show tagB l = false from by rw [HR.out]; simp]
      go_enter Tryz.func76, Tryz.ntmps76
      go_wp2_with fail
      go_ret
      exact ⟨ret_b (by first | rfl | simp), rfl⟩
    cases b2 : decide (57 < (y : Int))
    case true =>
      rw [a1, a2, b1, b2] at HR
      rw [show tagB l = false from by rw [HR.out]; simp]
      go_enter Tryz.func76, Tryz.ntmps76
      go_wp2_with fail
      go_ret
      exact ⟨ret_b (by first | rfl | simp), rfl⟩
    rw [a1, a2, b1, b2] at HR
    rw [show tagB l = true from by rw [HR.out]; rfl]
    go_enter Tryz.func76, Tryz.ntmps76
    go_wp2_with fail
    go_ret
    exact ⟨ret_b (by first | rfl | simp), rfl⟩
  have h3' : l.length = 3 := by omega
  have s2 : 2 < (⟨l.toArray⟩ : ByteArray).size := by rw [bytes_size]; omega
  obtain ⟨c, hc, Hc⟩ : ∃ c, (⟨l.toArray⟩ : ByteArray)[2]'s2 = c ∧ Hid (l.getD 2 0 = c) := ⟨_, rfl, hide (getD_at (by omega))⟩
  have lt2 : 2 < l.length := by omega
  have HR : Hid (tagB l = (isDg a && isDg b && isCp c && !(l == [49, 54, 82]) && !(l == [49, 54, 83]))) := by show _ = _; rw [tagB_three h3', Ha.out, Hb.out, Hc.out]; rfl
  rw [isDg_alt, isDg_alt] at HR
  unfold isCp at HR
  have e2 : ((l.length : Int) == 2) = false := by rw [h3']; rfl
  cases eR : (l == [49, 54, 82])
  case true =>
    rw [eR] at HR
    rw [show tagB l = false from by rw [HR.out]; simp]
    go_enter Tryz.func76, Tryz.ntmps76
    go_wp2_with fail
    go_ret
    exact ⟨ret_b (by first | rfl | simp), rfl⟩
  cases eS : (l == [49, 54, 83])
  case true =>
    rw [eS] at HR
    rw [show tagB l = false from by rw [HR.out]; simp]
    go_enter Tryz.func76, Tryz.ntmps76
    go_wp2_with fail
    go_ret
    exact ⟨ret_b (by first | rfl | simp), rfl⟩
  rw [eR, eS] at HR
  clear h3 h3'
  obtain ⟨x, hxa⟩ : ∃ x : Nat, a.toNat = x := ⟨_, rfl⟩
  rw [hxa] at HR
  obtain ⟨y, hxb⟩ : ∃ x : Nat, b.toNat = x := ⟨_, rfl⟩
  rw [hxb] at HR
  obtain ⟨z, hxc⟩ : ∃ x : Nat, c.toNat = x := ⟨_, rfl⟩
  rw [hxc] at HR
  cases a1 : decide ((x : Int) < 48)
  case true =>
    rw [a1] at HR
    rw [show tagB l = false from by rw [HR.out]; simp]
    go_enter Tryz.func76, Tryz.ntmps76
    go_wp2_with fail
    go_ret
    exact ⟨ret_b (by first | rfl | simp), rfl⟩
  cases a2 : decide (57 < (x : Int))
  case true =>
    rw [a1, a2] at HR
    rw [show tagB l = false from by rw [HR.out]; simp]
    go_enter Tryz.func76, Tryz.ntmps76
    go_wp2_with fail
    go_ret
    exact ⟨ret_b (by first | rfl | simp), rfl⟩
  cases b1 : decide ((y : Int) < 48)
  case true =>
    rw [a1, a2, b1] at HR
    rw [show tagB l = false from by rw [HR.out]; simp]
    go_enter Tryz.func76, Tryz.ntmps76
    go_wp2_with fail
    go_ret
    exact ⟨ret_b (by first | rfl | simp), rfl⟩
  cases b2 : decide (57 < (y : Int))
  case true =>
    rw [a1, a2, b1, b2] at HR
    rw [show tagB l = false from by rw [HR.out]; simp]
    go_enter Tryz.func76, Tryz.ntmps76
    go_wp2_with fail
    go_ret
    exact ⟨ret_b (by first | rfl | simp), rfl⟩
  cases c1 : decide (65 ≤ (z : Int))
  case false =>
    rw [a1, a2, b1, b2, c1] at HR
    rw [show tagB l = false from by rw [HR.out]; simp]
    go_enter Tryz.func76, Tryz.ntmps76
    go_wp2_with fail
    go_ret
    exact ⟨ret_b (by first | rfl | simp), rfl⟩
  cases c2 : decide ((z : Int) ≤ 90)
  case false =>
    rw [a1, a2, b1, b2, c1, c2] at HR
    rw [show tagB l = false from by rw [HR.out]; simp]
    go_enter Tryz.func76, Tryz.ntmps76
    go_wp2_with fail
    go_ret
    exact ⟨ret_b (by first | rfl | simp), rfl⟩
  rw [a1, a2, b1, b2, c1, c2] at HR
  rw [show tagB l = true from by rw [HR.out]; rfl]
  go_enter Tryz.func76, Tryz.ntmps76
  go_wp2_with fail
  go_ret
  exact ⟨ret_b (by first | rfl | simp), rfl⟩
end Go.Proofs.YtpkgaidnpooahaaGreatDoor
