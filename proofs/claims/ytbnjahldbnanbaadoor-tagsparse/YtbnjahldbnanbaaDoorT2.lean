/-
  My own text: names, qualifiers and tags: the program's looks, and the document's (printed by mkt2.py).
-/
import Derived.Test.YtbnjahldbnanbaaDoorT1
namespace Go.Proofs.YtbnjahldbnanbaaDoor
open Go.RowKit

theorem getD_at {l : List UInt8} {k : Nat} (h : k < l.length) : l.getD k 0 = l[k] := by rw [List.getD_eq_getElem?_getD, List.getElem?_eq_getElem h]; rfl
def fstNot (p : UInt8 → Bool) (l : List UInt8) : Nat := l.findIdx fun c => !p c
theorem fstNot_at {p : UInt8 → Bool} {l : List UInt8} {k : Nat} (hk : k < l.length) (h : ∀ j, j < k → p (l.getD j 0) = true) (hb : p (l.getD k 0) = false) : fstNot p l = k := by
  unfold fstNot
  rw [List.findIdx_eq hk]
  refine ⟨by rw [← getD_at hk, hb]; rfl, fun j hj => ?_⟩
  have := h j hj
  rw [getD_at (by omega)] at this
  simp [this]
theorem fstNot_all {p : UInt8 → Bool} {l : List UInt8} (h : ∀ j, j < l.length → p (l.getD j 0) = true) : fstNot p l = l.length := by
  unfold fstNot
  rw [List.findIdx_eq_length]
  intro c hc
  obtain ⟨j, hj, rfl⟩ := List.getElem_of_mem hc
  have := h j hj
  rw [getD_at hj] at this
  simp [this]
theorem fstNot_le (p : UInt8 → Bool) (l : List UInt8) : fstNot p l ≤ l.length := List.findIdx_le_length
theorem fstNot_eq (p : UInt8 → Bool) (l : List UInt8) : decide (fstNot p l = l.length) = l.all p := by
  rw [Bool.eq_iff_iff, decide_eq_true_iff, List.all_eq_true]
  unfold fstNot
  rw [List.findIdx_eq_length]
  simp
theorem all_of {p : UInt8 → Bool} {l : List UInt8} (h : ∀ j, j < l.length → p (l.getD j 0) = true) : l.all p = true := by
  rw [List.all_eq_true]; intro c hc
  obtain ⟨j, hj, rfl⟩ := List.getElem_of_mem hc
  rw [← getD_at hj]; exact h j hj
theorem all_no {p : UInt8 → Bool} {l : List UInt8} {k : Nat} (hk : k < l.length) (hb : p (l.getD k 0) = false) : l.all p = false := by
  rw [List.all_eq_false]
  exact ⟨l[k], List.getElem_mem _, by rw [← getD_at hk, hb]; simp⟩
set_option maxRecDepth 100000 in
set_option maxHeartbeats 1000000 in
theorem firstSg_any (l : List UInt8) (w : World) (hl : l.length ≤ 140737488355328) :
    Calls Tryd.prog 49 #[.func (Fn.func 57) #[] #[], .string ⟨l.toArray⟩] w fun e w' => e = .returned (.int .i64 (fstNot (fun c => sg c) l : Int)) ∧ w' = w := by
  go_enter Tryd.func49, Tryd.ntmps49
  go_wp2_with fail
  go_loop [8] (fun i => ∃ k : Nat, k ≤ l.length ∧ i = .int .i64 k ∧ Hid (∀ j, j < k → (fun c => sg c) (l.getD j 0) = true)) (fun i => l.length - (intOf i).toNat)
  case atStart => exact ⟨0, Nat.zero_le _, rfl, hide (fun j hj => by omega)⟩
  case round =>
    obtain ⟨k, hk, rfl, HA⟩ := hrel
    by_cases hlt : k < l.length
    · have hs1 : k < (⟨l.toArray⟩ : ByteArray).size := by rw [bytes_size]; exact hlt
      obtain ⟨c, hc, Hc⟩ : ∃ c, (⟨l.toArray⟩ : ByteArray)[k]'hs1 = c ∧ Hid (l.getD k 0 = c) := ⟨_, rfl, by rw [getD_at hlt]; exact hide rfl⟩
      have HS := hide (fun W : World => tSign_any c W)
      cases hb : (fun c => sg c) c
      · have HR := hide (fstNot_at (p := fun c => sg c) hlt HA.out (by rw [Hc.out]; exact hb))
        have hb' := hb
        dsimp only at hb'
        rw [hb'] at HS
        go_wp2_with fail
        refine (HS.out _).mono ?_
        rintro e w' ⟨rfl, rfl⟩
        go_wp2_with fail
        go_ret
        exact ⟨ret_i (by rw [HR.out]), rfl⟩
      · have HX : Hid (∀ j, j < k + 1 → (fun c => sg c) (l.getD j 0) = true) := hide (fun j hj => by
          by_cases e : j = k
          · subst e; rw [Hc.out]; exact hb
          · exact HA.out j (by omega))
        have hb' := hb
        dsimp only at hb'
        rw [hb'] at HS
        go_wp2_with fail
        refine (HS.out _).mono ?_
        rintro e w' ⟨rfl, rfl⟩
        go_wp2_with fail
        go_round
        case rel => exact ⟨k + 1, by omega, by go_num, HX⟩
        case measure => simp [intOf]; omega
    · have hk' : k = l.length := by omega
      subst hk'
      have HR := hide (fstNot_all (p := fun c => sg c) HA.out)
      go_wp2_with fail
      go_ret
      exact ⟨ret_i (by rw [HR.out]), rfl⟩
def nameB (l : List UInt8) : Bool := decide (1 ≤ l.length) && decide (l.length ≤ 16) && l.all sg
def qualB (l : List UInt8) : Bool := decide (l.length = 4) && l.all sg
set_option maxHeartbeats 1000000 in
theorem tIsName_any (l : List UInt8) (w : World) (hl : l.length ≤ 140737488355328) :
    Calls Tryd.prog 52 #[.string ⟨l.toArray⟩] w fun e w' => e = .returned (.bool (nameB l)) ∧ w' = w := by
  have HF := hide (firstSg_any l w hl)
  have HE := hide (fstNot_eq sg l)
  have HQ : Hid ((fun c => sg c) = sg) := hide rfl
  unfold nameB
  by_cases h0 : 1 ≤ l.length
  · by_cases h1 : l.length ≤ 16
    · rw [decide_eq_true h0, decide_eq_true h1, ← HE.out]
      obtain ⟨m, Hm⟩ : ∃ m, Hid (fstNot sg l = m) := ⟨_, hide rfl⟩
      rw [show (fun c => sg c) = sg from rfl, Hm.out] at HF
      rw [Hm.out]
      have hq : ((m : Int) == (l.length : Int)) = decide (m = l.length) := by rw [Bool.eq_iff_iff]; simp only [beq_iff_eq, decide_eq_true_iff]; omega
      clear Hm HE HQ
      go_enter Tryd.func52, Tryd.ntmps52
      go_wp2_with fail
      refine HF.out.mono ?_
      rintro e w' ⟨rfl, rfl⟩
      go_wp2_with fail
      go_ret
      exact ⟨ret_b (by first | rfl | (rw [hq]; simp) | (rw [← hq]; simp) | simp_all), rfl⟩
    · rw [decide_eq_false h1]
      have h1' : 16 < l.length := by omega
      clear h1 HE HQ
      go_enter Tryd.func52, Tryd.ntmps52
      go_wp2_with fail
      go_ret
      exact ⟨ret_b (by simp), rfl⟩
  · rw [decide_eq_false h0]
    have h0' : l.length < 1 := by omega
    clear h0 HE HQ
    go_enter Tryd.func52, Tryd.ntmps52
    go_wp2_with fail
    go_ret
    exact ⟨ret_b (by simp), rfl⟩
set_option maxHeartbeats 1000000 in
theorem tIsQual_any (l : List UInt8) (w : World) (hl : l.length ≤ 140737488355328) :
    Calls Tryd.prog 55 #[.string ⟨l.toArray⟩] w fun e w' => e = .returned (.bool (qualB l)) ∧ w' = w := by
  have HF := hide (firstSg_any l w hl)
  have HE := hide (fstNot_eq sg l)
  unfold qualB
  by_cases h0 : l.length = 4
  · rw [decide_eq_true h0, ← HE.out]
    obtain ⟨m, Hm⟩ : ∃ m, Hid (fstNot sg l = m) := ⟨_, hide rfl⟩
    rw [show (fun c => sg c) = sg from rfl, Hm.out] at HF
    rw [Hm.out]
    have hb : ((l.length : Int) == 4) = true := by rw [h0]; rfl
    have hq : ((m : Int) == 4) = decide (m = l.length) := by rw [Bool.eq_iff_iff]; simp only [beq_iff_eq, decide_eq_true_iff]; omega
    clear Hm HE h0
    go_enter Tryd.func55, Tryd.ntmps55
    go_wp2_with fail
    refine HF.out.mono ?_
    rintro e w' ⟨rfl, rfl⟩
    go_wp2_with fail
    go_ret
    exact ⟨ret_b (by first | rfl | (rw [hq]; simp) | (rw [← hq]; simp) | simp_all), rfl⟩
  · rw [decide_eq_false h0]
    have hb : ((l.length : Int) == 4) = false := beq_eq_false_iff_ne.2 (by omega)
    clear h0 HE
    go_enter Tryd.func55, Tryd.ntmps55
    go_wp2_with fail
    go_ret
    exact ⟨ret_b (by simp), rfl⟩
set_option maxRecDepth 100000 in
set_option maxHeartbeats 2000000 in
theorem refGreat_any (l : List UInt8) (a b : Int) (w : World) (hl : l.length ≤ 140737488355328) :
    Calls Tryd.prog 36 #[.string ⟨l.toArray⟩, .int .i64 a, .int .i64 b] w fun e w' => e = .returned (.bool (decide (a ≤ (l.length : Int)) && decide ((l.length : Int) ≤ b) && l.all sg)) ∧ w' = w := by
  go_enter Tryd.func36, Tryd.ntmps36
  go_wp2_with fail
  go_loop [7] (fun i => ∃ k : Nat, k ≤ l.length ∧ i = .int .i64 k ∧ Hid (∀ j, j < k → sg (l.getD j 0) = true)) (fun i => l.length - (intOf i).toNat)
  case atStart => exact ⟨0, Nat.zero_le _, rfl, hide (fun j hj => by omega)⟩
  case round =>
    obtain ⟨k, hk, rfl, HA⟩ := hrel
    by_cases hlt : k < l.length
    · have hs1 : k < (⟨l.toArray⟩ : ByteArray).size := by rw [bytes_size]; exact hlt
      obtain ⟨c, hc, Hc⟩ : ∃ c, (⟨l.toArray⟩ : ByteArray)[k]'hs1 = c ∧ Hid (l.getD k 0 = c) := ⟨_, rfl, by rw [getD_at hlt]; exact hide rfl⟩
      have HSG : Hid (sg (l.getD k 0) = ((decide (48 ≤ (c.toNat : Int)) && decide ((c.toNat : Int) ≤ 57)) || (decide (65 ≤ (c.toNat : Int)) && decide ((c.toNat : Int) ≤ 90)))) := by show _ = _; rw [Hc.out]; rfl
      obtain ⟨x, hx0, Hx0⟩ : ∃ x : Nat, c.toNat = x ∧ Hid (c.toNat = x) := ⟨_, rfl, hide rfl⟩
      rw [hx0] at HSG
      rcases (show x < 48 ∨ (48 ≤ x ∧ x ≤ 57) ∨ (57 < x ∧ x < 65) ∨ (65 ≤ x ∧ x ≤ 90) ∨ 90 < x by omega) with hx | hx | hx | hx | hx
      · have h1 : decide (65 ≤ (x : Int)) = false := decide_eq_false (by omega)
        have h2 : decide ((x : Int) ≤ 90) = true := decide_eq_true (by omega)
        have h3 : decide (48 ≤ (x : Int)) = false := decide_eq_false (by omega)
        have h4 : decide ((x : Int) ≤ 57) = true := decide_eq_true (by omega)
        have HB : Hid (sg (l.getD k 0) = false) := hide (by rw [HSG.out, h1, h2, h3, h4]; rfl)
        clear hx HSG
        have HN := hide (all_no (p := sg) hlt HB.out)
        go_wp2_with fail
        go_ret
        exact ⟨ret_b (by rw [HN.out]; simp), rfl⟩
      · have h1 : decide (65 ≤ (x : Int)) = false := decide_eq_false (by omega)
        have h2 : decide ((x : Int) ≤ 90) = true := decide_eq_true (by omega)
        have h3 : decide (48 ≤ (x : Int)) = true := decide_eq_true (by omega)
        have h4 : decide ((x : Int) ≤ 57) = true := decide_eq_true (by omega)
        have HB : Hid (sg (l.getD k 0) = true) := hide (by rw [HSG.out, h1, h2, h3, h4]; rfl)
        clear hx HSG
        have HX : Hid (∀ j, j < k + 1 → sg (l.getD j 0) = true) := hide (fun j hj => by
          by_cases e : j = k
          · subst e; exact HB.out
          · exact HA.out j (by omega))
        go_wp2_with fail
        go_round
        case rel => exact ⟨k + 1, by omega, by go_num, HX⟩
        case measure => simp [intOf]; omega
      · have h1 : decide (65 ≤ (x : Int)) = false := decide_eq_false (by omega)
        have h2 : decide ((x : Int) ≤ 90) = true := decide_eq_true (by omega)
        have h3 : decide (48 ≤ (x : Int)) = true := decide_eq_true (by omega)
        have h4 : decide ((x : Int) ≤ 57) = false := decide_eq_false (by omega)
        have HB : Hid (sg (l.getD k 0) = false) := hide (by rw [HSG.out, h1, h2, h3, h4]; rfl)
        clear hx HSG
        have HN := hide (all_no (p := sg) hlt HB.out)
        go_wp2_with fail
        go_ret
        exact ⟨ret_b (by rw [HN.out]; simp), rfl⟩
      · have h1 : decide (65 ≤ (x : Int)) = true := decide_eq_true (by omega)
        have h2 : decide ((x : Int) ≤ 90) = true := decide_eq_true (by omega)
        have h3 : decide (48 ≤ (x : Int)) = true := decide_eq_true (by omega)
        have h4 : decide ((x : Int) ≤ 57) = false := decide_eq_false (by omega)
        have HB : Hid (sg (l.getD k 0) = true) := hide (by rw [HSG.out, h1, h2, h3, h4]; rfl)
        clear hx HSG
        have HX : Hid (∀ j, j < k + 1 → sg (l.getD j 0) = true) := hide (fun j hj => by
          by_cases e : j = k
          · subst e; exact HB.out
          · exact HA.out j (by omega))
        go_wp2_with fail
        go_round
        case rel => exact ⟨k + 1, by omega, by go_num, HX⟩
        case measure => simp [intOf]; omega
      · have h1 : decide (65 ≤ (x : Int)) = true := decide_eq_true (by omega)
        have h2 : decide ((x : Int) ≤ 90) = false := decide_eq_false (by omega)
        have h3 : decide (48 ≤ (x : Int)) = true := decide_eq_true (by omega)
        have h4 : decide ((x : Int) ≤ 57) = false := decide_eq_false (by omega)
        have HB : Hid (sg (l.getD k 0) = false) := hide (by rw [HSG.out, h1, h2, h3, h4]; rfl)
        clear hx HSG
        have HN := hide (all_no (p := sg) hlt HB.out)
        go_wp2_with fail
        go_ret
        exact ⟨ret_b (by rw [HN.out]; simp), rfl⟩
    · have hk' : k = l.length := by omega
      subst hk'
      have HN := hide (all_of HA.out)
      cases h1 : decide (a ≤ (l.length : Int)) <;> cases h2 : decide ((l.length : Int) ≤ b)
      all_goals
        go_wp2_with fail
        go_ret
        exact ⟨ret_b (by have := HN.out; first | rfl | simp [this] | simp_all), rfl⟩
theorem refName_any (l : List UInt8) (w : World) (hl : l.length ≤ 140737488355328) :
    Calls Tryd.prog 35 #[.string ⟨l.toArray⟩] w fun e w' => e = .returned (.bool (nameB l)) ∧ w' = w := by
  have HG := hide (refGreat_any l 1 16 w hl)
  have HE : Hid (nameB l = (decide ((1 : Int) ≤ (l.length : Int)) && decide ((l.length : Int) ≤ 16) && l.all sg)) := by
    show _ = _
    unfold nameB
    rw [show decide (1 ≤ l.length) = decide ((1 : Int) ≤ (l.length : Int)) from decide_eq_decide.2 (by omega), show decide (l.length ≤ 16) = decide ((l.length : Int) ≤ 16) from decide_eq_decide.2 (by omega)]
  rw [← HE.out] at HG
  go_enter Tryd.func35, Tryd.ntmps35
  go_wp2_with fail
  refine HG.out.mono ?_
  rintro e w' ⟨rfl, rfl⟩
  go_wp2_with fail
  go_ret
  exact ⟨rfl, rfl⟩
theorem refQual_any (l : List UInt8) (w : World) (hl : l.length ≤ 140737488355328) :
    Calls Tryd.prog 24 #[.string ⟨l.toArray⟩] w fun e w' => e = .returned (.bool (qualB l)) ∧ w' = w := by
  have HG := hide (refGreat_any l 4 4 w hl)
  have HE : Hid (qualB l = (decide ((4 : Int) ≤ (l.length : Int)) && decide ((l.length : Int) ≤ 4) && l.all sg)) := by
    show _ = _
    unfold qualB
    rw [← Bool.decide_and, show decide (l.length = 4) = decide ((4 : Int) ≤ (l.length : Int) ∧ (l.length : Int) ≤ 4) from decide_eq_decide.2 (by omega)]
  rw [← HE.out] at HG
  go_enter Tryd.func24, Tryd.ntmps24
  go_wp2_with fail
  refine HG.out.mono ?_
  rintro e w' ⟨rfl, rfl⟩
  go_wp2_with fail
  go_ret
  exact ⟨rfl, rfl⟩
end Go.Proofs.YtbnjahldbnanbaaDoor
