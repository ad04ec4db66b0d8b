/-
  My own text: names, qualifiers and tags: the program's looks, and the document's (printed by mkt2.py).
-/
import Derived.Test.YtklhbhhkooddoaaT1
namespace Go.Proofs.Ytklhbhhkooddoaa
open Go.RowKit

theorem getD_at {l : List UInt8} {k : Nat} (h : k < l.length) : l.getD k 0 = l[k] := by rw [List.getD_eq_getElem?_getD, List.getElem?_eq_getElem h]; rfl
def fstNot (p : UInt8 → Bool) (l : List UInt8) : Nat := l.findIdx fun c => !p c
theorem fstNot_at {p : UInt8 → Bool} {l : List UInt8} {k : Nat} (hk : k < l.length) (h : ∀ j, j < k → p (l.getD j 0) = true) (hb : p (l.getD k 0) = false) : fstNot p l = k := by
  unfold fstNot
  rw [List.findIdx_eq hk]
  refine ⟨by rw [← getD_at hk, hb]; rfl, fun j hj => ?_⟩
  have := h j hj
  rw [getD_at (by omega)] at this
  simp [this]
theorem fstNot_all {p : UInt8 → Bool} {l : List UInt8} (h : ∀ j, j < l.length → p (l.getD j 0) = true) : fstNot p l = l.length := by
  unfold fstNot
  rw [List.findIdx_eq_length]
  intro c hc
  obtain ⟨j, hj, rfl⟩ := List.getElem_of_mem hc
  have := h j hj
  rw [getD_at hj] at this
  simp [this]
theorem fstNot_le (p : UInt8 → Bool) (l : List UInt8) : fstNot p l ≤ l.length := List.findIdx_le_length
theorem fstNot_eq (p : UInt8 → Bool) (l : List UInt8) : decide (fstNot p l = l.length) = l.all p := by
  rw [Bool.eq_iff_iff, decide_eq_true_iff, List.all_eq_true]
  unfold fstNot
  rw [List.findIdx_eq_length]
  simp
theorem all_of {p : UInt8 → Bool} {l : List UInt8} (h : ∀ j, j < l.length → p (l.getD j 0) = true) : l.all p = true := by
  rw [List.all_eq_true]; intro c hc
  obtain ⟨j, hj, rfl⟩ := List.getElem_of_mem hc
  rw [← getD_at hj]; exact h j hj
theorem all_no {p : UInt8 → Bool} {l : List UInt8} {k : Nat} (hk : k < l.length) (hb : p (l.getD k 0) = false) : l.all p = false := by
  rw [List.all_eq_false]
  exact ⟨l[k], List.getElem_mem _, by rw [← getD_at hk, hb]; simp⟩
set_option maxRecDepth 100000 in
set_option maxHeartbeats 1000000 in
theorem firstSg_any (l : List UInt8) (w : World) (hl : l.length ≤ 140737488355328) :
    Calls Try.prog 54 #[.func (Fn.func 64) #[] #[], .string ⟨l.toArray⟩] w fun e w' => e = .returned (.int .i64 (fstNot (fun c => sg c) l : Int)) ∧ w' = w := by
  go_enter Try.func54, Try.ntmps54
  go_wp2_with fail
  go_loop [8] (fun i => ∃ k : Nat, k ≤ l.length ∧ i = .int .i64 k ∧ Hid (∀ j, j < k → (fun c => sg c) (l.getD j 0) = true)) (fun i => l.length - (intOf i).toNat)
  case atStart => exact ⟨0, Nat.zero_le _, rfl, hide (fun j hj => by omega)⟩
  case round =>
    obtain ⟨k, hk, rfl, HA⟩ := hrel
    by_cases hlt : k < l.length
    · have hs1 : k < (⟨l.toArray⟩ : ByteArray).size := by rw [bytes_size]; exact hlt
      obtain ⟨c, hc, Hc⟩ : ∃ c, (⟨l.toArray⟩ : ByteArray)[k]'hs1 = c ∧ Hid (l.getD k 0 = c) := ⟨_, rfl, by rw [getD_at hlt]; exact hide rfl⟩
      have HS := hide (fun W : World => tSign_any c W)
      cases hb : (fun c => sg c) c
      · have HR := hide (fstNot_at (p := fun c => sg c) hlt HA.out (by rw [Hc.out]; exact hb))
        have hb' := hb
        dsimp only at hb'
        rw [hb'] at HS
        go_wp2_with fail
        refine (HS.out _).mono ?_
        rintro e w' ⟨rfl, rfl⟩
        go_wp2_with fail
        go_ret
        exact ⟨ret_i (by rw [HR.out]), rfl⟩
      · have HX : Hid (∀ j, j < k + 1 → (fun c => sg c) (l.getD j 0) = true) := hide (fun j hj => by
          by_cases e : j = k
          · subst e; rw [Hc.out]; exact hb
          · exact HA.out j (by omega))
        have hb' := hb
        dsimp only at hb'
        rw [hb'] at HS
        go_wp2_with fail
        refine (HS.out _).mono ?_
        rintro e w' ⟨rfl, rfl⟩
        go_wp2_with fail
        go_round
        case rel => exact ⟨k + 1, by omega, by go_num, HX⟩
        case measure => simp [intOf]; omega
    · have hk' : k = l.length := by omega
      subst hk'
      have HR := hide (fstNot_all (p := fun c => sg c) HA.out)
      go_wp2_with fail
      go_ret
      exact ⟨ret_i (by rw [HR.out]), rfl⟩
set_option maxRecDepth 100000 in
set_option maxHeartbeats 1000000 in
theorem firstTx_any (l : List UInt8) (w : World) (hl : l.length ≤ 140737488355328) :
    Calls Try.prog 54 #[.func (Fn.func 55) #[] #[], .string ⟨l.toArray⟩] w fun e w' => e = .returned (.int .i64 (fstNot (fun c => inS c || c == 10) l : Int)) ∧ w' = w := by
  go_enter Try.func54, Try.ntmps54
  go_wp2_with fail
  go_loop [8] (fun i => ∃ k : Nat, k ≤ l.length ∧ i = .int .i64 k ∧ Hid (∀ j, j < k → (fun c => inS c || c == 10) (l.getD j 0) = true)) (fun i => l.length - (intOf i).toNat)
  case atStart => exact ⟨0, Nat.zero_le _, rfl, hide (fun j hj => by omega)⟩
  case round =>
    obtain ⟨k, hk, rfl, HA⟩ := hrel
    by_cases hlt : k < l.length
    · have hs1 : k < (⟨l.toArray⟩ : ByteArray).size := by rw [bytes_size]; exact hlt
      obtain ⟨c, hc, Hc⟩ : ∃ c, (⟨l.toArray⟩ : ByteArray)[k]'hs1 = c ∧ Hid (l.getD k 0 = c) := ⟨_, rfl, by rw [getD_at hlt]; exact hide rfl⟩
      have HS := hide (fun W : World => tIsOfText_any c W)
      cases hb : (fun c => inS c || c == 10) c
      · have HR := hide (fstNot_at (p := fun c => inS c || c == 10) hlt HA.out (by rw [Hc.out]; exact hb))
        have hb' := hb
        dsimp only at hb'
        rw [hb'] at HS
        go_wp2_with fail
        refine (HS.out _).mono ?_
        rintro e w' ⟨rfl, rfl⟩
        go_wp2_with fail
        go_ret
        exact ⟨ret_i (by rw [HR.out]), rfl⟩
      · have HX : Hid (∀ j, j < k + 1 → (fun c => inS c || c == 10) (l.getD j 0) = true) := hide (fun j hj => by
          by_cases e : j = k
          · subst e; rw [Hc.out]; exact hb
          · exact HA.out j (by omega))
        have hb' := hb
        dsimp only at hb'
        rw [hb'] at HS
        go_wp2_with fail
        refine (HS.out _).mono ?_
        rintro e w' ⟨rfl, rfl⟩
        go_wp2_with fail
        go_round
        case rel => exact ⟨k + 1, by omega, by go_num, HX⟩
        case measure => simp [intOf]; omega
    · have hk' : k = l.length := by omega
      subst hk'
      have HR := hide (fstNot_all (p := fun c => inS c || c == 10) HA.out)
      go_wp2_with fail
      go_ret
      exact ⟨ret_i (by rw [HR.out]), rfl⟩
def nameB (l : List UInt8) : Bool := decide (1 ≤ l.length) && decide (l.length ≤ 16) && l.all sg
def qualB (l : List UInt8) : Bool := decide (l.length = 4) && l.all sg
set_option maxHeartbeats 1000000 in
theorem tIsName_any (l : List UInt8) (w : World) (hl : l.length ≤ 140737488355328) :
    Calls Try.prog 58 #[.string ⟨l.toArray⟩] w fun e w' => e = .returned (.bool (nameB l)) ∧ w' = w := by
  have HF := hide (firstSg_any l w hl)
  have HE := hide (fstNot_eq sg l)
  have HQ : Hid ((fun c => sg c) = sg) := hide rfl
  unfold nameB
  by_cases h0 : 1 ≤ l.length
  · by_cases h1 : l.length ≤ 16
    · rw [decide_eq_true h0, decide_eq_true h1, ← HE.out]
      obtain ⟨m, Hm⟩ : ∃ m, Hid (fstNot sg l = m) := ⟨_, hide rfl⟩
      rw [show (fun c => sg c) = sg from rfl, Hm.out] at HF
      rw [Hm.out]
      have hq : ((m : Int) == (l.length : Int)) = decide (m = l.length) := by rw [Bool.eq_iff_iff]; simp only [beq_iff_eq, decide_eq_true_iff]; omega
      clear Hm HE HQ
      go_enter Try.func58, Try.ntmps58
      go_wp2_with fail
      refine HF.out.mono ?_
      rintro e w' ⟨rfl, rfl⟩
      go_wp2_with fail
      go_ret
      exact ⟨ret_b (by first | rfl | (rw [hq]; simp) | (rw [← hq]; simp) | simp_all), rfl⟩
    · rw [decide_eq_false h1]
      have h1' : 16 < l.length := by omega
      clear h1 HE HQ
      go_enter Try.func58, Try.ntmps58
      go_wp2_with fail
      go_ret
      exact ⟨ret_b (by simp), rfl⟩
  · rw [decide_eq_false h0]
    have h0' : l.length < 1 := by omega
    clear h0 HE HQ
    go_enter Try.func58, Try.ntmps58
    go_wp2_with fail
    go_ret
    exact ⟨ret_b (by simp), rfl⟩
set_option maxHeartbeats 1000000 in
theorem tIsQual_any (l : List UInt8) (w : World) (hl : l.length ≤ 140737488355328) :
    Calls Try.prog 53 #[.string ⟨l.toArray⟩] w fun e w' => e = .returned (.bool (qualB l)) ∧ w' = w := by
  have HF := hide (firstSg_any l w hl)
  have HE := hide (fstNot_eq sg l)
  unfold qualB
  by_cases h0 : l.length = 4
  · rw [decide_eq_true h0, ← HE.out]
    obtain ⟨m, Hm⟩ : ∃ m, Hid (fstNot sg l = m) := ⟨_, hide rfl⟩
    rw [show (fun c => sg c) = sg from rfl, Hm.out] at HF
    rw [Hm.out]
    have hb : ((l.length : Int) == 4) = true := by rw [h0]; rfl
    have hq : ((m : Int) == 4) = decide (m = l.length) := by rw [Bool.eq_iff_iff]; simp only [beq_iff_eq, decide_eq_true_iff]; omega
    clear Hm HE h0
    go_enter Try.func53, Try.ntmps53
    go_wp2_with fail
    refine HF.out.mono ?_
    rintro e w' ⟨rfl, rfl⟩
    go_wp2_with fail
    go_ret
    exact ⟨ret_b (by first | rfl | (rw [hq]; simp) | (rw [← hq]; simp) | simp_all), rfl⟩
  · rw [decide_eq_false h0]
    have hb : ((l.length : Int) == 4) = false := beq_eq_false_iff_ne.2 (by omega)
    clear h0 HE
    go_enter Try.func53, Try.ntmps53
    go_wp2_with fail
    go_ret
    exact ⟨ret_b (by simp), rfl⟩
end Go.Proofs.Ytklhbhhkooddoaa
