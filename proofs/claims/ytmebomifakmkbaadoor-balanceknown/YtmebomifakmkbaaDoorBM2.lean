/-
  My own text: the mathematics of the calls that turn a position.
-/
import Derived.Test.YtmebomifakmkbaaDoorB7
namespace Go.Proofs.YtmebomifakmkbaaDoor

theorem Ri.le : ∀ {L : List Mk} {a : Int}, Ri a L → ∀ p ∈ L, a < p.1 ∧ p.1 ≤ 65536 ∧ 1 ≤ p.2 ∧ p.2 ≤ sm L
  | q :: r, a, ⟨h1, h2, h3, h4⟩, p, hp => by
    have h0 := sm_pos h4
    rcases List.mem_cons.1 hp with rfl | hp
    · exact ⟨h1, h2, h3, by unfold sm; omega⟩
    · obtain ⟨i1, i2, i3, i4⟩ := Ri.le h4 p hp
      exact ⟨by omega, i2, i3, by unfold sm; omega⟩
theorem Rt.mok {av : Int} {L : List Mk} (h : Rt av L) : MOk L := fun p hp => by
  obtain ⟨h1, h2, h3, h4⟩ := h.ri.le p hp
  have := h.all
  have := h.av0
  have htop : top = 9223372036854775807 := rfl
  exact ⟨by omega, by omega, by omega, by omega⟩
theorem Rt.top {av : Int} {L : List Mk} (h : Rt av L) : av ≤ top := by have := h.all; have := sm_pos h.ri; omega
theorem setM_few {n q : Int} {L : List Mk} (hr : Ri 0 L) (h8 : L.length ≤ 8) (h : ¬ 0 < q ∨ hasN n L = true ∨ L.length < 8) : (setM n q L).length ≤ 8 := by
  have h1 := setM_len (n := n) (q := q) hr
  have h2 := putM_len n q
  rcases h with h | h | h
  · rw [putM_len0 h] at h1; simp at h1; split at h1 <;> omega
  · rw [h] at h1; simp at h1; omega
  · split at h1 <;> omega
theorem hasN_of {n : Int} {L : List Mk} (hr : Ri 0 L) (h : 1 ≤ mq n L) : hasN n L = true := ((mq_ge (n := n) hr).2.1).2 h
/-- With less, or nothing, under a name that may be there. -/
theorem setM_right {av a n q : Int} {L : List Mk} (h : Rt av L) (ha : 0 ≤ a) (hq : 0 ≤ q) (hn : 0 < q → 0 < n ∧ n ≤ 65536) (h8 : ¬ 0 < q ∨ hasN n L = true ∨ L.length < 8) (hs : a + (sm L - mq n L + q) ≤ top) : Rt a (setM n q L) ∧ a + sm (setM n q L) = a + (sm L - mq n L + q) := by
  have e := setM_sm (n := n) hq h.ri
  by_cases h0 : 0 < q
  · exact ⟨⟨ha, setM_few h.ri h.few h8, setM_Ri hq (hn h0).2 h.ri (fun _ => (hn h0).1), by omega⟩, by omega⟩
  · obtain rfl : q = 0 := by omega
    by_cases hle : n ≤ 65536
    · exact ⟨⟨ha, setM_few h.ri h.few h8, setM_Ri hq hle h.ri (fun h => by omega), by omega⟩, by omega⟩
    · have : setM n 0 L = L := by
        have h1 : hasN n L = false := by
          cases hb : hasN n L with
          | false => rfl
          | true =>
            have := h.ri.le _ (List.mem_of_getElem? ((lo_at h.ri).1 hb))
            dsimp only at this; omega
        have := setM_same (n := n) h.ri
        rw [mq_no h.ri h1] at this; exact this
      rw [this] at e ⊢
      exact ⟨⟨ha, h.few, h.ri, by omega⟩, by omega⟩
theorem setM_name {av n : Int} {L : List Mk} (h : Rt av L) (hm : 1 ≤ mq n L) : 0 < n ∧ n ≤ 65536 := by
  have := h.ri.le _ (List.mem_of_getElem? ((lo_at h.ri).1 (hasN_of h.ri hm)))
  dsimp only at this; omega
theorem credit_ok {av q a : Int} {L M : List Mk} (h1 : av ≤ top) (h : creditO av L q = .ok a M) : Rt av L ∧ 1 ≤ q ∧ Rt a M ∧ a + sm M = av + sm L + q ∧ a = av + q ∧ M = L := by
  unfold creditO at h
  cases hb : bg av L q with
  | some p => rw [hb] at h; cases h
  | none =>
    rw [hb] at h
    obtain ⟨hR, hq⟩ := bg_none h1 hb
    dsimp only at h
    split at h
    · cases h
    · rename_i hc
      cases h
      have e : setM 0 0 L = L := by
        have := setM_same (n := 0) hR.ri
        rw [(mq_gt hR.ri (Int.le_refl 0)).1] at this; exact this
      rw [e]
      have := hR.av0
      exact ⟨hR, hq, ⟨by omega, hR.few, hR.ri, by omega⟩, by omega, rfl, rfl⟩
theorem debit_ok {av q n a : Int} {L M : List Mk} (h1 : av ≤ top) (h : debitO av L q n = .ok a M) : Rt av L ∧ 1 ≤ q ∧ Rt a M ∧ a + sm M = av + sm L - q ∧ 0 ≤ n ∧ n ≤ 65536 ∧ q ≤ av + mq n L ∧ a = av - (q - min (mq n L) q) ∧ M = setM n (mq n L - min (mq n L) q) L := by
  unfold debitO at h
  cases hb : bg av L q with
  | some p => rw [hb] at h; cases h
  | none =>
    rw [hb] at h
    obtain ⟨hR, hq⟩ := bg_none h1 hb
    have hm := mq_ge (n := n) hR.ri
    have ha := hR.all
    have h0 := hR.av0
    dsimp only at h
    split at h
    · cases h
    · rename_i hn
      split at h
      · cases h
      · rename_i hc
        split at h
        · rename_i hl
          cases h
          have hr := setM_right (n := n) (q := mq n L - q) hR h0 (by omega) (fun _ => setM_name hR (by omega)) (.inr (.inl (hasN_of hR.ri (by omega)))) (by omega)
          have e : min (mq n L) q = q := by omega
          exact ⟨hR, hq, hr.1, by omega, by omega, by omega, by omega, by omega, by rw [e]⟩
        · rename_i hl
          cases h
          have hr := setM_right (a := av - (q - mq n L)) (n := n) (q := 0) hR (by omega) (by omega) (fun h => by omega) (.inl (by omega)) (by omega)
          have e : min (mq n L) q = mq n L := by omega
          exact ⟨hR, hq, hr.1, by omega, by omega, by omega, by omega, by omega, by rw [e, Int.sub_self]⟩
theorem mark_ok {av q n a : Int} {L M : List Mk} (h1 : av ≤ top) (h : markO av L q n = .ok a M) : Rt av L ∧ 1 ≤ q ∧ Rt a M ∧ a + sm M = av + sm L ∧ 1 ≤ n ∧ n ≤ 65536 ∧ a = av - q ∧ M = setM n (mq n L + q) L := by
  unfold markO at h
  cases hb : bg av L q with
  | some p => rw [hb] at h; cases h
  | none =>
    rw [hb] at h
    obtain ⟨hR, hq⟩ := bg_none h1 hb
    have hm := mq_ge (n := n) hR.ri
    have ha := hR.all
    have h0 := hR.av0
    dsimp only at h
    split at h
    · cases h
    · rename_i hn
      split at h
      · cases h
      · rename_i hc
        split at h
        · cases h
        · rename_i hf
          cases h
          have hfew := hR.few
          have hr := setM_right (a := av - q) (n := n) (q := mq n L + q) hR (by omega) (by omega) (fun _ => by omega) (.inr (by
            by_cases hz : mq n L = 0
            · exact .inr (by have : ¬ L.length = 8 := fun e => hf ⟨hz, e⟩; omega)
            · exact .inl (hasN_of hR.ri (by omega)))) (by omega)
          exact ⟨hR, hq, hr.1, by omega, by omega, by omega, rfl, rfl⟩
theorem unmark_ok {av q n a : Int} {L M : List Mk} (h1 : av ≤ top) (h : unmarkO av L q n = .ok a M) : Rt av L ∧ 1 ≤ q ∧ Rt a M ∧ a + sm M = av + sm L ∧ a = av + q ∧ M = setM n (mq n L - q) L := by
  unfold unmarkO at h
  cases hb : bg av L q with
  | some p => rw [hb] at h; cases h
  | none =>
    rw [hb] at h
    obtain ⟨hR, hq⟩ := bg_none h1 hb
    have hm := mq_ge (n := n) hR.ri
    have ha := hR.all
    have h0 := hR.av0
    dsimp only at h
    split at h
    · cases h
    · rename_i hz
      split at h
      · cases h
      · rename_i hc
        cases h
        have hr := setM_right (a := av + q) (n := n) (q := mq n L - q) hR (by omega) (by omega) (fun _ => setM_name hR (by omega)) (.inr (.inl (hasN_of hR.ri (by omega)))) (by omega)
        exact ⟨hR, hq, hr.1, by omega, rfl, rfl⟩
/-- The one of the four. -/
def askO (k q n av : Int) (L : List Mk) : Out := if k = 0 then creditO av L q else if k = 1 then debitO av L q n else if k = 2 then markO av L q n else unmarkO av L q n
def askS (k : Int) : List UInt8 := if k = 0 then [99, 114, 101, 100, 105, 116] else if k = 1 then [100, 101, 98, 105, 116] else if k = 2 then [109, 97, 114, 107] else [117, 110, 109, 97, 114, 107]
theorem ask_ok {k q n av a : Int} {L M : List Mk} (h1 : av ≤ top) (h : askO k q n av L = .ok a M) : Rt av L ∧ 1 ≤ q ∧ Rt a M ∧ a + sm M = av + sm L + (if k = 0 then q else if k = 1 then -q else 0) := by
  unfold askO at h
  by_cases k0 : k = 0
  · rw [if_pos k0] at h ⊢
    obtain ⟨h1, h2, h3, h4, _⟩ := credit_ok h1 h
    exact ⟨h1, h2, h3, h4⟩
  rw [if_neg k0] at h ⊢
  by_cases k1 : k = 1
  · rw [if_pos k1] at h ⊢
    obtain ⟨h1, h2, h3, h4, _⟩ := debit_ok h1 h
    exact ⟨h1, h2, h3, by omega⟩
  rw [if_neg k1] at h ⊢
  by_cases k2 : k = 2
  · rw [if_pos k2] at h
    obtain ⟨h1, h2, h3, h4, _⟩ := mark_ok h1 h
    exact ⟨h1, h2, h3, by omega⟩
  rw [if_neg k2] at h
  obtain ⟨h1, h2, h3, h4, _⟩ := unmark_ok h1 h
  exact ⟨h1, h2, h3, by omega⟩
end Go.Proofs.YtmebomifakmkbaaDoor
