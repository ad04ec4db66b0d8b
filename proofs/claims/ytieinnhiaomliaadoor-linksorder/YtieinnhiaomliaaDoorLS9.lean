/-
  My own text: layer 23: merging by induction; blocks; SortStableFunc of up to 4096 places.
-/
import Derived.Test.YtieinnhiaomliaaDoorLS8
import Derived.Test.YtieinnhiaomliaaDoorLS3
namespace Go.Proofs.YtieinnhiaomliaaDoor
open Go.RowKit

theorem mergeOk_le {n : Nat} (hn : n ≤ 4096) : ∀ d a m b : Nat, b - a ≤ d → a < m → m < b → b ≤ n → MergeOk n a m b := by
  intro d
  induction d with
  | zero => intro a m b h1 h2 h3 _; omega
  | succ d ih =>
    intro a m b h1 h2 h3 h4
    by_cases e1 : a + 1 = m
    · intro P pb cap pr L w hN hS _ hs2 hP
      exact symFirst_any a m b n P pb cap pr L w hN hS e1 h3 h4 hn hs2 hP
    · by_cases e2 : m + 1 = b
      · intro P pb cap pr L w hN hS hs1 _ hP
        exact symLast_any a m b n P pb cap pr L w hN hS (by omega) e2 h4 hn hs1 hP
      · exact symMain_any a m b n (by omega) (by omega) h4 hn (fun a' m' b' k1 k2 k3 k4 => ih a' m' b' (by omega) k1 k2 k3)
theorem mergeOk {n a m b : Nat} (hn : n ≤ 4096) (h1 : a < m) (h2 : m < b) (h3 : b ≤ n) : MergeOk n a m b := mergeOk_le hn (b - a) a m b (Nat.le_refl _) h1 h2 h3
/-- All blocks of s places are sorted. -/
def BA (pr : Nat → Int) (L : List Nat) (s n : Nat) : Prop := ∀ t, Srt pr L (t * s) (min (t * s + s) n)
/-- The first k blocks of twenty. -/
def BK (pr : Nat → Int) (L : List Nat) (k : Nat) : Prop := ∀ t, t < k → Srt pr L (t * 20) (t * 20 + 20)
/-- The first k pairs of blocks are merged. -/
def BH (pr : Nat → Int) (L : List Nat) (s n k : Nat) : Prop := (∀ t, t < k → Srt pr L (t * (2 * s)) (min (t * (2 * s) + 2 * s) n)) ∧ ∀ t, 2 * k ≤ t → Srt pr L (t * s) (min (t * s + s) n)
theorem BK.step {pr : Nat → Int} {L R : List Nat} {k : Nat} (h : BK pr L k) (hs : Srt pr R (k * 20) (k * 20 + 20)) (ho : ∀ i, i < k * 20 ∨ k * 20 + 20 ≤ i → R[i]? = L[i]?) : BK pr R (k + 1) := by
  intro t ht
  by_cases e : t = k
  · subst e; exact hs
  · exact (h t (by omega)).of_eq (fun i h1 h2 => ho i (.inl (by omega)))
theorem BK.fin {pr : Nat → Int} {L R : List Nat} {k n : Nat} (h : BK pr L k) (hk : k * 20 ≤ n) (hn : n < k * 20 + 20) (hs : Srt pr R (k * 20) n) (ho : ∀ i, i < k * 20 ∨ n ≤ i → R[i]? = L[i]?) : BA pr R 20 n := by
  intro t
  by_cases e : t = k
  · subst e; rw [Nat.min_eq_right (by omega)]; exact hs
  · by_cases e2 : t < k
    · rw [Nat.min_eq_left (by omega)]
      exact (h t e2).of_eq (fun i h1 h2 => ho i (.inl (by omega)))
    · exact Srt.none (by omega)
theorem BA.done {pr : Nat → Int} {L : List Nat} {s n : Nat} (h : BA pr L s n) (hs : n ≤ s) : Srt pr L 0 n := by
  have := h 0
  rw [Nat.zero_mul, Nat.min_eq_right (by omega)] at this
  exact this
theorem BH.start {pr : Nat → Int} {L : List Nat} {s n : Nat} (h : BA pr L s n) : BH pr L s n 0 := ⟨fun t ht => absurd ht (Nat.not_lt_zero t), fun t _ => h t⟩
theorem BH.runs {pr : Nat → Int} {L : List Nat} {s n k a : Nat} (h : BH pr L s n k) (ha : a = k * (2 * s)) : Srt pr L a (min (a + s) n) ∧ Srt pr L (a + s) (min (a + s + s) n) := by
  have e1 : (2 * k) * s = a := by rw [ha, Nat.mul_comm 2 k, Nat.mul_assoc]
  have e2 : (2 * k + 1) * s = a + s := by rw [Nat.succ_mul, e1]
  have h1 := h.2 (2 * k) (Nat.le_refl _)
  have h2 := h.2 (2 * k + 1) (by omega)
  rw [e1] at h1
  rw [e2] at h2
  exact ⟨h1, h2⟩
theorem mul_up {t k D : Nat} (h : t < k) : t * D + D ≤ k * D := by rw [← Nat.succ_mul]; exact Nat.mul_le_mul_right D h
theorem BH.step {pr : Nat → Int} {L R : List Nat} {s n k a : Nat} (h : BH pr L s n k) (ha : a = k * (2 * s)) (hb : a + 2 * s ≤ n) (hs : Srt pr R a (a + 2 * s)) (ho : ∀ i, i < a ∨ a + 2 * s ≤ i → R[i]? = L[i]?) : BH pr R s n (k + 1) := by
  refine ⟨fun t ht => ?_, fun t ht => ?_⟩
  · by_cases e : t = k
    · subst e; rw [← ha, Nat.min_eq_left hb]; exact hs
    · have := mul_up (D := 2 * s) (show t < k by omega)
      exact (h.1 t (by omega)).of_eq (fun i h1 h2 => ho i (.inl (by omega)))
  · have e1 : (2 * k) * s = a := by rw [ha, Nat.mul_comm 2 k, Nat.mul_assoc]
    have h3 := mul_up (D := s) (show 2 * k + 1 < t by omega)
    rw [Nat.succ_mul, e1] at h3
    exact (h.2 t (by omega)).of_eq (fun i h1 h2 => ho i (.inr (by omega)))
theorem BH.fin {pr : Nat → Int} {L R : List Nat} {s n k a : Nat} (h : BH pr L s n k) (ha : a = k * (2 * s)) (hb : n < a + 2 * s) (hs : Srt pr R a n) (ho : ∀ i, i < a → R[i]? = L[i]?) : BA pr R (2 * s) n := by
  intro t
  by_cases e : t = k
  · subst e; rw [← ha, Nat.min_eq_right (by omega)]; exact hs
  · by_cases e2 : t < k
    · have := mul_up (D := 2 * s) e2
      exact (h.1 t e2).of_eq (fun i h1 h2 => ho i (by omega))
    · have := mul_up (D := 2 * s) (show k < t by omega)
      rw [← ha] at this
      exact Srt.none (by omega)
theorem wMul2 {s D : Nat} (h : 2 * s = D) (b : s ≤ 9000) : (wrap64 (2 * (s : Int)) = (D : Int) ∧ IntKind.i64.wrap (2 * (s : Int)) = (D : Int)) ∧ wrap64 ((s : Int) * 2) = (D : Int) ∧ IntKind.i64.wrap ((s : Int) * 2) = (D : Int) := ⟨⟨by unfold wrap64; omega, by rw [IntKind.wrap_i64]; omega⟩, by unfold wrap64; omega, by rw [IntKind.wrap_i64]; omega⟩
theorem wAdd20 {b c : Nat} (h : b + 20 = c) (k : b ≤ 9000) : wrap64 ((b : Int) + 20) = (c : Int) ∧ IntKind.i64.wrap ((b : Int) + 20) = (c : Int) := ⟨by unfold wrap64; omega, by rw [IntKind.wrap_i64]; omega⟩
/-- What the sort's rows are at a moment. -/
structure SM (w0 : World) (P n : Nat) (pr : Nat → Int) (M : List Nat) (wr : World) : Prop where
  nv : NV wr P M
  si : SI pr n M
  gb : w0.grownBy wr (some P)
set_option maxRecDepth 100000 in
set_option maxHeartbeats 4000000 in
theorem stable_any (n P pb cap : Nat) (hn : n ≤ 4096) (pr : Nat → Int) (L : List Nat) (w : World) (hN : NV w P L) (hS : SI pr n L) (hP : ∀ W, w.grownBy W (some P) → PZ W n pb pr) :
    Calls Tryd.prog 46 #[.slice (some ⟨P, 0, none⟩) n cap, .int .i64 (n : Int), lessV pb] w fun e w' => (∃ u, e = .returned u) ∧ ∃ L', NV w' P L' ∧ SI pr n L' ∧ Srt pr L' 0 n ∧ w.grownBy w' (some P) := by
  have HP := hide hP
  have HN := hide hn
  have HM0 : Hid (SM w P n pr L w) := hide ⟨hN, hS, gb_refl _ _⟩
  clear hN hS hP
  unfold lessV
  go_enter Tryd.func46, Tryd.ntmps46
  go_wp2_with fail
  go_loopw [7, 8] (fun av bv wr => ∃ (k a b : Nat) (M : List Nat), av = .int .i64 (a : Int) ∧ bv = .int .i64 (b : Int) ∧ Hid (a = k * 20 ∧ b = a + 20 ∧ a ≤ n) ∧ Hid (SM w P n pr M wr) ∧ Hid (BK pr M k)) (fun av _ _ => n - (intOf av).toNat)
  case atStart => exact ⟨0, 0, 20, L, rfl, rfl, hide ⟨rfl, rfl, Nat.zero_le _⟩, HM0, hide (fun t ht => absurd ht (Nat.not_lt_zero t))⟩
  case round =>
    clear HM0
    obtain ⟨k, a, b, M, rfl, rfl, HK, HM, HB⟩ := hrel
    by_cases hle : b ≤ n
    · have hd1 : decide ((b : Int) ≤ (n : Int)) = true := by rw [decide_eq_true_eq]; omega
      have hd1' : decide (b ≤ n) = true := decide_eq_true hle
      have HI := hide (isort_any a b n P pb cap pr M wr HM.out.nv HM.out.si (by have := HK.out; omega) hle HN.out (fun W h => HP.out W (gb_trans HM.out.gb h)))
      obtain ⟨c, hc⟩ : ∃ c, Hid (b + 20 = c) := ⟨_, hide rfl⟩
      have HK2 : Hid (b = (k + 1) * 20 ∧ c = b + 20 ∧ b ≤ n) := hide (by have := HK.out; have := hc.out; omega)
      have HMS : Hid (n - b < n - a) := hide (by have := HK.out; omega)
      obtain ⟨wc1, wc2⟩ := wAdd20 hc.out (by omega)
      unfold lessV at HI
      go_wp2_with fail
      refine HI.out.mono ?_
      rintro e w1 ⟨⟨u, rfl⟩, L', h1, h2, h3, h4, h5⟩
      have HM2 : Hid (SM w P n pr L' w1) := hide ⟨h1, h2, gb_trans HM.out.gb h5⟩
      have HB2 : Hid (BK pr L' (k + 1)) := hide (HB.out.step (by
        have e1 := HK.out.1; have e2 := HK.out.2.1
        rw [← e1, ← e2]; exact h3) (by
        have e1 := HK.out.1; have e2 := HK.out.2.1
        rw [← e1, ← e2]; exact h4))
      clear h1 h2 h3 h4 h5 HI HM HB
      go_wp2_with fail
      go_roundw
      case rel => exact ⟨k + 1, b, c, L', rfl, rfl, HK2, HM2, HB2⟩
      case measure => simp only [intOf, Int.toNat_natCast]; exact HMS.out
    · have hd1 : decide ((b : Int) ≤ (n : Int)) = false := by rw [decide_eq_false_iff_not]; omega
      have hd1' : decide (b ≤ n) = false := decide_eq_false hle
      have HI := hide (isort_any a n n P pb cap pr M wr HM.out.nv HM.out.si HK.out.2.2 (Nat.le_refl _) HN.out (fun W h => HP.out W (gb_trans HM.out.gb h)))
      have HLT : Hid (n < k * 20 + 20) := hide (by have := HK.out; omega)
      unfold lessV at HI
      go_wp2_with fail
      refine HI.out.mono ?_
      rintro e w1 ⟨⟨u, rfl⟩, L', h1, h2, h3, h4, h5⟩
      have HM2 : Hid (SM w P n pr L' w1) := hide ⟨h1, h2, gb_trans HM.out.gb h5⟩
      have HA : Hid (BA pr L' 20 n) := hide (HB.out.fin (by rw [← HK.out.1]; exact HK.out.2.2) HLT.out (by rw [← HK.out.1]; exact h3) (by rw [← HK.out.1]; exact h4))
      clear h1 h2 h3 h4 h5 HI HM HB hd1 hd1' hle
      go_wp2_with fail
      go_loopw [6] (fun sv wr => ∃ (s : Nat) (M : List Nat), sv = .int .i64 (s : Int) ∧ Hid (0 < s ∧ s ≤ 9000) ∧ Hid (SM w P n pr M wr) ∧ Hid (BA pr M s n)) (fun sv _ => n - (intOf sv).toNat)
      case atStart => exact ⟨20, L', rfl, hide ⟨by decide, by decide⟩, HM2, HA⟩
      case round =>
        clear HM2 HA
        obtain ⟨s, M1, rfl, HSB, HM, HA⟩ := hrel
        by_cases hsn : s < n
        · have hd1 : decide ((s : Int) < (n : Int)) = true := by rw [decide_eq_true_eq]; omega
          have hd1' : decide (s < n) = true := decide_eq_true hsn
          obtain ⟨D, hD⟩ : ∃ D, Hid (2 * s = D) := ⟨_, hide rfl⟩
          have HMS : Hid (n - D < n - s ∧ 0 < D ∧ D ≤ 9000) := hide (by have := hD.out; have := HSB.out; omega)
          obtain ⟨⟨wd1, wd2⟩, wd3, wd4⟩ := wMul2 hD.out HSB.out.2
          go_wp2_with fail
          go_loopw [7, 8] (fun av bv wr => ∃ (k a b : Nat) (M : List Nat), av = .int .i64 (a : Int) ∧ bv = .int .i64 (b : Int) ∧ Hid (a = k * (2 * s) ∧ b = a + D ∧ a ≤ n) ∧ Hid (SM w P n pr M wr) ∧ Hid (BH pr M s n k)) (fun av _ _ => n - (intOf av).toNat)
          case atStart => exact ⟨0, 0, D, M1, rfl, rfl, hide ⟨(Nat.zero_mul _).symm, (Nat.zero_add _).symm, Nat.zero_le _⟩, HM, hide (BH.start HA.out)⟩
          case round =>
            clear HM HA hd1 hd1'
            obtain ⟨k, a, b, M, rfl, rfl, HK, HM, HB⟩ := hrel
            obtain ⟨m, hm⟩ : ∃ m, Hid (a + s = m) := ⟨_, hide rfl⟩
            have HMB : Hid (a < m ∧ m < b ∧ m + s = b ∧ b = a + 2 * s ∧ m ≤ 20000) := hide (by have := HK.out; have := hD.out; have := HSB.out; have := hm.out; have := HN.out; omega)
            obtain ⟨wm1, wm2⟩ := wAdd hm.out HMB.out.2.2.2.2
            by_cases hle : b ≤ n
            · have hd2 : decide ((b : Int) ≤ (n : Int)) = true := by rw [decide_eq_true_eq]; omega
              have hd2' : decide (b ≤ n) = true := decide_eq_true hle
              have HR : Hid (Srt pr M a m ∧ Srt pr M m b) := hide (by
                have h := HB.out.runs HK.out.1
                rw [hm.out, HMB.out.2.2.1, Nat.min_eq_left (by have := HMB.out; omega), Nat.min_eq_left hle] at h
                exact h)
              have HI := hide (mergeOk HN.out HMB.out.1 HMB.out.2.1 hle P pb cap pr M wr HM.out.nv HM.out.si HR.out.1 HR.out.2 (fun W h => HP.out W (gb_trans HM.out.gb h)))
              obtain ⟨c, hc⟩ : ∃ c, Hid (b + D = c) := ⟨_, hide rfl⟩
              have HK2 : Hid (b = (k + 1) * (2 * s) ∧ c = b + D ∧ b ≤ n) := hide ⟨by rw [Nat.succ_mul, ← HK.out.1]; exact HMB.out.2.2.2.1, hc.out.symm, hle⟩
              have HMS2 : Hid (n - b < n - a) := hide (by have := HMB.out; omega)
              obtain ⟨wc1, wc2⟩ := wAdd hc.out (by have := hc.out; have := HMS.out; omega)
              unfold lessV at HI
              go_wp2_with fail
              refine HI.out.mono ?_
              rintro e w1 ⟨⟨u, rfl⟩, L', h1, h2, h5⟩
              have HM2 : Hid (SM w P n pr L' w1) := hide ⟨h1, h2.si, gb_trans HM.out.gb h5⟩
              have HB2 : Hid (BH pr L' s n (k + 1)) := hide (HB.out.step HK.out.1 (by rw [← HMB.out.2.2.2.1]; exact HK2.out.2.2) (by rw [← HMB.out.2.2.2.1]; exact h2.srt) (by rw [← HMB.out.2.2.2.1]; exact h2.out))
              clear h1 h2 h5 HI HM HB
              go_wp2_with fail
              go_roundw
              case rel => exact ⟨k + 1, b, c, L', rfl, rfl, HK2, HM2, HB2⟩
              case measure => simp only [intOf, Int.toNat_natCast]; exact HMS2.out
            · have hd2 : decide ((b : Int) ≤ (n : Int)) = false := by rw [decide_eq_false_iff_not]; omega
              have hd2' : decide (b ≤ n) = false := decide_eq_false hle
              have HLT : Hid (n < a + 2 * s) := hide (by have := HMB.out; omega)
              by_cases hmn : m < n
              · have hd3 : decide ((m : Int) < (n : Int)) = true := by rw [decide_eq_true_eq]; omega
                have hd3' : decide (m < n) = true := decide_eq_true hmn
                have HR : Hid (Srt pr M a m ∧ Srt pr M m n) := hide (by
                  have h := HB.out.runs HK.out.1
                  rw [hm.out, HMB.out.2.2.1, Nat.min_eq_left (by omega), Nat.min_eq_right (by omega)] at h
                  exact h)
                have HI := hide (mergeOk HN.out HMB.out.1 hmn (Nat.le_refl _) P pb cap pr M wr HM.out.nv HM.out.si HR.out.1 HR.out.2 (fun W h => HP.out W (gb_trans HM.out.gb h)))
                unfold lessV at HI
                go_wp2_with fail
                refine HI.out.mono ?_
                rintro e w1 ⟨⟨u, rfl⟩, L', h1, h2, h5⟩
                have HM2 : Hid (SM w P n pr L' w1) := hide ⟨h1, h2.si, gb_trans HM.out.gb h5⟩
                have HA2 : Hid (BA pr L' D n) := hide (by
                  rw [← hD.out]
                  exact HB.out.fin HK.out.1 HLT.out h2.srt (fun i hi => h2.out i (.inl hi)))
                clear h1 h2 h5 HI HM HB
                go_wp2_with fail
                go_roundw
                case rel => exact ⟨D, L', rfl, hide ⟨HMS.out.2.1, HMS.out.2.2⟩, HM2, HA2⟩
                case measure => simp only [intOf, Int.toNat_natCast]; exact HMS.out.1
              · have hd3 : decide ((m : Int) < (n : Int)) = false := by rw [decide_eq_false_iff_not]; omega
                have hd3' : decide (m < n) = false := decide_eq_false hmn
                have HA2 : Hid (BA pr M D n) := hide (by
                  rw [← hD.out]
                  have h := (HB.out.runs HK.out.1).1
                  rw [hm.out, Nat.min_eq_right (by omega)] at h
                  exact HB.out.fin HK.out.1 HLT.out h (fun _ _ => rfl))
                clear HB
                go_wp2_with fail
                go_roundw
                case rel => exact ⟨D, M, rfl, hide ⟨HMS.out.2.1, HMS.out.2.2⟩, HM, HA2⟩
                case measure => simp only [intOf, Int.toNat_natCast]; exact HMS.out.1
        · have hd1 : decide ((s : Int) < (n : Int)) = false := by rw [decide_eq_false_iff_not]; omega
          have hd1' : decide (s < n) = false := decide_eq_false hsn
          have HR : Hid (∃ L', NV wr P L' ∧ SI pr n L' ∧ Srt pr L' 0 n ∧ w.grownBy wr (some P)) := hide ⟨M1, HM.out.nv, HM.out.si, HA.out.done (by omega), HM.out.gb⟩
          go_wp2_with fail
          refine bodyPost_end (v := .tuple #[]) ?r1 ?r2 ?r3
          case r1 => exact results_none rfl _ _ _
          case r2 => rfl
          case r3 => exact ⟨⟨_, rfl⟩, HR.out⟩
theorem sortOk {n : Nat} (hn : n ≤ 4096) : SortOk n := by
  intro P pb cap pr L w hN hS hP
  have HS := hide (stable_any n P pb cap hn pr L w hN hS hP)
  unfold lessV at HS ⊢
  clear hN hS hP
  go_enter Tryd.func37, Tryd.ntmps37
  go_wp2_with fail
  refine HS.out.mono ?_
  rintro e w1 ⟨⟨u, rfl⟩, L', h1, h2, h3, h5⟩
  have HR : Hid (∃ L', NV w1 P L' ∧ SI pr n L' ∧ Srt pr L' 0 n ∧ w.grownBy w1 (some P)) := hide ⟨L', h1, h2, h3, h5⟩
  clear h1 h2 h3 h5 HS
  go_wp2_with fail
  refine bodyPost_end (v := .tuple #[]) ?r1 ?r2 ?r3
  case r1 => exact results_none rfl _ _ _
  case r2 => rfl
  case r3 => exact ⟨⟨_, rfl⟩, HR.out⟩
end Go.Proofs.YtieinnhiaomliaaDoor
