/-
  My own text: what stands for a day; months keep the day: plain facts, and the law's small parts.
-/
import Derived.Test.YtiajkglpmpemaabDoorS2
namespace Go.Proofs.YtiajkglpmpemaabDoor
open Go.RowKit

theorem mon_mono {a b : Int} (h1 : 1 ≤ a) (h2 : a ≤ b) : monI a ≤ monI b := by
  obtain ⟨ra, na⟩ := dateI_right h1
  obtain ⟨rb, nb⟩ := dateI_right (show 1 ≤ b by omega)
  by_cases h : monI a ≤ monI b
  · exact h
  · have a1 := ra.m1; have a2 := ra.m2; have b1 := rb.m1; have b2 := rb.m2
    unfold monI at h
    by_cases hy : yearI b < yearI a
    · have := num_lt_year rb ra hy; omega
    · have e : yearI b = yearI a := by omega
      rw [e] at rb nb
      have := num_lt_month rb ra (by omega)
      omega
theorem mon_eq {a b : Int} (h1 : 1 ≤ a) (h2 : 1 ≤ b) : (yearI a == yearI b && monthI a == monthI b) = (monI a == monI b) := by
  have ma := monthI_b h1
  have mb := monthI_b h2
  unfold monI
  rw [Bool.eq_iff_iff, Bool.and_eq_true, beq_iff_eq, beq_iff_eq, beq_iff_eq]
  constructor
  · rintro ⟨h1, h2⟩; omega
  · intro h; exact ⟨by omega, by omega⟩
/-- No business day lies strictly between a day and the next (or last) business day. -/
theorem between_up {g : Int → Bool} {n v i : Int} (h : AddR g n 1 v 0) (h1 : n < i) (h2 : i < v) : g i = false := by
  obtain ⟨a1, a2, a3, a4⟩ := h.upS (by omega)
  cases hg : g i
  · rfl
  · have c1 := cn_add g (show n + 1 ≤ i by omega) (show i ≤ v + 1 by omega)
    have c2 := cn_add g (show i ≤ i + 1 by omega) (show i + 1 ≤ v + 1 by omega)
    have c3 := cn_add g (show i + 1 ≤ v by omega) (show v ≤ v + 1 by omega)
    have c4 := cn_one g i
    have c5 := cn_one g v
    have c6 := cn_b g (show n + 1 ≤ i by omega)
    have c7 := cn_b g (show i + 1 ≤ v by omega)
    rw [hg] at c4; rw [a3] at c5; simp at c4 c5; omega
theorem between_dn {g : Int → Bool} {n v i : Int} (h : AddR g n (-1) v 0) (h1 : v < i) (h2 : i < n) : g i = false := by
  obtain ⟨a1, a2, a3, a4⟩ := h.dnS (by omega)
  cases hg : g i
  · rfl
  · have c1 := cn_add g (show v ≤ i by omega) (show i ≤ n by omega)
    have c2 := cn_add g (show i ≤ i + 1 by omega) (show i + 1 ≤ n by omega)
    have c3 := cn_add g (show v ≤ v + 1 by omega) (show v + 1 ≤ i by omega)
    have c4 := cn_one g i
    have c5 := cn_one g v
    have c6 := cn_b g (show v + 1 ≤ i by omega)
    have c7 := cn_b g (show i + 1 ≤ n by omega)
    rw [hg] at c4; rw [a3] at c5; simp at c4 c5; omega
theorem there_up {g : Int → Bool} {n v e i : Int} (_n1 : 1 ≤ n) (h : AddR g n 1 v e) (h1 : n < i) (h2 : i ≤ 3652059) (hi : g i = true) : e = 0 ∧ v ≤ i := by
  have he := h.err
  by_cases e0 : e = 0
  · subst e0
    refine ⟨rfl, ?_⟩
    by_cases q : v ≤ i
    · exact q
    · rw [between_up h h1 (by omega)] at hi; cases hi
  · obtain rfl : e = 8 := by omega
    obtain ⟨_, q⟩ := h.upE (by omega)
    have c1 := cn_add g (show n + 1 ≤ i by omega) (show i ≤ 3652060 by omega)
    have c2 := cn_add g (show i ≤ i + 1 by omega) (show i + 1 ≤ 3652060 by omega)
    have c3 := cn_one g i
    have c4 := cn_b g (show n + 1 ≤ i by omega)
    have c5 := cn_b g (show i + 1 ≤ 3652060 by omega)
    rw [hi] at c3; simp at c3; omega
theorem there_dn {g : Int → Bool} {n v e i : Int} (_n2 : n ≤ 3652059) (h : AddR g n (-1) v e) (h1 : 1 ≤ i) (h2 : i < n) (hi : g i = true) : e = 0 ∧ i ≤ v := by
  have he := h.err
  by_cases e0 : e = 0
  · subst e0
    refine ⟨rfl, ?_⟩
    by_cases q : i ≤ v
    · exact q
    · rw [between_dn h (by omega) h2] at hi; cases hi
  · obtain rfl : e = 8 := by omega
    obtain ⟨_, q⟩ := h.dnE (by omega)
    have c1 := cn_add g (show 1 ≤ i by omega) (show i ≤ n by omega)
    have c2 := cn_add g (show i ≤ i + 1 by omega) (show i + 1 ≤ n by omega)
    have c3 := cn_one g i
    have c4 := cn_b g (show 1 ≤ i by omega)
    have c5 := cn_b g (show i + 1 ≤ n by omega)
    rw [hi] at c3; simp at c3; omega
/-- What stands for a day that is no business day, by a convention. -/
theorem AdjR.free {g : Int → Bool} {n c x : Int} (n1 : 1 ≤ n) (n2 : n ≤ 3652059) (_c0 : 0 ≤ c) (_c3 : c ≤ 3) (hg : g n = false) (h : AdjR g n c x 0) :
    ∃ v1 e1, AddR g n (st c) v1 e1 ∧ (((c = 1 ∨ c = 3) ∧ (e1 ≠ 0 ∨ monI n ≠ monI v1) ∧ AddR g n (-st c) x 0) ∨ (¬ ((c = 1 ∨ c = 3) ∧ (e1 ≠ 0 ∨ monI n ≠ monI v1)) ∧ x = v1 ∧ e1 = 0)) := by
  rcases h with ⟨h, _⟩ | ⟨_, _, _, h⟩ | ⟨_, _, _, ⟨h, _⟩ | ⟨_, v1, e1, h1, h2⟩⟩
  · rw [dayB_yes n1 n2] at h; cases h
  · omega
  · rw [hg] at h; cases h
  · refine ⟨v1, e1, h1, ?_⟩
    rcases h2 with h2 | ⟨h2, h3, h4⟩
    · exact .inl h2
    · exact .inr ⟨h2, h3, h4.symm⟩
theorem AdjR.biz {g : Int → Bool} {n c x : Int} (n1 : 1 ≤ n) (n2 : n ≤ 3652059) (c0 : 0 ≤ c) (c3 : c ≤ 3) (h : AdjR g n c x 0) : 1 ≤ x ∧ x ≤ 3652059 ∧ g x = true := by
  cases hg : g n
  · obtain ⟨v1, e1, h1, ⟨_, _, h2⟩ | ⟨_, rfl, rfl⟩⟩ := h.free n1 n2 c0 c3 hg
    · have hd := AddR.day n1 n2 h2
      refine ⟨hd.1, hd.2, ?_⟩
      unfold st at h2
      split at h2
      · exact (h2.upS (by omega)).2.2.1
      · exact (h2.dnS (by omega)).2.2.1
    · have hd := AddR.day n1 n2 h1
      refine ⟨hd.1, hd.2, ?_⟩
      unfold st at h1
      split at h1
      · exact (h1.dnS (by omega)).2.2.1
      · exact (h1.upS (by omega)).2.2.1
  · rcases h with ⟨h, _⟩ | ⟨_, _, _, h⟩ | ⟨_, _, _, ⟨_, rfl, _⟩ | ⟨h, _⟩⟩
    · rw [dayB_yes n1 n2] at h; cases h
    · omega
    · exact ⟨n1, n2, hg⟩
    · rw [hg] at h; cases h
theorem AdjR.own {g : Int → Bool} {n c x e : Int} (n1 : 1 ≤ n) (n2 : n ≤ 3652059) (c0 : 0 ≤ c) (c3 : c ≤ 3) (hg : g n = true) (h : AdjR g n c x e) : x = n ∧ e = 0 := by
  rcases h with ⟨h, _⟩ | ⟨_, h, _⟩ | ⟨_, _, _, ⟨_, h1, h2⟩ | ⟨h, _⟩⟩
  · rw [dayB_yes n1 n2] at h; cases h
  · omega
  · exact ⟨h1, h2⟩
  · rw [hg] at h; cases h
theorem AdjR.err {g : Int → Bool} {n c x e : Int} (_n1 : 1 ≤ n) (_n2 : n ≤ 3652059) (c0 : 0 ≤ c) (c3 : c ≤ 3) (h : AdjR g n c x e) : e = 0 ∨ e = 8 := by
  rcases h with ⟨_, _, h⟩ | ⟨_, h, _⟩ | ⟨_, _, _, ⟨_, _, h⟩ | ⟨_, v1, e1, h1, ⟨_, _, h2⟩ | ⟨_, _, h2⟩⟩⟩
  · exact .inr h
  · omega
  · exact .inl h
  · exact h2.err
  · rw [h2]; exact h1.err
/-- By the modified conventions what stands for a day lies in its month, if that has a business day. -/
theorem AdjR.month {g : Int → Bool} {n c x i : Int} (n1 : 1 ≤ n) (n2 : n ≤ 3652059) (hc : c = 1 ∨ c = 3) (h : AdjR g n c x 0) (i1 : 1 ≤ i) (i2 : i ≤ 3652059) (hi : g i = true) (hm : monI i = monI n) : monI x = monI n := by
  cases hg : g n
  · have hne : i ≠ n := fun e => by rw [e, hg] at hi; cases hi
    obtain ⟨v1, e1, h1, h2⟩ := h.free n1 n2 (by omega) (by omega) hg
    rcases hc with rfl | rfl
    · rw [show st 1 = 1 from rfl] at h1 h2
      rcases h2 with ⟨_, q, h2⟩ | ⟨q, rfl, rfl⟩
      · by_cases hin : n < i
        · obtain ⟨rfl, hv⟩ := there_up n1 h1 hin i2 hi
          have a := h1.upS (by omega)
          have m1 := mon_mono n1 (show n ≤ v1 by omega)
          have m2 := mon_mono (show 1 ≤ v1 by omega) hv
          omega
        · obtain ⟨_, hv⟩ := there_dn n2 h2 i1 (by omega) hi
          have a := h2.dnS (by omega)
          have m1 := mon_mono i1 hv
          have m2 := mon_mono a.1 (show x ≤ n by omega)
          omega
      · by_cases hq : monI n = monI x
        · exact hq.symm
        · exact absurd ⟨.inl rfl, .inr hq⟩ q
    · rw [show st 3 = -1 from rfl] at h1 h2
      rw [show -(-1 : Int) = 1 from rfl] at h2
      rcases h2 with ⟨_, q, h2⟩ | ⟨q, rfl, rfl⟩
      · by_cases hin : i < n
        · obtain ⟨rfl, hv⟩ := there_dn n2 h1 i1 hin hi
          have a := h1.dnS (by omega)
          have m1 := mon_mono i1 hv
          have m2 := mon_mono a.1 (show v1 ≤ n by omega)
          omega
        · obtain ⟨_, hv⟩ := there_up n1 h2 (by omega) i2 hi
          have a := h2.upS (by omega)
          have m1 := mon_mono n1 (show n ≤ x by omega)
          have m2 := mon_mono (show 1 ≤ x by omega) hv
          omega
      · by_cases hq : monI n = monI x
        · exact hq.symm
        · exact absurd ⟨.inr rfl, .inr hq⟩ q
  · rw [(h.own n1 n2 (by omega) (by omega) hg).1]
/-- Months lead to the month, keep the day, and lead back. -/
theorem mo_there {n k : Int} (h1 : 1 ≤ n) (h3 : 0 ≤ monI n + k) (h4 : monI n + k ≤ 119987) :
    yearI (numI (moY n k) (moM n k) (moD n k)) = moY n k ∧ monthI (numI (moY n k) (moM n k) (moD n k)) = moM n k ∧ dayI (numI (moY n k) (moM n k) (moD n k)) = moD n k ∧ 1 ≤ numI (moY n k) (moM n k) (moD n k) ∧ numI (moY n k) (moM n k) (moD n k) ≤ 3652059 := by
  obtain ⟨r, hy⟩ := mo_right h1 h3 h4
  have hb := num_b r hy
  obtain ⟨a, b, c⟩ := dateI_of r rfl hb.1
  exact ⟨a, b, c, hb.1, hb.2⟩
theorem mo_sum {n k : Int} : 12 * moY n k + moM n k = monI n + k + 13 := by unfold moY moM; omega
theorem mon_sum (n : Int) : 12 * yearI n + monthI n = monI n + 13 := by unfold monI; omega
theorem mo_day (n k : Int) : moD n k ≤ dayI n ∧ (dayI n ≤ 28 → moD n k = dayI n) := by
  have := mdays_b (moY n k) (moM n k)
  unfold moD; split <;> omega
theorem mo_back {n k m : Int} (h1 : 1 ≤ n) (h2 : n ≤ 3652059) (h3 : 0 ≤ monI n + k) (h4 : monI n + k ≤ 119987) (hm : m = numI (moY n k) (moM n k) (moD n k)) :
    moE m (-k) = 0 ∧ (dayI n ≤ 28 → moV m (-k) = n) := by
  obtain ⟨a, b, c, d, e⟩ := mo_there h1 h3 h4
  rw [← hm] at a b c d e
  have hmm : monI m = monI n + k := by have q := mo_sum (n := n) (k := k); have q2 := mon_sum m; rw [a, b] at q2; omega
  have hyn := yearI_b h1 h2
  have hmn := monthI_b h1
  have hb : moB m (-k) = true := (moB_iff _ _).2 ⟨d, e, by unfold monI at *; omega, by unfold monI at *; omega⟩
  refine ⟨(mo_ok hb).2, fun h28 => ?_⟩
  rw [(mo_ok hb).1]
  have e1 : moY m (-k) = yearI n := by unfold moY; rw [hmm]; unfold monI; omega
  have e2 : moM m (-k) = monthI n := by unfold moM; rw [hmm]; unfold monI; omega
  have e3 : moD m (-k) = dayI n := by
    have q := (mo_day m (-k)).2
    rw [c, (mo_day n k).2 h28] at q
    exact q h28
  rw [e1, e2, e3]
  exact (dateI_right h1).2
set_option maxRecDepth 100000 in
set_option maxHeartbeats 1000000 in
theorem month_any (x y : Int) (w : World) (HM : Hid (MDays w)) (x1 : 1 ≤ x) (x2 : x ≤ 3652059) (y1 : 1 ≤ y) (y2 : y ≤ 3652059) :
    Calls Tryd.prog 13 #[.int .i64 x, .int .i64 y] w fun e w' => e = .returned (.bool (monI x == monI y)) ∧ Below w.heap.size w w' := by
  have H := hide (mon_eq x1 y1)
  have HX := hide (fun (W : World) (h : MDays W) => Of_any x W (hide h))
  rw [(of_ok (dayB_yes x1 x2)).1, (of_ok (dayB_yes x1 x2)).2, errV_zero] at HX
  have HY := hide (fun (W : World) (h : MDays W) => Of_any y W (hide h))
  rw [(of_ok (dayB_yes y1 y2)).1, (of_ok (dayB_yes y1 y2)).2, errV_zero] at HY
  rw [← H.out]
  unfold dateV at HX HY
  clear H
  generalize yearI x = a0 at *
  generalize monthI x = a1 at *
  generalize dayI x = a2 at *
  generalize yearI y = b0 at *
  generalize monthI y = b1 at *
  generalize dayI y = b2 at *
  go_enter Tryd.func13, Tryd.ntmps13
  go_wp2_with fail
  refine (HX.out _ HM.out).mono ?_
  rintro e w1 ⟨rfl, hb1⟩
  have hB2 : Below w.heap.size w (w1.alloc (.cells #[.int .i64 a0, .int .i64 a1, .int .i64 a2] 39)) := hb1.alloc hb1.size _
  go_wp2_with fail
  refine (HY.out _ (HM.out.below hB2)).mono ?_
  rintro e w3 ⟨rfl, hb3⟩
  have hB3 := hide (hB2.trans (hb3.mono hB2.size))
  have T := ((Trio.new w1 a0 a1 a2 39).later hb3).alloc (.cells #[.int .i64 b0, .int .i64 b1, .int .i64 b2] 39)
  have c0 := T.c0
  have c1 := T.c1
  by_cases q : a0 = b0
  · subst q
    go_wp2_with fail
    go_ret
    exact ⟨ret_b (by simp), hB3.out.alloc hB3.out.size _⟩
  · have qb : (a0 == b0) = false := by simpa using q
    go_wp2_with fail
    go_ret
    exact ⟨ret_b (by simp [qb]), hB3.out.alloc hB3.out.size _⟩
/-- An answer that tells, where it is true, of a business day in the month. -/
def HasB (g : Int → Bool) (n : Int) (e : Ending) : Prop := ∃ v : Bool, e = .returned (.bool v) ∧ (v = true → ∃ i, 1 ≤ i ∧ i ≤ 3652059 ∧ g i = true ∧ monI i = monI n)
set_option maxRecDepth 100000 in
set_option maxHeartbeats 1000000 in
theorem hasBusiness_any (p b : Nat) (we : Nat → Bool) (F : Int → Bool) (n : Int) (w : World) (HM : Hid (MDays w)) (HC : Hid (Cal w p b we F)) (n1 : 1 ≤ n) (n2 : n ≤ 3652059) :
    Calls Tryd.prog 12 #[.pointer (some ⟨p, 0, none⟩), .int .i64 n] w fun e w' => HasB (bizB we F) n e ∧ Below w.heap.size w w' := by
  go_enter Tryd.func12, Tryd.ntmps12
  go_wp2_with fail
  go_loopw [5] (fun i wr => ∃ j : Nat, j ≤ 63 ∧ i = .int .i64 (n - 31 + j) ∧ Hid (Below w.heap.size w wr)) (fun i _ => (n + 32 - intOf i).toNat)
  case atStart => exact ⟨0, by omega, by simp, hide (Below.refl _ _)⟩
  case round =>
    obtain ⟨j, hj, rfl, HB⟩ := hrel
    by_cases hlt : j < 63
    · have hlt2 : n - 31 + (j : Int) < n + 32 := by omega
      obtain ⟨i, HI⟩ : ∃ i, Hid (n - 31 + (j : Int) = i) := ⟨_, hide rfl⟩
      have hij := HI.out
      rw [HI.out] at hlt2 ⊢
      have HBI := hide (fun (W : World) (h : Cal W p b we F) => Business_any p b we F i W (hide h))
      cases hg : busB we F i
      · rw [hg] at HBI
        go_wp2_with (go_at_call 9; refine (HBI.out _ (HC.out.later HB.out)).mono ?_; rintro e w2 ⟨rfl, hb2⟩)
        go_roundw
        case rel => exact ⟨j + 1, by omega, by go_num, hide (HB.out.trans (hb2.mono HB.out.size))⟩
        case measure => simp [intOf]; omega
      · rw [hg] at HBI
        have hd : dayB i = true := by
          cases q : dayB i
          · unfold busB at hg; rw [q] at hg; cases hg
          · rfl
        obtain ⟨i1, i2⟩ := (dayB_iff i).1 hd
        have HG := hide ((bus_biz (we := we) (F := F) hd).symm.trans hg)
        have HMN := hide (fun (W : World) (h : MDays W) => month_any i n W (hide h) i1 i2 n1 n2)
        clear hd hg
        cases hm : (monI i == monI n)
        · rw [hm] at HMN
          clear hm
          go_wp2_with (first
            | (go_at_call 9; refine (HBI.out _ (HC.out.later HB.out)).mono ?_; rintro e w2 ⟨rfl, hb2⟩; have HB2 := hide (HB.out.trans (hb2.mono HB.out.size)))
            | (go_at_call 13; refine (HMN.out _ (HM.out.below HB2.out)).mono ?_; rintro e w3 ⟨rfl, hb3⟩; have HB3 := hide (HB2.out.trans (hb3.mono HB2.out.size))))
          go_roundw
          case rel => exact ⟨j + 1, by omega, by go_num, HB3⟩
          case measure => simp [intOf]; omega
        · rw [hm] at HMN
          have HE := hide (show monI i = monI n by simpa using hm)
          clear hm
          go_wp2_with (first
            | (go_at_call 9; refine (HBI.out _ (HC.out.later HB.out)).mono ?_; rintro e w2 ⟨rfl, hb2⟩; have HB2 := hide (HB.out.trans (hb2.mono HB.out.size)))
            | (go_at_call 13; refine (HMN.out _ (HM.out.below HB2.out)).mono ?_; rintro e w3 ⟨rfl, hb3⟩; have HB3 := hide (HB2.out.trans (hb3.mono HB2.out.size))))
          go_ret
          exact ⟨⟨true, rfl, fun _ => ⟨i, i1, i2, HG.out, HE.out⟩⟩, HB3.out⟩
    · have e : j = 63 := by omega
      subst e
      rw [show n - 31 + ((63 : Nat) : Int) = n + 32 by omega]
      have hlt2 : ¬ (n + 32 : Int) < n + 32 := by omega
      go_wp2_with fail
      go_ret
      exact ⟨⟨false, rfl, fun h => by cases h⟩, HB.out⟩
end Go.Proofs.YtiajkglpmpemaabDoor
