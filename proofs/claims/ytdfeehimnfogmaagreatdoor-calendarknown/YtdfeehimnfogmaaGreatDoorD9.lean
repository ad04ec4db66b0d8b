/-
  My own text: months added to a day: the program's and the document's.
-/
import Derived.Test.YtdfeehimnfogmaaGreatDoorD7
import Derived.Deep.RegionWith
import Derived.BigRegion
import Derived.Deep.CutRange
namespace Go.Proofs.YtdfeehimnfogmaaGreatDoor
open Go.RowKit

/-- The months from January of the year 1 on. -/
def monI (n : Int) : Int := 12 * (yearI n - 1) + monthI n - 1
def moB (n k : Int) : Bool := decide (1 ≤ n ∧ n ≤ 3652059 ∧ 0 ≤ monI n + k ∧ monI n + k ≤ 119987)
def moY (n k : Int) : Int := (monI n + k) / 12 + 1
def moM (n k : Int) : Int := (monI n + k) % 12 + 1
def moD (n k : Int) : Int := if dayI n ≤ mdays (moY n k) (moM n k) then dayI n else mdays (moY n k) (moM n k)
def moV (n k : Int) : Int := if moB n k then numI (moY n k) (moM n k) (moD n k) else 0
def moE (n k : Int) : Int := if moB n k then 0 else 8
theorem mo_bad {n k : Int} (h : moB n k = false) : moV n k = 0 ∧ moE n k = 8 := by unfold moV moE; rw [h]; exact ⟨rfl, rfl⟩
theorem mo_ok {n k : Int} (h : moB n k = true) : moV n k = numI (moY n k) (moM n k) (moD n k) ∧ moE n k = 0 := by unfold moV moE; rw [h]; exact ⟨rfl, rfl⟩
theorem moB_iff (n k : Int) : moB n k = true ↔ 1 ≤ n ∧ n ≤ 3652059 ∧ 0 ≤ monI n + k ∧ monI n + k ≤ 119987 := by unfold moB; rw [decide_eq_true_iff]
theorem moB_no {n k : Int} (h : ¬ (1 ≤ n ∧ n ≤ 3652059 ∧ 0 ≤ monI n + k ∧ monI n + k ≤ 119987)) : moB n k = false := by unfold moB; rw [decide_eq_false_iff_not]; exact h
theorem dayI_b {n : Int} (h1 : 1 ≤ n) : 1 ≤ dayI n ∧ dayI n ≤ 31 := by
  obtain ⟨a, _⟩ := dateI_right h1
  have := a.d1; have := a.d2; have := mdays_b (yearI n) (monthI n); omega
theorem monthI_b {n : Int} (h1 : 1 ≤ n) : 1 ≤ monthI n ∧ monthI n ≤ 12 := by
  obtain ⟨a, _⟩ := dateI_right h1
  exact ⟨a.m1, a.m2⟩
theorem mo_right {n k : Int} (h1 : 1 ≤ n) (h3 : 0 ≤ monI n + k) (h4 : monI n + k ≤ 119987) : RightD (moY n k) (moM n k) (moD n k) ∧ moY n k ≤ 9999 := by
  have hd := dayI_b h1
  have hm := mdays_b (moY n k) (moM n k)
  refine ⟨⟨by unfold moY; omega, by unfold moM; omega, by unfold moM; omega, ?_, ?_⟩, by unfold moY; omega⟩
  · unfold moD; split <;> omega
  · unfold moD; split <;> omega
theorem monthOf_any (y m d : Int) (w : World) (y1 : 1 ≤ y) (y2 : y ≤ 9999) (m1 : 1 ≤ m) (m2 : m ≤ 12) :
    Calls Tryz.prog 38 #[dateV y m d] w fun e w' => e = .returned (.int .i64 (12 * (y - 1) + m - 1)) ∧ Below w.heap.size w w' := by
  unfold dateV
  have hB : Hid (Below w.heap.size w (w.alloc (.cells #[.int .i64 y, .int .i64 m, .int .i64 d] 25))) := hide (below_date w y m d)
  go_enter Tryz.func38, Tryz.ntmps38
  go_wp2
  go_ret
  exact ⟨ret_i (by first | rfl | omega), hB.out⟩

set_option maxRecDepth 100000 in
set_option maxHeartbeats 4000000 in
theorem Months_any (n k : Int) (w : World) (HM : Hid (MDays w)) :
    Calls Tryz.prog 16 #[.int .i64 n, .int .i64 k] w fun e w' => e = .returned (.tuple #[.int .i64 (moV n k), errV (moE n k)]) ∧ Below w.heap.size w w' := by
  have HI := hide (fun W : World => isDay_any n W)
  cases hd : dayB n
  · rw [hd] at HI
    have hno : moB n k = false := moB_no (fun h => by rw [dayB_yes h.1 h.2.1] at hd; cases hd)
    rw [(mo_bad hno).1, (mo_bad hno).2]
    clear hd hno
    go_enter Tryz.func16, Tryz.ntmps16
    go_wp2_with (go_at_call 32; refine (HI.out _).mono ?_; rintro e w' ⟨rfl, hw'⟩; have hw' := hw'.symm; subst hw')
    go_ret2
    exact ⟨rfl, Below.refl _ _⟩
  · rw [hd] at HI
    obtain ⟨n1, n2⟩ := (dayB_iff n).1 hd
    clear hd
    have HC := hide (dateOf_any n w HM n1 n2)
    have hy := yearI_b n1 n2
    have hm := monthI_b n1
    have hdd := dayI_b n1
    have HMO := hide (fun W : World => monthOf_any (yearI n) (monthI n) (dayI n) W hy.1 hy.2 hm.1 hm.2)
    have HMI : Hid (monI n = 12 * (yearI n - 1) + monthI n - 1) := hide rfl
    have HNO := hide (fun h => moB_no (n := n) (k := k) h)
    have HOK := hide ((moB_iff n k).2)
    have HRT := hide (mo_right (n := n) (k := k) n1)
    have hYM : Hid (moY n k = (monI n + k) / 12 + 1 ∧ moM n k = (monI n + k) % 12 + 1) := hide ⟨rfl, rfl⟩
    obtain ⟨y, HY⟩ : ∃ y, Hid (yearI n = y) := ⟨_, hide rfl⟩
    obtain ⟨m, HMM⟩ : ∃ m, Hid (monthI n = m) := ⟨_, hide rfl⟩
    obtain ⟨d, HDE⟩ : ∃ d, Hid (dayI n = d) := ⟨_, hide rfl⟩
    rw [HY.out] at HC hy HMO HMI
    rw [HMM.out] at HC hm HMO HMI
    rw [HDE.out] at HC HMO hdd
    obtain ⟨y0, y1⟩ := hy
    obtain ⟨m0, m1⟩ := hm
    obtain ⟨d0, d1⟩ := hdd
    rw [HMI.out] at HNO HOK HRT hYM
    unfold dateV at HC HMO
    by_cases hlo : k < -(12 * (y - 1) + m - 1)
    · have hno := HNO.out (by omega)
      rw [(mo_bad hno).1, (mo_bad hno).2]
      go_enter Tryz.func16, Tryz.ntmps16
      go_wp2_with (first
        | (go_at_call 32; refine (HI.out _).mono ?_; rintro e w' ⟨rfl, hw'⟩; have hw' := hw'.symm; subst hw')
        | (go_at_call 33; refine (HC.out).mono ?_; rintro e w1 ⟨rfl, hb1⟩)
        | (go_at_call 38; refine (HMO.out _).mono ?_; rintro e w3 ⟨rfl, hb3⟩))
      have hB2 : Below w.heap.size w (w1.alloc (.cells #[.int .i64 y, .int .i64 m, .int .i64 d] 25)) := hb1.alloc hb1.size _
      go_ret2
      exact ⟨rfl, hB2.trans (hb3.mono hB2.size)⟩
    by_cases hhi : 119987 - (12 * (y - 1) + m - 1) < k
    · have hno := HNO.out (by omega)
      rw [(mo_bad hno).1, (mo_bad hno).2]
      go_enter Tryz.func16, Tryz.ntmps16
      go_wp2_with (first
        | (go_at_call 32; refine (HI.out _).mono ?_; rintro e w' ⟨rfl, hw'⟩; have hw' := hw'.symm; subst hw')
        | (go_at_call 33; refine (HC.out).mono ?_; rintro e w1 ⟨rfl, hb1⟩)
        | (go_at_call 38; refine (HMO.out _).mono ?_; rintro e w3 ⟨rfl, hb3⟩))
      have hB2 : Below w.heap.size w (w1.alloc (.cells #[.int .i64 y, .int .i64 m, .int .i64 d] 25)) := hb1.alloc hb1.size _
      go_ret2
      exact ⟨rfl, hB2.trans (hb3.mono hB2.size)⟩
    have hyes := HOK.out ⟨n1, n2, by omega, by omega⟩
    rw [(mo_ok hyes).1, (mo_ok hyes).2]
    have HR := hide (HRT.out (by omega) (by omega))
    clear HNO HOK HRT hyes
    obtain ⟨y', hye⟩ : ∃ y', (12 * (y - 1) + m - 1 + k) / 12 + 1 = y' := ⟨_, rfl⟩
    obtain ⟨m', hme⟩ : ∃ m', (12 * (y - 1) + m - 1 + k) % 12 + 1 = m' := ⟨_, rfl⟩
    have HYE : Hid (moY n k = y') := hide (hYM.out.1.trans hye)
    have HME : Hid (moM n k = m') := hide (hYM.out.2.trans hme)
    have hy' : 1 ≤ y' ∧ y' ≤ 9999 := by omega
    have hm' : 1 ≤ m' ∧ m' ≤ 12 := by omega
    have HL := hide (fun (W : World) (h : MDays W) => lengthOf_any y' m' W h (by omega) hm'.1 hm'.2)
    have hbt := mdays_b y' m'
    have HTE0 : Hid (mdays (moY n k) (moM n k) = mdays y' m') := by show _ = _; rw [HYE.out, HME.out]
    obtain ⟨t, HT⟩ : ∃ t, Hid (mdays y' m' = t) := ⟨_, hide rfl⟩
    have HTE : Hid (mdays (moY n k) (moM n k) = t) := hide (HTE0.out.trans HT.out)
    rw [HT.out] at HL hbt
    obtain ⟨t0, t1⟩ := hbt
    obtain ⟨y2, y3⟩ := hy'
    obtain ⟨m2, m3⟩ := hm'
    clear HTE0
    by_cases hle : d ≤ t
    · skip
      have HDV := hide (show moD n k = d by unfold moD; rw [HDE.out, HTE.out]; exact if_pos hle)
      rw [HDV.out] at HR
      have HNU := hide (fun (W : World) (h : Hid (MDays W)) => number_any (moY n k) (moM n k) d W h HR.out.1 HR.out.2)
      rw [HDV.out, HYE.out, HME.out]
      rw [HYE.out, HME.out] at HNU
      unfold dateV at HNU
      generalize numI y' m' d = res at *
      go_enter Tryz.func16, Tryz.ntmps16
      go_upto_region 8 with (first
        | (go_at_call 32; refine (HI.out _).mono ?_; rintro e w' ⟨rfl, hw'⟩; have hw' := hw'.symm; subst hw')
        | (go_at_call 33; refine (HC.out).mono ?_; rintro e w1 ⟨rfl, hb1⟩)
        | (go_at_call 38; refine (HMO.out _).mono ?_; rintro e w3 ⟨rfl, hb3⟩))
      have hB2 : Hid (Below w.heap.size w (w1.alloc (.cells #[.int .i64 y, .int .i64 m, .int .i64 d] 25))) := hide (hb1.alloc hb1.size _)
      have T2 := (Trio.new w1 y m d 25).later hb3
      have hB3 := hide (hB2.out.trans (hb3.mono hB2.out.size))
      have hB4 : Hid (Below w.heap.size w (w3.alloc (.cells #[.int .i64 y', .int .i64 m', .int .i64 0] 25))) := hide (hB3.out.alloc hB3.out.size _)
      have hB5 : Hid (Below w.heap.size w (w3.alloc (.cells #[.int .i64 y', .int .i64 m', .int .i64 d] 25)).drew) := hide (hB3.out.alloc hB3.out.size _).drew
      have T4 := T2.alloc (.cells #[.int .i64 y', .int .i64 m', .int .i64 0] 25)
      have c2 := T4.c2
      go_cut [] from 39 to 47 (fun wx => wx = (w3.alloc (.cells #[.int .i64 y', .int .i64 m', .int .i64 d] 25)).drew)
      case first =>
        go_region_with (go_at_call 39; refine (HL.out _ (HM.out.below (hB4.out.drew))).mono ?_; rintro e w' ⟨rfl, rfl⟩)
        all_goals (go_wp2_with fail; go_meet; rfl)
      case rest =>
      obtain rfl := hcut
      go_wp2_with (go_at_call 40; refine (HNU.out _ (hide (HM.out.below hB5.out))).mono ?_; rintro e w6 ⟨rfl, hb6⟩)
      go_ret2
      exact ⟨rfl, hB5.out.trans (hb6.mono hB5.out.size)⟩
    · skip
      have HDV := hide (show moD n k = t by unfold moD; rw [HDE.out, HTE.out]; exact if_neg hle)
      rw [HDV.out] at HR
      have HNU := hide (fun (W : World) (h : Hid (MDays W)) => number_any (moY n k) (moM n k) t W h HR.out.1 HR.out.2)
      rw [HDV.out, HYE.out, HME.out]
      rw [HYE.out, HME.out] at HNU
      unfold dateV at HNU
      generalize numI y' m' t = res at *
      go_enter Tryz.func16, Tryz.ntmps16
      go_upto_region 8 with (first
        | (go_at_call 32; refine (HI.out _).mono ?_; rintro e w' ⟨rfl, hw'⟩; have hw' := hw'.symm; subst hw')
        | (go_at_call 33; refine (HC.out).mono ?_; rintro e w1 ⟨rfl, hb1⟩)
        | (go_at_call 38; refine (HMO.out _).mono ?_; rintro e w3 ⟨rfl, hb3⟩))
      have hB2 : Hid (Below w.heap.size w (w1.alloc (.cells #[.int .i64 y, .int .i64 m, .int .i64 d] 25))) := hide (hb1.alloc hb1.size _)
      have T2 := (Trio.new w1 y m d 25).later hb3
      have hB3 := hide (hB2.out.trans (hb3.mono hB2.out.size))
      have hB4 : Hid (Below w.heap.size w (w3.alloc (.cells #[.int .i64 y', .int .i64 m', .int .i64 0] 25))) := hide (hB3.out.alloc hB3.out.size _)
      have hB5 : Hid (Below w.heap.size w (w3.alloc (.cells #[.int .i64 y', .int .i64 m', .int .i64 t] 25)).drew) := hide (hB3.out.alloc hB3.out.size _).drew
      have T4 := T2.alloc (.cells #[.int .i64 y', .int .i64 m', .int .i64 0] 25)
      have c2 := T4.c2
      go_cut [] from 39 to 47 (fun wx => wx = (w3.alloc (.cells #[.int .i64 y', .int .i64 m', .int .i64 t] 25)).drew)
      case first =>
        go_region_with (go_at_call 39; refine (HL.out _ (HM.out.below (hB4.out.drew))).mono ?_; rintro e w' ⟨rfl, rfl⟩)
        all_goals (go_wp2_with fail; go_meet; rfl)
      case rest =>
      obtain rfl := hcut
      go_wp2_with (go_at_call 40; refine (HNU.out _ (hide (HM.out.below hB5.out))).mono ?_; rintro e w6 ⟨rfl, hb6⟩)
      go_ret2
      exact ⟨rfl, hB5.out.trans (hb6.mono hB5.out.size)⟩

end Go.Proofs.YtdfeehimnfogmaaGreatDoor
