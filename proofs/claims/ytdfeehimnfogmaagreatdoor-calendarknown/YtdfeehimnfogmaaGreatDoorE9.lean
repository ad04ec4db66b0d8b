/-
  My own text: the calendar of the euro's payment system: the program's.
-/
import Derived.Test.YtdfeehimnfogmaaGreatDoorE8
import Derived.Test.YtdfeehimnfogmaaGreatDoorD8
namespace Go.Proofs.YtdfeehimnfogmaaGreatDoor
open Go.RowKit Go.Maps

theorem eN_b (y : Int) : 21 ≤ eN y ∧ eN y ≤ 50 := by
  have h : 0 ≤ eF y ∧ eF y ≤ 30 := by
    have : 0 ≤ eE y ∧ eE y ≤ 29 := by unfold eE; omega
    unfold eF; split <;> omega
  unfold eN; split <;> omega
theorem easterI_b {y : Int} (h1 : 1 ≤ y) (h2 : y ≤ 9999) : 22 ≤ easterI y ∧ easterI y ≤ 3652200 := by
  have a := num_b (right_march h1) h2
  have b := eN_b y
  unfold easterI; omega
/-- The free days of a year. -/
def tyear (y : Int) : List Int := [numI y 1 1, easterI y - 2, easterI y + 1, numI y 5 1, numI y 12 25, numI y 12 26]
def tlist (a : Int) : Nat → List Int
  | 0 => []
  | n + 1 => tlist a n ++ tyear (a + n)
theorem tlist_len (a : Int) : ∀ n, (tlist a n).length = 6 * n
  | 0 => rfl
  | n + 1 => by show (tlist a n ++ tyear (a + n)).length = _; rw [List.length_append, tlist_len a n]; simp [tyear]; omega
theorem right_days {y : Int} (h1 : 1 ≤ y) : RightD y 1 1 ∧ RightD y 5 1 ∧ RightD y 12 25 ∧ RightD y 12 26 :=
  ⟨⟨h1, by omega, by omega, by omega, by have := mdays_b y 1; omega⟩, ⟨h1, by omega, by omega, by omega, by have := mdays_b y 5; omega⟩, ⟨h1, by omega, by omega, by omega, by have := mdays_b y 12; omega⟩, ⟨h1, by omega, by omega, by omega, by have := mdays_b y 12; omega⟩⟩
theorem tlist_b {a : Int} (h1 : 1 ≤ a) : ∀ n : Nat, a + n ≤ 10000 → ∀ x ∈ tlist a n, -9223372036854775808 ≤ x ∧ x ≤ 9223372036854775807
  | 0, _, x, h => by simp [tlist] at h
  | n + 1, h2, x, h => by
    rcases List.mem_append.1 (show x ∈ tlist a n ++ tyear (a + n) from h) with h | h
    · exact tlist_b h1 n (by omega) x h
    · have hy : 1 ≤ a + (n : Int) := by omega
      obtain ⟨q1, q2, q3, q4⟩ := right_days hy
      have b1 := num_b q1 (by omega)
      have b2 := num_b q2 (by omega)
      have b3 := num_b q3 (by omega)
      have b4 := num_b q4 (by omega)
      have b5 := easterI_b hy (by omega)
      simp [tyear] at h
      rcases h with rfl | rfl | rfl | rfl | rfl | rfl <;> omega
/-- Saturdays and Sundays. -/
def tw (j : Nat) : Bool := j == 5 || j == 6
def taE (a b : Int) : Int := if yearB a = false ∨ yearB b = false then 8 else if b < a then 1 else 0
def tF (a b : Int) : Int → Bool := FL tw (tlist a (b - a + 1).toNat)
theorem Tryz.infoI : (Tryz.prog.info? 3).map (fun i => (i.zero, i.size, i.bytes)) = some (some (.int .i64 0), 1, 8) := by kernel_rfl
set_option maxRecDepth 100000 in
set_option maxHeartbeats 4000000 in
theorem Target_any (x y : Int) (w : World) (HM : Hid (MDays w)) :
    Calls Tryz.prog 18 #[.int .i64 x, .int .i64 y] w fun e w' => ((taE x y ≠ 0 ∧ e = .returned (.tuple #[.pointer none, errV (taE x y)])) ∨ (taE x y = 0 ∧ ∃ p b, e = .returned (.tuple #[.pointer (some ⟨p, 0, none⟩), .nilIface]) ∧ Cal w' p b tw (tF x y))) ∧ Below w.heap.size w w' := by
  have HA := hide (fun W : World => isYear_any x W)
  have HB := hide (fun W : World => isYear_any y W)
  have HTE : Hid (taE x y = if yearB x = false ∨ yearB y = false then 8 else if y < x then 1 else 0) := hide rfl
  cases ha : yearB x
  · rw [ha] at HA HTE
    rw [if_pos (.inl rfl)] at HTE
    rw [HTE.out]
    clear ha
    go_enter Tryz.func18, Tryz.ntmps18
    go_wp2_with (go_at_call 36; refine (HA.out _).mono ?_; rintro e w' ⟨rfl, hw'⟩; have hw' := hw'.symm; subst hw')
    go_ret2
    exact ⟨.inl ⟨by omega, rfl⟩, Below.refl _ _⟩
  cases hb : yearB y
  · rw [ha] at HA
    rw [hb] at HB HTE
    rw [if_pos (.inr rfl)] at HTE
    rw [HTE.out]
    clear ha hb
    go_enter Tryz.func18, Tryz.ntmps18
    go_wp2_with fail
    refine (HA.out _).mono ?_
    rintro e w' ⟨rfl, hw'⟩
    have hw' := hw'.symm
    subst hw'
    go_wp2_with fail
    refine (HB.out _).mono ?_
    rintro e w' ⟨rfl, hw'⟩
    have hw' := hw'.symm
    subst hw'
    go_wp2_with fail
    go_ret2
    exact ⟨.inl ⟨by omega, rfl⟩, Below.refl _ _⟩
  rw [ha] at HA HTE
  rw [hb] at HB HTE
  rw [if_neg (by simp)] at HTE
  obtain ⟨x1, x2⟩ := (yearB_iff x).1 ha
  obtain ⟨y1, y2⟩ := (yearB_iff y).1 hb
  clear ha hb
  by_cases hc : y < x
  · rw [if_pos hc] at HTE
    rw [HTE.out]
    go_enter Tryz.func18, Tryz.ntmps18
    go_wp2_with fail
    refine (HA.out _).mono ?_
    rintro e w' ⟨rfl, hw'⟩
    have hw' := hw'.symm
    subst hw'
    go_wp2_with fail
    refine (HB.out _).mono ?_
    rintro e w' ⟨rfl, hw'⟩
    have hw' := hw'.symm
    subst hw'
    go_wp2_with fail
    go_ret2
    exact ⟨.inl ⟨by omega, rfl⟩, Below.refl _ _⟩
  rw [if_neg hc] at HTE
  rw [HTE.out]
  have HTF : Hid (tF x y = FL tw (tlist x (y - x + 1).toNat)) := hide rfl
  obtain ⟨N, HNE⟩ : ∃ N : Nat, Hid ((y - x + 1).toNat = N) := ⟨_, hide rfl⟩
  rw [HNE.out] at HTF
  have hN : x + (N : Int) = y + 1 := by have := HNE.out; omega
  obtain ⟨i0, hi, hz0, hz1, hz2⟩ := info_parts Tryz.infoI
  go_enter Tryz.func18, Tryz.ntmps18
  go_wp2_with fail
  refine (HA.out _).mono ?_
  rintro e w' ⟨rfl, hw'⟩
  have hw' := hw'.symm
  subst hw'
  go_wp2_with fail
  refine (HB.out _).mono ?_
  rintro e w' ⟨rfl, hw'⟩
  have hw' := hw'.symm
  subst hw'
  go_wp2_with fail
  go_loopw [6, 7] (fun v i wr => ∃ k : Nat, k ≤ N ∧ i = .int .i64 (x + k) ∧ Hid (wr.ownsRow w.heap.size 3 1 v (6 * k) (lv .i64 (tlist x k))) ∧ Hid (Below w.heap.size w wr)) (fun _ i _ => (y + 1 - intOf i).toNat)
  case atStart => exact ⟨0, Nat.zero_le _, by simp, hide (World.ownsRow_nil _ _ _ _), hide (Below.refl _ _)⟩
  case round =>
    obtain ⟨k, hk, rfl, HO0, HB0⟩ := hrel
    by_cases hlt : k < N
    · have hle : x + (k : Int) ≤ y := by omega
      obtain ⟨z, HZ⟩ : ∃ z, Hid (x + (k : Int) = z) := ⟨_, hide rfl⟩
      have z1 : 1 ≤ z := by have := HZ.out; omega
      have z2 : z ≤ 9999 := by have := HZ.out; omega
      have HTS : Hid (tlist x (k + 1) = tlist x k ++ tyear z) := by show tlist x k ++ tyear (x + k) = _; rw [HZ.out]
      have hzk := HZ.out
      rw [HZ.out] at hle ⊢
      have HEA := hide (fun (W : World) (h : MDays W) => easter_any z W (hide h) z1 z2)
      have heb := easterI_b z1 z2
      obtain ⟨q1, q2, q3, q4⟩ := right_days z1
      have HN1 := hide (fun (W : World) (h : MDays W) => number_any z 1 1 W (hide h) q1 z2)
      have HN2 := hide (fun (W : World) (h : MDays W) => number_any z 5 1 W (hide h) q2 z2)
      have HN3 := hide (fun (W : World) (h : MDays W) => number_any z 12 25 W (hide h) q3 z2)
      have HN4 := hide (fun (W : World) (h : MDays W) => number_any z 12 26 W (hide h) q4 z2)
      clear q1 q2 q3 q4
      have HTY : Hid (tyear z = [numI z 1 1, easterI z - 2, easterI z + 1, numI z 5 1, numI z 12 25, numI z 12 26]) := hide rfl
      obtain ⟨ea, HEE⟩ : ∃ ea, Hid (easterI z = ea) := ⟨_, hide rfl⟩
      obtain ⟨d1, HD1⟩ : ∃ d, Hid (numI z 1 1 = d) := ⟨_, hide rfl⟩
      obtain ⟨d2, HD2⟩ : ∃ d, Hid (numI z 5 1 = d) := ⟨_, hide rfl⟩
      obtain ⟨d3, HD3⟩ : ∃ d, Hid (numI z 12 25 = d) := ⟨_, hide rfl⟩
      obtain ⟨d4, HD4⟩ : ∃ d, Hid (numI z 12 26 = d) := ⟨_, hide rfl⟩
      rw [HEE.out] at HEA heb HTY
      rw [HD1.out] at HN1 HTY
      rw [HD2.out] at HN2 HTY
      rw [HD3.out] at HN3 HTY
      rw [HD4.out] at HN4 HTY
      obtain ⟨e0, e9⟩ := heb
      unfold dateV at HN1 HN2 HN3 HN4
      go_wp2_with fail
      refine (HEA.out _ (HM.out.below HB0.out)).mono ?_
      rintro e w1 ⟨rfl, hb1⟩
      have HB1 := hide (HB0.out.trans (hb1.mono HB0.out.size))
      have HO1 := hide (own_later HO0.out hb1)
      clear hb1 HB0 HO0
      go_wp2_with fail
      refine (HN1.out _ (HM.out.below HB1.out)).mono ?_
      rintro e w2 ⟨rfl, hb2⟩
      have HB2 := hide (HB1.out.trans (hb2.mono HB1.out.size))
      have HO2 := hide (own_later HO1.out hb2)
      clear hb2 HB1 HO1
      go_wp2_with fail
      refine (HN2.out _ (HM.out.below HB2.out)).mono ?_
      rintro e w3 ⟨rfl, hb3⟩
      have HB3 := hide (HB2.out.trans (hb3.mono HB2.out.size))
      have HO3 := hide (own_later HO2.out hb3)
      clear hb3 HB2 HO2
      go_wp2_with fail
      refine (HN3.out _ (HM.out.below HB3.out)).mono ?_
      rintro e w4 ⟨rfl, hb4⟩
      have HB4 := hide (HB3.out.trans (hb4.mono HB3.out.size))
      have HO4 := hide (own_later HO3.out hb4)
      clear hb4 HB3 HO3
      go_wp2_with fail
      refine (HN4.out _ (HM.out.below HB4.out)).mono ?_
      rintro e w5 ⟨rfl, hb5⟩
      have HB5 := hide (HB4.out.trans (hb5.mono HB4.out.size))
      have HO5 := hide (own_later HO4.out hb5)
      clear hb5 HB4 HO4
      go_wp2_with (first
        | (at_builtin; refine wpList_append_own _ rfl _ _ 40 rfl _ 3 i0 (.int .i64 0) 1 8 Tryz.underlying40 hi hz0 hz1 hz2 rfl (by decide) _ _ _ rfl (HO5.out.alloc _) ⟨_, 0, none⟩ 6 6 [.int .i64 d1, .int .i64 (ea - 2), .int .i64 (ea + 1), .int .i64 d2, .int .i64 d3, .int .i64 d4] rfl rfl ?c1 ?c2 ?c3 ?c4 ?c5 ?_)
        | go_in)
      case c1 =>
        intro j u hj
        match j, hj with
        | 0, hj => simp at hj; subst hj; simp [Addr.add]
        | 1, hj => simp at hj; subst hj; simp [Addr.add]
        | 2, hj => simp at hj; subst hj; simp [Addr.add]
        | 3, hj => simp at hj; subst hj; simp [Addr.add]
        | 4, hj => simp at hj; subst hj; simp [Addr.add]
        | 5, hj => simp at hj; subst hj; simp [Addr.add]
      case c2 => first | exact ⟨rfl, rfl, rfl, rfl, rfl, rfl⟩ | (intro u hu; simp at hu; rcases hu with rfl | rfl | rfl | rfl | rfl | rfl <;> rfl)
      case c3 => unfold maxLen; omega
      case c4 => omega
      case c5 => have := HB5.out.size; simp; omega
      intro v' w6 hown' hgrow _
      have HB6 := hide ((HB5.out.alloc HB5.out.size (.cells #[.int .i64 d1, .int .i64 (ea - 2), .int .i64 (ea + 1), .int .i64 d2, .int .i64 d3, .int .i64 d4] 3)).grown hgrow (by have := HB5.out.size; simp; omega) (fun j hj => by have := (HO5.out.lt j hj).1; omega))
      have HO6 : Hid (w6.ownsRow w.heap.size 3 1 v' (6 * (k + 1)) (lv .i64 (tlist x (k + 1)))) := by
        rw [HTS.out, HTY.out, lv_app]; exact hide hown'
      clear hown' hgrow HB5 HO5
      go_wp2_with fail
      go_roundw
      case rel => exact ⟨k + 1, by omega, by go_num, HO6, HB6⟩
      case measure => simp [intOf]; omega
    · have e : k = N := by omega
      subst e
      have hle : ¬ x + (k : Int) ≤ y := by omega
      have hri := hide (ri_of_owns HO0.out)
      have HNW := hide (fun (W : World) (v : Value) (h : RI W .i64 v (tlist x k)) => New_any tw v (tlist x k) W h (by rw [tlist_len]; omega) (tlist_b x1 k (by omega)))
      go_wp2_with fail
      refine (HNW.out _ _ hri.out).mono ?_
      rintro e w2 ⟨rfl, hcal, hb2⟩
      have HCL := hide hcal
      go_wp2_with fail
      go_ret2
      exact ⟨.inr ⟨by first | trivial | rfl, _, _, rfl, by rw [HTF.out]; exact HCL.out⟩, HB0.out.trans (hb2.mono HB0.out.size)⟩
end Go.Proofs.YtdfeehimnfogmaaGreatDoor
