/-
  My own text: counting business days and the day that stands for a day: the program's.
-/
import Derived.Test.YtdfeehimnfogmaaGreatDoorE6
import Derived.WideLaws
namespace Go.Proofs.YtdfeehimnfogmaaGreatDoor
open Go.RowKit Go.Maps

theorem Tryz.nilNeqG (i : Nat) (w : World) : (eqGuard .neq 27 (.tmp i) (.const .nilIface) .nilIface .nilIface).run Tryz.prog w = .ok () w := by kernel_rfl
theorem Tryz.nilNeq (w : World) : (binOp .neq 27 .nilIface .nilIface).run Tryz.prog w = .ok (.bool false) w := by kernel_rfl
def coE (a b : Int) : Int := if dayB a = false ∨ dayB b = false then 8 else if b < a then 1 else 0
def coV (g : Int → Bool) (a b : Int) : Int := if coE a b = 0 then cn g a b else 0
theorem coE_b (a b : Int) : 0 ≤ coE a b ∧ coE a b ≤ 24 := by unfold coE; split <;> (try split) <;> omega
theorem co_date (g : Int → Bool) {a b : Int} (h : dayB a = false ∨ dayB b = false) : coV g a b = 0 ∧ coE a b = 8 := by
  have e : coE a b = 8 := if_pos h
  unfold coV; rw [e]; exact ⟨rfl, rfl⟩
theorem co_arg (g : Int → Bool) {a b : Int} (ha : dayB a = true) (hb : dayB b = true) (h : b < a) : coV g a b = 0 ∧ coE a b = 1 := by
  have e : coE a b = 1 := by unfold coE; rw [if_neg (by rw [ha, hb]; simp), if_pos h]
  unfold coV; rw [e]; exact ⟨rfl, rfl⟩
theorem co_ok (g : Int → Bool) {a b : Int} (ha : dayB a = true) (hb : dayB b = true) (h : ¬ b < a) : coV g a b = cn g a b ∧ coE a b = 0 := by
  have e : coE a b = 0 := by unfold coE; rw [if_neg (by rw [ha, hb]; simp), if_neg h]
  unfold coV; rw [e]; exact ⟨rfl, rfl⟩
set_option maxRecDepth 100000 in
set_option maxHeartbeats 2000000 in
theorem Count_any (p b : Nat) (we : Nat → Bool) (F : Int → Bool) (x y : Int) (w : World) (HC : Hid (Cal w p b we F)) (HS : Hid (∀ x, F x = true → weB we x = false)) :
    Calls Tryz.prog 21 #[.pointer (some ⟨p, 0, none⟩), .int .i64 x, .int .i64 y] w fun e w' => e = .returned (.tuple #[.int .i64 (coV (bizB we F) x y), errV (coE x y)]) ∧ Below w.heap.size w w' := by
  have HA := hide (fun W : World => isDay_any x W)
  have HB := hide (fun W : World => isDay_any y W)
  cases ha : dayB x
  · rw [(co_date (b := y) _ (.inl ha)).1, (co_date (b := y) (bizB we F) (.inl ha)).2]
    rw [ha] at HA
    clear ha
    go_enter Tryz.func21, Tryz.ntmps21
    go_wp2_with (go_at_call 32; refine (HA.out _).mono ?_; rintro e w' ⟨rfl, hw'⟩; have hw' := hw'.symm; subst hw')
    go_ret2
    exact ⟨rfl, Below.refl _ _⟩
  cases hb : dayB y
  · rw [(co_date (a := x) _ (.inr hb)).1, (co_date (a := x) (bizB we F) (.inr hb)).2]
    rw [ha] at HA
    rw [hb] at HB
    clear ha hb
    go_enter Tryz.func21, Tryz.ntmps21
    go_wp2_with fail
    refine (HA.out _).mono ?_
    rintro e w' ⟨rfl, hw'⟩
    have hw' := hw'.symm
    subst hw'
    go_wp2_with fail
    refine (HB.out _).mono ?_
    rintro e w' ⟨rfl, hw'⟩
    have hw' := hw'.symm
    subst hw'
    go_wp2_with fail
    go_ret2
    exact ⟨rfl, Below.refl _ _⟩
  by_cases hc : y < x
  · rw [(co_arg (bizB we F) ha hb hc).1, (co_arg (bizB we F) ha hb hc).2]
    rw [ha] at HA
    rw [hb] at HB
    clear ha hb
    go_enter Tryz.func21, Tryz.ntmps21
    go_wp2_with fail
    refine (HA.out _).mono ?_
    rintro e w' ⟨rfl, hw'⟩
    have hw' := hw'.symm
    subst hw'
    go_wp2_with fail
    refine (HB.out _).mono ?_
    rintro e w' ⟨rfl, hw'⟩
    have hw' := hw'.symm
    subst hw'
    go_wp2_with fail
    go_ret2
    exact ⟨rfl, Below.refl _ _⟩
  rw [(co_ok (bizB we F) ha hb hc).1, (co_ok (bizB we F) ha hb hc).2]
  obtain ⟨x1, x2⟩ := (dayB_iff x).1 ha
  obtain ⟨y1, y2⟩ := (dayB_iff y).1 hb
  rw [ha] at HA
  rw [hb] at HB
  clear ha hb
  have HCT := hide (count_cn p b we F x y w HC HS (by omega) (by omega) (by omega))
  generalize cn (bizB we F) x y = v at *
  go_enter Tryz.func21, Tryz.ntmps21
  go_wp2_with fail
  refine (HA.out _).mono ?_
  rintro e w' ⟨rfl, hw'⟩
  have hw' := hw'.symm
  subst hw'
  go_wp2_with fail
  refine (HB.out _).mono ?_
  rintro e w' ⟨rfl, hw'⟩
  have hw' := hw'.symm
  subst hw'
  go_wp2_with fail
  refine (HCT.out).mono ?_
  rintro e w2 ⟨rfl, hb2⟩
  go_wp2_with fail
  go_ret2
  exact ⟨rfl, hb2⟩
theorem sameMonth_any (x y : Int) (w : World) (HM : Hid (MDays w)) (x1 : 1 ≤ x) (x2 : x ≤ 3652059) (y1 : 1 ≤ y) (y2 : y ≤ 3652059) :
    Calls Tryz.prog 44 #[.int .i64 x, .int .i64 y] w fun e w' => e = .returned (.bool (monI x == monI y)) ∧ Below w.heap.size w w' := by
  have HDX := hide (fun (W : World) (h : MDays W) => dateOf_any x W (hide h) x1 x2)
  have HDY := hide (fun (W : World) (h : MDays W) => dateOf_any y W (hide h) y1 y2)
  have HMX := hide (fun W : World => monthOf_any (yearI x) (monthI x) (dayI x) W (yearI_b x1 x2).1 (yearI_b x1 x2).2 (monthI_b x1).1 (monthI_b x1).2)
  have HMY := hide (fun W : World => monthOf_any (yearI y) (monthI y) (dayI y) W (yearI_b y1 y2).1 (yearI_b y1 y2).2 (monthI_b y1).1 (monthI_b y1).2)
  have ex : 12 * (yearI x - 1) + monthI x - 1 = monI x := rfl
  have ey : 12 * (yearI y - 1) + monthI y - 1 = monI y := rfl
  rw [ex] at HMX
  rw [ey] at HMY
  clear ex ey
  unfold dateV at HDX HDY HMX HMY
  generalize monI x = mx at *
  generalize monI y = my at *
  generalize yearI x = a0 at *
  generalize monthI x = a1 at *
  generalize dayI x = a2 at *
  generalize yearI y = b0 at *
  generalize monthI y = b1 at *
  generalize dayI y = b2 at *
  go_enter Tryz.func44, Tryz.ntmps44
  go_wp2_with fail
  refine (HDX.out _ HM.out).mono ?_
  rintro e w1 ⟨rfl, hb1⟩
  go_wp2_with fail
  refine (HMX.out _).mono ?_
  rintro e w2 ⟨rfl, hb2⟩
  have hB2 := hb1.trans (hb2.mono hb1.size)
  go_wp2_with fail
  refine (HDY.out _ (HM.out.below hB2)).mono ?_
  rintro e w3 ⟨rfl, hb3⟩
  have hB3 := hB2.trans (hb3.mono hB2.size)
  go_wp2_with fail
  refine (HMY.out _).mono ?_
  rintro e w4 ⟨rfl, hb4⟩
  go_wp2_with fail
  go_ret
  exact ⟨rfl, hB3.trans (hb4.mono hB3.size)⟩
def st (c : Int) : Int := if c = 2 ∨ c = 3 then -1 else 1
/-- What stands for a day. -/
def AdjR (g : Int → Bool) (n c v e : Int) : Prop :=
  (dayB n = false ∧ v = 0 ∧ e = 8) ∨ (dayB n = true ∧ (c < 0 ∨ 3 < c) ∧ v = 0 ∧ e = 1) ∨
  (dayB n = true ∧ 0 ≤ c ∧ c ≤ 3 ∧ ((g n = true ∧ v = n ∧ e = 0) ∨ (g n = false ∧ ∃ v1 e1, AddR g n (st c) v1 e1 ∧
    (((c = 1 ∨ c = 3) ∧ (e1 ≠ 0 ∨ monI n ≠ monI v1) ∧ AddR g n (-st c) v e) ∨ (¬ ((c = 1 ∨ c = 3) ∧ (e1 ≠ 0 ∨ monI n ≠ monI v1)) ∧ v = v1 ∧ e = e1)))))
theorem AddR.err {g : Int → Bool} {n k v e : Int} (h : AddR g n k v e) : e = 0 ∨ e = 8 := by
  rcases h with ⟨_, _, h⟩ | ⟨_, ⟨h, _⟩ | ⟨h, _⟩⟩ | ⟨_, ⟨h, _⟩ | ⟨h, _⟩⟩ <;> omega
theorem AddR.day {g : Int → Bool} {n k v : Int} (n1 : 1 ≤ n) (n2 : n ≤ 3652059) (h : AddR g n k v 0) : 1 ≤ v ∧ v ≤ 3652059 := by
  rcases h with ⟨_, h, _⟩ | ⟨_, ⟨_, h1, h2, _⟩ | ⟨h, _⟩⟩ | ⟨_, ⟨_, h1, h2, _⟩ | ⟨h, _⟩⟩ <;> omega
set_option maxRecDepth 100000 in
set_option maxHeartbeats 2000000 in
theorem Adjust_any (p b : Nat) (we : Nat → Bool) (F : Int → Bool) (n c : Int) (w : World) (HM : Hid (MDays w)) (HC : Hid (Cal w p b we F)) (HS : Hid (∀ x, F x = true → weB we x = false)) :
    Calls Tryz.prog 20 #[.pointer (some ⟨p, 0, none⟩), .int .i64 n, .int .i64 c] w fun e w' => (∃ v x, e = .returned (.tuple #[.int .i64 v, errV x]) ∧ AdjR (bizB we F) n c v x) ∧ Below w.heap.size w w' := by
  have HI := hide (fun W : World => isDay_any n W)
  cases hd : dayB n
  · have HDN := hide hd
    rw [hd] at HI
    clear hd
    go_enter Tryz.func20, Tryz.ntmps20
    go_wp2_with (go_at_call 32; refine (HI.out _).mono ?_; rintro e w' ⟨rfl, hw'⟩; have hw' := hw'.symm; subst hw')
    go_ret2
    exact ⟨⟨0, 8, rfl, .inl ⟨HDN.out, rfl, rfl⟩⟩, Below.refl _ _⟩
  have HDY := hide hd
  rw [hd] at HI
  obtain ⟨n1, n2⟩ := (dayB_iff n).1 hd
  have hbe : busB we F n = bizB we F n := by unfold busB bizB; rw [hd]; simp
  clear hd
  by_cases hc : c < 0
  · go_enter Tryz.func20, Tryz.ntmps20
    go_wp2_with (go_at_call 32; refine (HI.out _).mono ?_; rintro e w' ⟨rfl, hw'⟩; have hw' := hw'.symm; subst hw')
    go_ret2
    exact ⟨⟨0, 1, rfl, .inr (.inl ⟨HDY.out, .inl hc, rfl, rfl⟩)⟩, Below.refl _ _⟩
  by_cases hc2 : 3 < c
  · go_enter Tryz.func20, Tryz.ntmps20
    go_wp2_with (go_at_call 32; refine (HI.out _).mono ?_; rintro e w' ⟨rfl, hw'⟩; have hw' := hw'.symm; subst hw')
    go_ret2
    exact ⟨⟨0, 1, rfl, .inr (.inl ⟨HDY.out, .inr hc2, rfl, rfl⟩)⟩, Below.refl _ _⟩
  have HBN := hide (fun (W : World) (h : Cal W p b we F) => Business_any p b we F n W (hide h))
  rw [hbe] at HBN
  clear hbe
  by_cases hg : bizB we F n = true
  · have HG := hide hg
    rw [hg] at HBN
    clear hg
    go_enter Tryz.func20, Tryz.ntmps20
    go_wp2_with (first
      | (go_at_call 32; refine (HI.out _).mono ?_; rintro e w' ⟨rfl, hw'⟩; have hw' := hw'.symm; subst hw')
      | (go_at_call 22; refine (HBN.out _ HC.out).mono ?_; rintro e w1 ⟨rfl, hb1⟩))
    go_ret2
    exact ⟨⟨n, 0, rfl, .inr (.inr ⟨HDY.out, by omega, by omega, .inl ⟨HG.out, rfl, rfl⟩⟩)⟩, hb1⟩
  have hg := Bool.eq_false_iff.2 hg
  have HNB := hide hg
  rw [hg] at HBN
  clear hg
  rcases (show c = 0 ∨ c = 1 ∨ c = 2 ∨ c = 3 by omega) with rfl | rfl | rfl | rfl
  · skip
    have HAD := hide (fun (W : World) (h : Cal W p b we F) => Add_any p b we F n (1) W (hide h) HS (by omega) (by omega))
    go_enter Tryz.func20, Tryz.ntmps20
    go_wp2_with (first
      | (go_at_call 32; refine (HI.out _).mono ?_; rintro e w' ⟨rfl, hw'⟩; have hw' := hw'.symm; subst hw')
      | (go_at_call 22; refine (HBN.out _ HC.out).mono ?_; rintro e w1 ⟨rfl, hb1⟩))
    refine (HAD.out _ (HC.out.later hb1)).mono ?_
    rintro e w2 ⟨⟨v1, e1, rfl, hs⟩, hb2⟩
    have HB2 := hide (hb1.trans (hb2.mono hb1.size))
    have HR := hide (hs.resolve_left (fun h => by have := h.1; rw [HDY.out] at this; cases this)).2
    clear hs hb2
    go_wp2_with fail
    go_ret2
    exact ⟨⟨v1, e1, rfl, .inr (.inr ⟨HDY.out, by omega, by omega, .inr ⟨HNB.out, v1, e1, HR.out, .inr ⟨fun h => by have := h.1; omega, rfl, rfl⟩⟩⟩)⟩, HB2.out⟩
  · skip
    have HAD := hide (fun (W : World) (h : Cal W p b we F) => Add_any p b we F n (1) W (hide h) HS (by omega) (by omega))
    go_enter Tryz.func20, Tryz.ntmps20
    go_wp2_with (first
      | (go_at_call 32; refine (HI.out _).mono ?_; rintro e w' ⟨rfl, hw'⟩; have hw' := hw'.symm; subst hw')
      | (go_at_call 22; refine (HBN.out _ HC.out).mono ?_; rintro e w1 ⟨rfl, hb1⟩))
    refine (HAD.out _ (HC.out.later hb1)).mono ?_
    rintro e w2 ⟨⟨v1, e1, rfl, hs⟩, hb2⟩
    have HB2 := hide (hb1.trans (hb2.mono hb1.size))
    have HR := hide (hs.resolve_left (fun h => by have := h.1; rw [HDY.out] at this; cases this)).2
    clear hs hb2
    have HAG := hide (fun (W : World) (h : Cal W p b we F) => Add_any p b we F n (-1) W (hide h) HS (by omega) (by omega))
    have he := AddR.err HR.out
    by_cases he0 : e1 = 0
    · subst he0
      clear he
      have hvb := AddR.day n1 n2 HR.out
      obtain ⟨v11, v12⟩ := hvb
      have HSM := hide (fun (W : World) (h : MDays W) => sameMonth_any n v1 W (hide h) n1 n2 v11 v12)
      rw [errV_zero]
      have hq1 := Tryz.nilNeqG 48
      have hq2 := Tryz.nilNeq
      cases hm : (monI n == monI v1)
      · have HNE := hide (show monI n ≠ monI v1 by simpa using hm)
        rw [hm] at HSM
        clear hm
        go_wp2_with (go_at_call 44; refine (HSM.out _ (HM.out.below HB2.out)).mono ?_; rintro e w3 ⟨rfl, hb3⟩; have HBX := hide (HB2.out.trans (hb3.mono HB2.out.size)))
        go_wp2_with (go_at_call 19; refine (HAG.out _ (HC.out.later HBX.out)).mono ?_; rintro e w4 ⟨⟨v2, e2, rfl, hs⟩, hb4⟩)
        go_ret2
        exact ⟨⟨v2, e2, rfl, .inr (.inr ⟨HDY.out, by omega, by omega, .inr ⟨HNB.out, v1, _, HR.out, .inl ⟨by omega, .inr HNE.out, (hs.resolve_left (fun h => by have := h.1; rw [HDY.out] at this; cases this)).2⟩⟩⟩)⟩, HBX.out.trans (hb4.mono HBX.out.size)⟩
      · have HNE := hide (show monI n = monI v1 by simpa using hm)
        rw [hm] at HSM
        clear hm
        go_wp2_with (go_at_call 44; refine (HSM.out _ (HM.out.below HB2.out)).mono ?_; rintro e w3 ⟨rfl, hb3⟩; have HBX := hide (HB2.out.trans (hb3.mono HB2.out.size)))
        go_ret2
        exact ⟨⟨v1, 0, rfl, .inr (.inr ⟨HDY.out, by omega, by omega, .inr ⟨HNB.out, v1, 0, HR.out, .inr ⟨fun h => h.2.elim (fun q => q rfl) (fun q => q HNE.out), rfl, rfl⟩⟩⟩)⟩, HBX.out⟩
    · obtain rfl : e1 = 8 := by omega
      rw [errV_pos (by omega)]
      have HBX := HB2
      go_wp2_with (go_at_call 19; refine (HAG.out _ (HC.out.later HBX.out)).mono ?_; rintro e w4 ⟨⟨v2, e2, rfl, hs⟩, hb4⟩)
      go_ret2
      exact ⟨⟨v2, e2, rfl, .inr (.inr ⟨HDY.out, by omega, by omega, .inr ⟨HNB.out, v1, _, HR.out, .inl ⟨by omega, .inl (by omega), (hs.resolve_left (fun h => by have := h.1; rw [HDY.out] at this; cases this)).2⟩⟩⟩)⟩, HBX.out.trans (hb4.mono HBX.out.size)⟩
  · skip
    have HAD := hide (fun (W : World) (h : Cal W p b we F) => Add_any p b we F n (-1) W (hide h) HS (by omega) (by omega))
    go_enter Tryz.func20, Tryz.ntmps20
    go_wp2_with (first
      | (go_at_call 32; refine (HI.out _).mono ?_; rintro e w' ⟨rfl, hw'⟩; have hw' := hw'.symm; subst hw')
      | (go_at_call 22; refine (HBN.out _ HC.out).mono ?_; rintro e w1 ⟨rfl, hb1⟩))
    refine (HAD.out _ (HC.out.later hb1)).mono ?_
    rintro e w2 ⟨⟨v1, e1, rfl, hs⟩, hb2⟩
    have HB2 := hide (hb1.trans (hb2.mono hb1.size))
    have HR := hide (hs.resolve_left (fun h => by have := h.1; rw [HDY.out] at this; cases this)).2
    clear hs hb2
    go_wp2_with fail
    go_ret2
    exact ⟨⟨v1, e1, rfl, .inr (.inr ⟨HDY.out, by omega, by omega, .inr ⟨HNB.out, v1, e1, HR.out, .inr ⟨fun h => by have := h.1; omega, rfl, rfl⟩⟩⟩)⟩, HB2.out⟩
  · skip
    have HAD := hide (fun (W : World) (h : Cal W p b we F) => Add_any p b we F n (-1) W (hide h) HS (by omega) (by omega))
    go_enter Tryz.func20, Tryz.ntmps20
    go_wp2_with (first
      | (go_at_call 32; refine (HI.out _).mono ?_; rintro e w' ⟨rfl, hw'⟩; have hw' := hw'.symm; subst hw')
      | (go_at_call 22; refine (HBN.out _ HC.out).mono ?_; rintro e w1 ⟨rfl, hb1⟩))
    refine (HAD.out _ (HC.out.later hb1)).mono ?_
    rintro e w2 ⟨⟨v1, e1, rfl, hs⟩, hb2⟩
    have HB2 := hide (hb1.trans (hb2.mono hb1.size))
    have HR := hide (hs.resolve_left (fun h => by have := h.1; rw [HDY.out] at this; cases this)).2
    clear hs hb2
    have HAG := hide (fun (W : World) (h : Cal W p b we F) => Add_any p b we F n (1) W (hide h) HS (by omega) (by omega))
    have he := AddR.err HR.out
    by_cases he0 : e1 = 0
    · subst he0
      clear he
      have hvb := AddR.day n1 n2 HR.out
      obtain ⟨v11, v12⟩ := hvb
      have HSM := hide (fun (W : World) (h : MDays W) => sameMonth_any n v1 W (hide h) n1 n2 v11 v12)
      rw [errV_zero]
      have hq1 := Tryz.nilNeqG 48
      have hq2 := Tryz.nilNeq
      cases hm : (monI n == monI v1)
      · have HNE := hide (show monI n ≠ monI v1 by simpa using hm)
        rw [hm] at HSM
        clear hm
        go_wp2_with (go_at_call 44; refine (HSM.out _ (HM.out.below HB2.out)).mono ?_; rintro e w3 ⟨rfl, hb3⟩; have HBX := hide (HB2.out.trans (hb3.mono HB2.out.size)))
        go_wp2_with (go_at_call 19; refine (HAG.out _ (HC.out.later HBX.out)).mono ?_; rintro e w4 ⟨⟨v2, e2, rfl, hs⟩, hb4⟩)
        go_ret2
        exact ⟨⟨v2, e2, rfl, .inr (.inr ⟨HDY.out, by omega, by omega, .inr ⟨HNB.out, v1, _, HR.out, .inl ⟨by omega, .inr HNE.out, (hs.resolve_left (fun h => by have := h.1; rw [HDY.out] at this; cases this)).2⟩⟩⟩)⟩, HBX.out.trans (hb4.mono HBX.out.size)⟩
      · have HNE := hide (show monI n = monI v1 by simpa using hm)
        rw [hm] at HSM
        clear hm
        go_wp2_with (go_at_call 44; refine (HSM.out _ (HM.out.below HB2.out)).mono ?_; rintro e w3 ⟨rfl, hb3⟩; have HBX := hide (HB2.out.trans (hb3.mono HB2.out.size)))
        go_ret2
        exact ⟨⟨v1, 0, rfl, .inr (.inr ⟨HDY.out, by omega, by omega, .inr ⟨HNB.out, v1, 0, HR.out, .inr ⟨fun h => h.2.elim (fun q => q rfl) (fun q => q HNE.out), rfl, rfl⟩⟩⟩)⟩, HBX.out⟩
    · obtain rfl : e1 = 8 := by omega
      rw [errV_pos (by omega)]
      have HBX := HB2
      go_wp2_with (go_at_call 19; refine (HAG.out _ (HC.out.later HBX.out)).mono ?_; rintro e w4 ⟨⟨v2, e2, rfl, hs⟩, hb4⟩)
      go_ret2
      exact ⟨⟨v2, e2, rfl, .inr (.inr ⟨HDY.out, by omega, by omega, .inr ⟨HNB.out, v1, _, HR.out, .inl ⟨by omega, .inl (by omega), (hs.resolve_left (fun h => by have := h.1; rw [HDY.out] at this; cases this)).2⟩⟩⟩)⟩, HBX.out.trans (hb4.mono HBX.out.size)⟩
end Go.Proofs.YtdfeehimnfogmaaGreatDoor
