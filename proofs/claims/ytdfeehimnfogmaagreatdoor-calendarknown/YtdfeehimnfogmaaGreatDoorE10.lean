/-
  My own text: the chapter's examples hold.
-/
import Derived.Test.YtdfeehimnfogmaaGreatDoorE9
import Derived.Test.YtdfeehimnfogmaaGreatDoorD13
import Derived.Test.YtdfeehimnfogmaaGreatDoorD6
namespace Go.Proofs.YtdfeehimnfogmaaGreatDoor
open Go.RowKit Go.Maps

theorem day_any (y m d : Int) (w : World) (HM : Hid (MDays w)) :
    Calls Tryz.prog 11 #[.int .i64 y, .int .i64 m, .int .i64 d] w fun e w' => e = .returned (.int .i64 (numV y m d)) ∧ Below w.heap.size w w' := by
  have HN := hide (Number_any y m d w HM)
  unfold dateV at HN
  generalize numV y m d = v at *
  generalize errV (numE y m d) = x at *
  go_enter Tryz.func11, Tryz.ntmps11
  go_wp2_with (go_at_call 31; refine (HN.out).mono ?_; rintro e w1 ⟨rfl, hb1⟩)
  go_ret
  exact ⟨rfl, hb1⟩
theorem t24 : tF 2024 2024 = FL tw [738886, 738974, 738977, 739007, 739245, 739246] := by
  have h : tlist 2024 (2024 - 2024 + 1 : Int).toNat = [738886, 738974, 738977, 739007, 739245, 739246] := by decide
  unfold tF; rw [h]
theorem free_week (we : Nat → Bool) (l : List Int) : ∀ x, FL we l x = true → weB we x = false := by
  intro x h
  unfold FL at h
  cases hw : weB we x
  · rfl
  · rw [hw] at h; simp at h
theorem add24 {v x : Int} (h : AddS (bizB tw (FL tw [738886, 738974, 738977, 739007, 739245, 739246])) 738973 1 v x) : v = 738978 ∧ x = 0 := by
  rcases h with ⟨h, _⟩ | ⟨_, h⟩
  · exact absurd h (by decide)
  · exact AddR.unique (by omega) (by omega) h (.inr (.inl ⟨by omega, .inl ⟨rfl, by omega, by omega, by decide, by decide⟩⟩))
theorem adj24 {v x : Int} (h : AdjR (bizB tw (FL tw [738886, 738974, 738977, 739007, 739245, 739246])) 738976 1 v x) : v = 738973 ∧ x = 0 := by
  rcases h with ⟨h, _⟩ | ⟨_, h, _⟩ | ⟨_, _, _, ⟨h, _⟩ | ⟨_, v1, e1, h1, ⟨_, _, h3⟩ | ⟨h2, _⟩⟩⟩
  · exact absurd h (by decide)
  · omega
  · exact absurd h (by decide)
  · rw [show -st 1 = -1 from rfl] at h3
    exact AddR.unique (by omega) (by omega) h3 (.inr (.inr ⟨by omega, .inl ⟨rfl, by omega, by omega, by decide, by decide⟩⟩))
  · rw [show st 1 = 1 from rfl] at h1
    obtain ⟨rfl, rfl⟩ := AddR.unique (by omega) (by omega) h1 (.inr (.inl ⟨by omega, .inl ⟨rfl, by omega, by omega, by decide, by decide⟩⟩) : AddR _ 738976 1 738978 0)
    exact absurd ⟨.inl rfl, .inr (by decide)⟩ h2
set_option maxRecDepth 100000 in
set_option maxHeartbeats 4000000 in
theorem shown_any (w : World) (HM : Hid (MDays w)) :
    Calls Tryz.prog 4 #[] w fun e w' => e = .returned (.bool true) ∧ Below w.heap.size w w' := by
  have hg := Tryz.nilNeqG
  have hn := Tryz.nilNeq
  have hq := Tryz.neqDate 2023 1 1
  have HD1x1x1 := hide (fun (W : World) (h : MDays W) => day_any 1 1 1 W (hide h))
  rw [show numV 1 1 1 = 1 by decide] at HD1x1x1
  have HD1x12x31 := hide (fun (W : World) (h : MDays W) => day_any 1 12 31 W (hide h))
  rw [show numV 1 12 31 = 365 by decide] at HD1x12x31
  have HD2000x2x29 := hide (fun (W : World) (h : MDays W) => day_any 2000 2 29 W (hide h))
  rw [show numV 2000 2 29 = 730179 by decide] at HD2000x2x29
  have HD9999x12x31 := hide (fun (W : World) (h : MDays W) => day_any 9999 12 31 W (hide h))
  rw [show numV 9999 12 31 = 3652059 by decide] at HD9999x12x31
  have HD2021x1x3 := hide (fun (W : World) (h : MDays W) => day_any 2021 1 3 W (hide h))
  rw [show numV 2021 1 3 = 737793 by decide] at HD2021x1x3
  have HD2024x3x31 := hide (fun (W : World) (h : MDays W) => day_any 2024 3 31 W (hide h))
  rw [show numV 2024 3 31 = 738976 by decide] at HD2024x3x31
  have HD2024x1x31 := hide (fun (W : World) (h : MDays W) => day_any 2024 1 31 W (hide h))
  rw [show numV 2024 1 31 = 738916 by decide] at HD2024x1x31
  have HD2024x1x15 := hide (fun (W : World) (h : MDays W) => day_any 2024 1 15 W (hide h))
  rw [show numV 2024 1 15 = 738900 by decide] at HD2024x1x15
  have HD2024x2x29 := hide (fun (W : World) (h : MDays W) => day_any 2024 2 29 W (hide h))
  rw [show numV 2024 2 29 = 738945 by decide] at HD2024x2x29
  have HD2024x3x28 := hide (fun (W : World) (h : MDays W) => day_any 2024 3 28 W (hide h))
  rw [show numV 2024 3 28 = 738973 by decide] at HD2024x3x28
  have HD2024x3x25 := hide (fun (W : World) (h : MDays W) => day_any 2024 3 25 W (hide h))
  rw [show numV 2024 3 25 = 738970 by decide] at HD2024x3x25
  have HD2024x4x8 := hide (fun (W : World) (h : MDays W) => day_any 2024 4 8 W (hide h))
  rw [show numV 2024 4 8 = 738984 by decide] at HD2024x4x8
  have HD2024x4x2 := hide (fun (W : World) (h : MDays W) => day_any 2024 4 2 W (hide h))
  rw [show numV 2024 4 2 = 738978 by decide] at HD2024x4x2
  have HD2024x4x1 := hide (fun (W : World) (h : MDays W) => day_any 2024 4 1 W (hide h))
  rw [show numV 2024 4 1 = 738977 by decide] at HD2024x4x1
  have HOF := hide (fun (W : World) (h : MDays W) => Of_any 738521 W (hide h))
  rw [show ofV 738521 = dateV 2023 1 1 by rfl, show ofE 738521 = 0 by decide, errV_zero] at HOF
  have HWD := hide (fun (W : World) => Weekday_any 738521 W)
  rw [show wdV 738521 = 6 by decide, show ofE 738521 = 0 by decide, errV_zero] at HWD
  have HWK := hide (fun (W : World) (h : MDays W) => Week_any 737793 W (hide h))
  rw [show wyV 737793 = 2020 by decide, show wkV 737793 = 53 by decide, show ofE 737793 = 0 by decide, errV_zero] at HWK
  have HEA := hide (fun (W : World) (h : MDays W) => Easter_any 2024 W (hide h))
  rw [show eaV 2024 = 738976 by decide, show eaE 2024 = 0 by decide, errV_zero] at HEA
  have HMO := hide (fun (W : World) (h : MDays W) => Months_any 738916 1 W (hide h))
  rw [show moV 738916 1 = 738945 by decide, show moE 738916 1 = 0 by decide, errV_zero] at HMO
  have HFR := hide (fun (W : World) (h : MDays W) => Fraction_any 738900 738976 2 W (hide h))
  rw [show frA 738900 738976 2 = 76 by decide, show frW 738900 738976 2 = 360 by decide, show frE 738900 738976 2 = 0 by decide, errV_zero] at HFR
  have HTG := hide (fun (W : World) (h : MDays W) => Target_any 2024 2024 W (hide h))
  rw [show taE 2024 2024 = 0 by decide, t24] at HTG
  have HS := hide (free_week tw [738886, 738974, 738977, 739007, 739245, 739246])
  unfold dateV at HOF
  have HB0 := hide (Below.refl w.heap.size w)
  go_enter Tryz.func4, Tryz.ntmps4
  go_wp2_with fail
  refine (HD1x1x1.out _ (HM.out.below HB0.out)).mono ?_
  rintro e w1 ⟨rfl, hb1⟩
  have HB1 := hide (HB0.out.trans (hb1.mono HB0.out.size))
  clear hb1 HB0
  go_wp2_with fail
  refine (HD1x12x31.out _ (HM.out.below HB1.out)).mono ?_
  rintro e w2 ⟨rfl, hb2⟩
  have HB2 := hide (HB1.out.trans (hb2.mono HB1.out.size))
  clear hb2 HB1
  go_wp2_with fail
  refine (HD2000x2x29.out _ (HM.out.below HB2.out)).mono ?_
  rintro e w3 ⟨rfl, hb3⟩
  have HB3 := hide (HB2.out.trans (hb3.mono HB2.out.size))
  clear hb3 HB2
  go_wp2_with fail
  refine (HD9999x12x31.out _ (HM.out.below HB3.out)).mono ?_
  rintro e w4 ⟨rfl, hb4⟩
  have HB4 := hide (HB3.out.trans (hb4.mono HB3.out.size))
  clear hb4 HB3
  go_wp2_with fail
  refine (HOF.out _ (HM.out.below HB4.out)).mono ?_
  rintro e w5 ⟨rfl, hb5⟩
  have HB5 := hide (HB4.out.trans (hb5.mono HB4.out.size))
  clear hb5 HB4
  have HBX := hide (HB5.out.alloc HB5.out.size (.cells #[.int .i64 2023, .int .i64 1, .int .i64 1] 25))
  go_wp2_with fail
  refine (HWD.out _).mono ?_
  rintro e w6 ⟨rfl, hw6⟩
  subst hw6
  go_wp2_with fail
  have HB6 := HBX
  clear HBX HB5
  refine (HD2021x1x3.out _ (HM.out.below HB6.out)).mono ?_
  rintro e w7 ⟨rfl, hb7⟩
  have HB7 := hide (HB6.out.trans (hb7.mono HB6.out.size))
  clear hb7 HB6
  go_wp2_with fail
  refine (HWK.out _ (HM.out.below HB7.out)).mono ?_
  rintro e w8 ⟨rfl, hb8⟩
  have HB8 := hide (HB7.out.trans (hb8.mono HB7.out.size))
  clear hb8 HB7
  go_wp2_with fail
  refine (HEA.out _ (HM.out.below HB8.out)).mono ?_
  rintro e w9 ⟨rfl, hb9⟩
  have HB9 := hide (HB8.out.trans (hb9.mono HB8.out.size))
  clear hb9 HB8
  go_wp2_with fail
  refine (HD2024x3x31.out _ (HM.out.below HB9.out)).mono ?_
  rintro e w10 ⟨rfl, hb10⟩
  have HB10 := hide (HB9.out.trans (hb10.mono HB9.out.size))
  clear hb10 HB9
  go_wp2_with fail
  refine (HD2024x1x31.out _ (HM.out.below HB10.out)).mono ?_
  rintro e w11 ⟨rfl, hb11⟩
  have HB11 := hide (HB10.out.trans (hb11.mono HB10.out.size))
  clear hb11 HB10
  go_wp2_with fail
  refine (HMO.out _ (HM.out.below HB11.out)).mono ?_
  rintro e w12 ⟨rfl, hb12⟩
  have HB12 := hide (HB11.out.trans (hb12.mono HB11.out.size))
  clear hb12 HB11
  go_wp2_with fail
  refine (HD2024x1x15.out _ (HM.out.below HB12.out)).mono ?_
  rintro e w13 ⟨rfl, hb13⟩
  have HB13 := hide (HB12.out.trans (hb13.mono HB12.out.size))
  clear hb13 HB12
  go_wp2_with fail
  refine (HD2024x3x31.out _ (HM.out.below HB13.out)).mono ?_
  rintro e w14 ⟨rfl, hb14⟩
  have HB14 := hide (HB13.out.trans (hb14.mono HB13.out.size))
  clear hb14 HB13
  go_wp2_with fail
  refine (HFR.out _ (HM.out.below HB14.out)).mono ?_
  rintro e w15 ⟨rfl, hb15⟩
  have HB15 := hide (HB14.out.trans (hb15.mono HB14.out.size))
  clear hb15 HB14
  go_wp2_with fail
  refine (HD2024x2x29.out _ (HM.out.below HB15.out)).mono ?_
  rintro e w16 ⟨rfl, hb16⟩
  have HB16 := hide (HB15.out.trans (hb16.mono HB15.out.size))
  clear hb16 HB15
  go_wp2_with fail
  refine (HTG.out _ (HM.out.below HB16.out)).mono ?_
  rintro e w17 ⟨⟨hne, _⟩ | ⟨_, p, b, rfl, hcal⟩, hb17⟩
  · exact absurd rfl hne
  have HC17 := hide hcal
  have HB17 := hide (HB16.out.trans (hb17.mono HB16.out.size))
  clear hb17 HB16 hcal
  go_wp2_with fail
  refine (HD2024x3x28.out _ (HM.out.below HB17.out)).mono ?_
  rintro e w18 ⟨rfl, hb18⟩
  have HB18 := hide (HB17.out.trans (hb18.mono HB17.out.size))
  have HC18 := hide (HC17.out.later hb18)
  clear HC17
  clear hb18 HB17
  go_wp2_with fail
  refine (Add_any p b tw _ 738973 1 _ HC18 HS (by omega) (by omega)).mono ?_
  rintro e w19 ⟨⟨v, x, rfl, hs⟩, hb19⟩
  obtain ⟨rfl, rfl⟩ := add24 hs
  clear hs
  rw [errV_zero]
  have HB19 := hide (HB18.out.trans (hb19.mono HB18.out.size))
  have HC19 := hide (HC18.out.later hb19)
  clear HC18 hb19 HB18
  go_wp2_with fail
  refine (HD2024x3x31.out _ (HM.out.below HB19.out)).mono ?_
  rintro e w20 ⟨rfl, hb20⟩
  have HB20 := hide (HB19.out.trans (hb20.mono HB19.out.size))
  have HC20 := hide (HC19.out.later hb20)
  clear HC19
  clear hb20 HB19
  go_wp2_with fail
  refine (Adjust_any p b tw _ 738976 1 _ (hide (HM.out.below HB20.out)) HC20 HS).mono ?_
  rintro e w21 ⟨⟨v, x, rfl, hs⟩, hb21⟩
  obtain ⟨rfl, rfl⟩ := adj24 hs
  clear hs
  rw [errV_zero]
  have HB21 := hide (HB20.out.trans (hb21.mono HB20.out.size))
  have HC21 := hide (HC20.out.later hb21)
  clear HC20 hb21 HB20
  go_wp2_with fail
  refine (HD2024x3x25.out _ (HM.out.below HB21.out)).mono ?_
  rintro e w22 ⟨rfl, hb22⟩
  have HB22 := hide (HB21.out.trans (hb22.mono HB21.out.size))
  have HC22 := hide (HC21.out.later hb22)
  clear HC21
  clear hb22 HB21
  go_wp2_with fail
  refine (HD2024x4x8.out _ (HM.out.below HB22.out)).mono ?_
  rintro e w23 ⟨rfl, hb23⟩
  have HB23 := hide (HB22.out.trans (hb23.mono HB22.out.size))
  have HC23 := hide (HC22.out.later hb23)
  clear HC22
  clear hb23 HB22
  go_wp2_with fail
  refine (Count_any p b tw _ 738970 738984 _ HC23 HS).mono ?_
  rintro e w24 ⟨rfl, hb24⟩
  rw [show coV (bizB tw (FL tw [738886, 738974, 738977, 739007, 739245, 739246])) 738970 738984 = 8 by decide, show coE 738970 738984 = 0 by decide, errV_zero]
  have HB24 := hide (HB23.out.trans (hb24.mono HB23.out.size))
  have HC24 := hide (HC23.out.later hb24)
  clear HC23 hb24 HB23
  go_wp2_with fail
  refine (HD2024x4x2.out _ (HM.out.below HB24.out)).mono ?_
  rintro e w25 ⟨rfl, hb25⟩
  have HB25 := hide (HB24.out.trans (hb25.mono HB24.out.size))
  have HC25 := hide (HC24.out.later hb25)
  clear HC24
  clear hb25 HB24
  go_wp2_with fail
  refine (HD2024x3x28.out _ (HM.out.below HB25.out)).mono ?_
  rintro e w26 ⟨rfl, hb26⟩
  have HB26 := hide (HB25.out.trans (hb26.mono HB25.out.size))
  have HC26 := hide (HC25.out.later hb26)
  clear HC25
  clear hb26 HB25
  go_wp2_with fail
  refine (HD2024x4x2.out _ (HM.out.below HB26.out)).mono ?_
  rintro e w27 ⟨rfl, hb27⟩
  have HB27 := hide (HB26.out.trans (hb27.mono HB26.out.size))
  have HC27 := hide (HC26.out.later hb27)
  clear HC26
  clear hb27 HB26
  go_wp2_with fail
  refine (Business_any p b tw _ 738978 _ HC27).mono ?_
  rintro e w28 ⟨rfl, hb28⟩
  rw [show busB tw (FL tw [738886, 738974, 738977, 739007, 739245, 739246]) 738978 = true by decide]
  have HB28 := hide (HB27.out.trans (hb28.mono HB27.out.size))
  have HC28 := hide (HC27.out.later hb28)
  clear HC27 hb28 HB27
  go_wp2_with fail
  refine (HD2024x4x1.out _ (HM.out.below HB28.out)).mono ?_
  rintro e w29 ⟨rfl, hb29⟩
  have HB29 := hide (HB28.out.trans (hb29.mono HB28.out.size))
  have HC29 := hide (HC28.out.later hb29)
  clear HC28
  clear hb29 HB28
  go_wp2_with fail
  refine (Business_any p b tw _ 738977 _ HC29).mono ?_
  rintro e w30 ⟨rfl, hb30⟩
  rw [show busB tw (FL tw [738886, 738974, 738977, 739007, 739245, 739246]) 738977 = false by decide]
  have HB30 := hide (HB29.out.trans (hb30.mono HB29.out.size))
  have HC30 := hide (HC29.out.later hb30)
  clear HC29 hb30 HB29
  go_wp2_with fail
  go_ret
  exact ⟨rfl, HB30.out⟩
end Go.Proofs.YtdfeehimnfogmaaGreatDoor
