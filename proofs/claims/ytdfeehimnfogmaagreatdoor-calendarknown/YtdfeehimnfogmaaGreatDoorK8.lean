/-
  My own text: the chapter's examples of calendars: the walk.
-/
import Derived.Test.YtdfeehimnfogmaaGreatDoorK7
namespace Go.Proofs.YtdfeehimnfogmaaGreatDoor
open Go.RowKit

set_option maxRecDepth 100000 in
set_option maxHeartbeats 4000000 in
theorem shown_known (w : World) (hL : Lies w) :
    Calls Tryz.prog 4 #[] w fun e w' => e = .returned (.bool true) ∧ Below w.heap.size w w' := by
  have HL := hide hL
  have hB0 := Below.refl w.heap.size w
  clear hL
  go_enter Tryz.func4, Tryz.ntmps4
  go_wp2_with fail
  refine (lawDay_any 1 1 1 1 _ (HL.out.below hB0) (by decide)).mono ?_
  rintro e v0 ⟨rfl, hb⟩
  have hB1 := below_on hB0 hb (Nat.le_refl _)
  clear hb
  go_wp2_with fail
  refine (lawDay_any 1 12 31 365 _ (HL.out.below hB1) (by decide)).mono ?_
  rintro e v1 ⟨rfl, hb⟩
  have hB2 := below_on hB1 hb (Nat.le_refl _)
  clear hb
  go_wp2_with fail
  refine (lawDay_any 2000 2 29 730179 _ (HL.out.below hB2) (by decide)).mono ?_
  rintro e v2 ⟨rfl, hb⟩
  have hB3 := below_on hB2 hb (Nat.le_refl _)
  clear hb
  go_wp2_with fail
  refine (lawDay_any 9999 12 31 3652059 _ (HL.out.below hB3) (by decide)).mono ?_
  rintro e v3 ⟨rfl, hb⟩
  have hB4 := below_on hB3 hb (Nat.le_refl _)
  clear hb
  go_wp2_with fail
  refine (of21 _ (HL.out.below hB4)).mono ?_
  rintro e v4 ⟨rfl, hb⟩
  have hB5 := below_on hB4 hb (Nat.le_refl _)
  clear hb
  go_wp2_with fail
  have hnq := Tryz.neqDate 2023 1 1
  have hB6 := below_new hB5 (Nat.le_refl _) (.cells #[.int .i64 2023, .int .i64 1, .int .i64 1] 25)
  refine (weekday21 _).mono ?_
  rintro e v ⟨rfl, hv⟩
  subst hv
  go_wp2_with fail
  clear hnq
  refine (lawDay_any 2021 1 3 737793 _ (HL.out.below hB6) (by decide)).mono ?_
  rintro e v6 ⟨rfl, hb⟩
  have hB7 := below_on hB6 hb (Nat.le_refl _)
  clear hb
  go_wp2_with fail
  refine (week21 _ (HL.out.below hB7)).mono ?_
  rintro e v7 ⟨rfl, hb⟩
  have hB8 := below_on hB7 hb (Nat.le_refl _)
  clear hb
  go_wp2_with fail
  refine (easter24 _ (HL.out.below hB8)).mono ?_
  rintro e v8 ⟨rfl, hb⟩
  have hB9 := below_on hB8 hb (Nat.le_refl _)
  clear hb
  go_wp2_with fail
  refine (lawDay_any 2024 3 31 738976 _ (HL.out.below hB9) (by decide)).mono ?_
  rintro e v9 ⟨rfl, hb⟩
  have hB10 := below_on hB9 hb (Nat.le_refl _)
  clear hb
  go_wp2_with fail
  refine (lawDay_any 2024 1 31 738916 _ (HL.out.below hB10) (by decide)).mono ?_
  rintro e v10 ⟨rfl, hb⟩
  have hB11 := below_on hB10 hb (Nat.le_refl _)
  clear hb
  go_wp2_with fail
  refine (months24 _ (HL.out.below hB11)).mono ?_
  rintro e v11 ⟨rfl, hb⟩
  have hB12 := below_on hB11 hb (Nat.le_refl _)
  clear hb
  go_wp2_with fail
  refine (lawDay_any 2024 1 15 738900 _ (HL.out.below hB12) (by decide)).mono ?_
  rintro e v12 ⟨rfl, hb⟩
  have hB13 := below_on hB12 hb (Nat.le_refl _)
  clear hb
  go_wp2_with fail
  refine (lawDay_any 2024 3 31 738976 _ (HL.out.below hB13) (by decide)).mono ?_
  rintro e v13 ⟨rfl, hb⟩
  have hB14 := below_on hB13 hb (Nat.le_refl _)
  clear hb
  go_wp2_with fail
  refine (fraction24 _ (HL.out.below hB14)).mono ?_
  rintro e v14 ⟨rfl, hb⟩
  have hB15 := below_on hB14 hb (Nat.le_refl _)
  clear hb
  go_wp2_with fail
  refine (lawDay_any 2024 2 29 738945 _ (HL.out.below hB15) (by decide)).mono ?_
  rintro e v15 ⟨rfl, hb⟩
  have hB16 := below_on hB15 hb (Nat.le_refl _)
  clear hb
  go_wp2_with fail
  refine (target24 _ (HL.out.below hB16)).mono ?_
  rintro e vt ⟨⟨p, b, rfl, hcal⟩, hb⟩
  have hB17 := below_on hB16 hb (Nat.le_refl _)
  have hC0 := Below.refl vt.heap.size vt
  clear hb
  go_wp2_with fail
  refine (lawDay_any 2024 3 28 738973 _ (HL.out.below hB17) (by decide)).mono ?_
  rintro e v17 ⟨rfl, hb⟩
  have hB18 := below_on hB17 hb (Nat.le_refl _)
  have hC1 := below_on hC0 hb (Nat.le_refl _)
  clear hb
  go_wp2_with fail
  refine (addIs24 p b _ (hide (hcal.later hC1))).mono ?_
  rintro e v18 ⟨rfl, hb⟩
  have hB19 := below_on hB18 hb (Nat.le_refl _)
  have hC2 := below_on hC1 hb (Nat.le_refl _)
  clear hb
  go_wp2_with fail
  refine (lawDay_any 2024 3 31 738976 _ (HL.out.below hB19) (by decide)).mono ?_
  rintro e v19 ⟨rfl, hb⟩
  have hB20 := below_on hB19 hb (Nat.le_refl _)
  have hC3 := below_on hC2 hb (Nat.le_refl _)
  clear hb
  go_wp2_with fail
  refine (adjust24 p b _ (HL.out.below hB20) (hide (hcal.later hC3))).mono ?_
  rintro e v20 ⟨rfl, hb⟩
  have hB21 := below_on hB20 hb (Nat.le_refl _)
  have hC4 := below_on hC3 hb (Nat.le_refl _)
  clear hb
  go_wp2_with fail
  refine (lawDay_any 2024 3 25 738970 _ (HL.out.below hB21) (by decide)).mono ?_
  rintro e v21 ⟨rfl, hb⟩
  have hB22 := below_on hB21 hb (Nat.le_refl _)
  have hC5 := below_on hC4 hb (Nat.le_refl _)
  clear hb
  go_wp2_with fail
  refine (lawDay_any 2024 4 8 738984 _ (HL.out.below hB22) (by decide)).mono ?_
  rintro e v22 ⟨rfl, hb⟩
  have hB23 := below_on hB22 hb (Nat.le_refl _)
  have hC6 := below_on hC5 hb (Nat.le_refl _)
  clear hb
  go_wp2_with fail
  refine (count24 p b _ (hide (hcal.later hC6))).mono ?_
  rintro e v23 ⟨rfl, hb⟩
  have hB24 := below_on hB23 hb (Nat.le_refl _)
  have hC7 := below_on hC6 hb (Nat.le_refl _)
  clear hb
  go_wp2_with fail
  refine (lawDay_any 2024 4 2 738978 _ (HL.out.below hB24) (by decide)).mono ?_
  rintro e v24 ⟨rfl, hb⟩
  have hB25 := below_on hB24 hb (Nat.le_refl _)
  have hC8 := below_on hC7 hb (Nat.le_refl _)
  clear hb
  go_wp2_with fail
  refine (lawDay_any 2024 3 28 738973 _ (HL.out.below hB25) (by decide)).mono ?_
  rintro e v25 ⟨rfl, hb⟩
  have hB26 := below_on hB25 hb (Nat.le_refl _)
  have hC9 := below_on hC8 hb (Nat.le_refl _)
  clear hb
  go_wp2_with fail
  refine (lawDay_any 2024 4 2 738978 _ (HL.out.below hB26) (by decide)).mono ?_
  rintro e v26 ⟨rfl, hb⟩
  have hB27 := below_on hB26 hb (Nat.le_refl _)
  have hC10 := below_on hC9 hb (Nat.le_refl _)
  clear hb
  go_wp2_with fail
  refine (business24 p b _ (hide (hcal.later hC10))).mono ?_
  rintro e v27 ⟨rfl, hb⟩
  have hB28 := below_on hB27 hb (Nat.le_refl _)
  have hC11 := below_on hC10 hb (Nat.le_refl _)
  clear hb
  go_wp2_with fail
  refine (lawDay_any 2024 4 1 738977 _ (HL.out.below hB28) (by decide)).mono ?_
  rintro e v28 ⟨rfl, hb⟩
  have hB29 := below_on hB28 hb (Nat.le_refl _)
  have hC12 := below_on hC11 hb (Nat.le_refl _)
  clear hb
  go_wp2_with fail
  refine (business24n p b _ (hide (hcal.later hC12))).mono ?_
  rintro e v29 ⟨rfl, hb⟩
  have hB30 := below_on hB29 hb (Nat.le_refl _)
  have hC13 := below_on hC12 hb (Nat.le_refl _)
  clear hb
  go_wp2_with fail
  go_ret
  exact ⟨rfl, hB30⟩
end Go.Proofs.YtdfeehimnfogmaaGreatDoor
