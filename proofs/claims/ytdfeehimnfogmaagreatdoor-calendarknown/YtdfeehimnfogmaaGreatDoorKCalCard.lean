/-
  My own text: the closed law on calendars: its walk, its row, its card.
-/
import Derived.Test.YtdfeehimnfogmaaGreatDoorRowD
import Derived.Test.YtdfeehimnfogmaaGreatDoorK8
import Derived.SizedLaws
namespace Go.Proofs.YtdfeehimnfogmaaGreatDoor
open Go.ChangeShapes Go.WideShapes Go.ChangeAt Go.RowKit

set_option maxRecDepth 100000 in
set_option maxHeartbeats 4000000 in
theorem calendar_known (w : World) (hL : Lies w) :
    Calls Tryz.prog 3 #[] w fun e w' => e = .returned (.bool true) ∧ Below w.heap.size w w' := by
  have HL := hide hL
  have hB0 := Below.refl w.heap.size w
  clear hL
  go_enter Tryz.func3, Tryz.ntmps3
  go_wp2_with fail
  refine (shown_known _ (HL.out.below hB0)).mono ?_
  rintro e v0 ⟨rfl, hb⟩
  have hB1 := below_on hB0 hb (Nat.le_refl _)
  clear hb
  go_wp2_with fail
  refine (dates_known _ (HL.out.below hB1)).mono ?_
  rintro e v1 ⟨rfl, hb⟩
  have hB2 := below_on hB1 hb (Nat.le_refl _)
  clear hb
  go_wp2_with fail
  refine (easters_known _ (HL.out.below hB2)).mono ?_
  rintro e v2 ⟨rfl, hb⟩
  have hB3 := below_on hB2 hb (Nat.le_refl _)
  clear hb
  go_wp2_with fail
  refine (reckoned_known _ (HL.out.below hB3)).mono ?_
  rintro e v3 ⟨rfl, hb⟩
  have hB4 := below_on hB3 hb (Nat.le_refl _)
  clear hb
  go_wp2_with fail
  refine (kept_known _ (HL.out.below hB4)).mono ?_
  rintro e v4 ⟨rfl, hb⟩
  have hB5 := below_on hB4 hb (Nat.le_refl _)
  clear hb
  go_wp2_with fail
  refine (year_known _ (HL.out.below hB5)).mono ?_
  rintro e v5 ⟨rfl, hb⟩
  have hB6 := below_on hB5 hb (Nat.le_refl _)
  clear hb
  go_wp2_with fail
  refine (targets_known _ (HL.out.below hB6)).mono ?_
  rintro e v6 ⟨rfl, hb⟩
  have hB7 := below_on hB6 hb (Nat.le_refl _)
  clear hb
  go_wp2_with fail
  go_ret
  exact ⟨rfl, hB7⟩
set_option maxRecDepth 100000 in
theorem calendarKnown_lifted (os : Os) (started : os.Started) (H : Type) (enc : TypeId × Value → H) :
    ReturnsInHanded {} Tryz.checked os 3 .any (fun w args => (Rows.calendarKnownSpec.pre enc Tryz.prog Tryz.f3 [] false w args ∧ laidMetH Tryz.prog laidDE w) ∧ sizedMet enc Tryz.prog Tryz.f3 (OpenSpec.ofChange Rows.calendarKnownSpec) false w args)
      (Rows.calendarKnownSpec.post enc Tryz.prog Tryz.f3 false true false false) := by
  refine returnsInHanded_of_change_and (C := Tryz.checked) (X := fun w _ => laidMetH Tryz.prog laidDE w) (fun _ _ _ hh h => h.of_heap hh) Tryz.own started (by kernel_rfl) Tryz.func3
    (ChangeSpec.witness_shaped (enc := enc) (C := Tryz.checked) (os := os) (X := fun w _ => laidMetH Tryz.prog laidDE w) false (World.doorLaid Tryz.prog 400 os) #[] 8 rfl (World.shaped_of_RefB (by kernel_rfl) (by kernel_rfl)) (by kernel_rfl) (by kernel_rfl) (by kernel_rfl) (door_metDE os _)) ?_
  intro W base args ds gs before hval0 hW _ hsz0 hL _
  have hsz : (DataW.weightsEach Tryz.prog (Tryz.f3.params.toList ++ Rows.calendarKnownSpec.plain.varTypes Tryz.prog) (ds ++ gs)).all (· ≤ reachBytes) = true := hsz0
  clear hsz0
  have hval : ∀ (j : Nat) t v, Tryz.f3.params[j]? = some t → args[j]? = some v → Value.okWide Tryz.prog W .any base t v := hval0
  have hW' := hW
  obtain ⟨p, q, hA0, hV, rfl, hfz, hnd⟩ := hW
  have hA : DataW.TrodAll enc Tryz.prog W 0 (fun _ => true) true Tryz.f3.params.toList args.toList ds p := hA0
  rw [Tryz.params3] at hA hval hsz
  obtain ⟨rfl, rfl, rfl⟩ := trodAll_none hA
  obtain ⟨rfl, rfl⟩ := trodVars_none hV

  have hE := lies_of_laidDE hL
  clear hA0 hval0
  have e1 : Rows.calendarKnownSpec.fn H ([] ++ []) = { results := [.lit (.bool true)], args := [] } := by simp [Rows.calendarKnownSpec]
  refine (calendar_known W hE).mono fun e W' ⟨he, hw⟩ => ?_
  subst he
  refine ⟨_, rfl, _, _, _, [], [], [], hW', ?_, ?_, ?_, hw.frame _, fun h => by cases h⟩
  · rw [e1]; exact trodAll_mk1 (shut_bool Tryz.underlying4 true)
  · rw [e1]; exact trodAll_mk0 
  · rw [e1]; rfl

theorem calendarKnown_holds : Rows.CalendarKnownSaid :=
  OpenClaim.holds_of_wide 3 Tryz.f3 rfl rfl rfl rfl rfl rfl rfl ⟨rfl, rfl, rfl, rfl, rfl⟩ rfl rfl rfl rfl rfl (by kernel_rfl) Tryz.func3 (by kernel_rfl)
    (of_decide_eq_true (by kernel_rfl)) (by unfold Func.isWrapper; rw [if_neg (of_decide_eq_false (by kernel_rfl))]; exact ⟨rfl, rfl⟩)
    (fun os started H enc _ => calendarKnown_lifted os started H enc)

theorem calendarKnown_card : Rows.CalendarKnownCardSaid :=
  Claim7.holds_tied_plain_at .later [] [.data, .handle] true (true, Rows.calendarKnownCard.stood.harness.2) true
    calendarKnown_holds (fun _ h => by cases h) (by kernel_rfl) (fun _ h => by cases h) calendarKnown_row_tie rfl ⟨rfl, rfl⟩ (by kernel_rfl) rfl
    (fun f fn hf hfn => by
      obtain rfl : f = 3 := Option.some.inj ((show Tryz.prog.funcNamed Rows.calendarKnownRow.func = some 3 by kernel_rfl).symm.trans hf) |>.symm
      obtain rfl : fn = Tryz.f3 := (Option.some.inj (Tryz.func3.symm.trans hfn)).symm
      exact ⟨by kernel_rfl, fun j t ht => by
        rw [Tryz.params3] at ht
        have hm : t ∈ [] := by simpa using Array.mem_of_getElem? ht
        have hall : ([].all fun u => !Tryz.prog.wantsStandIn u) = true := by kernel_rfl
        exact (show Tryz.prog.wantsStandIn t = false by simpa using List.all_eq_true.1 hall t hm)⟩)
    (by kernel_rfl)
#print axioms calendarKnown_card
end Go.Proofs.YtdfeehimnfogmaaGreatDoor
