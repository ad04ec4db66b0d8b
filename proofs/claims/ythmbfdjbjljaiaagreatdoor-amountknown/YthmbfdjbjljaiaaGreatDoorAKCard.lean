/-
  My own text: the closed law on amounts: its walk, its row, its card.
-/
import Derived.Test.YthmbfdjbjljaiaaGreatDoorAK6
import Derived.Test.YthmbfdjbjljaiaaGreatDoorRow
import Derived.SizedLaws
import Derived.Stop.LaidErr
namespace Go.Proofs.YthmbfdjbjljaiaaGreatDoor
open Go.ChangeShapes Go.WideShapes Go.ChangeAt Go.RowKit

set_option maxRecDepth 100000 in
set_option maxHeartbeats 4000000 in
theorem amount_known (w : World) (hE : ErrType w) (hP : Pow w) :
    Calls Tryz.prog 3 #[] w fun e w' => e = .returned (.bool true) ∧ Below w.heap.size w w' := by
  have HE := hide hE
  have HP := hide hP
  have hB0 := Below.refl w.heap.size w
  clear hE hP
  go_enter Tryz.func3, Tryz.ntmps3
  go_wp2_with fail
  refine (sums_known _ (HE.out.below hB0)).mono ?_
  rintro e v0 ⟨rfl, hb⟩
  have hB1 := below_on hB0 hb (Nat.le_refl _)
  clear hb
  go_wp2_with fail
  refine (products_known _ (HE.out.below hB1)).mono ?_
  rintro e v1 ⟨rfl, hb⟩
  have hB2 := below_on hB1 hb (Nat.le_refl _)
  clear hb
  go_wp2_with fail
  refine (parts_known _ (HE.out.below hB2)).mono ?_
  rintro e v2 ⟨rfl, hb⟩
  have hB3 := below_on hB2 hb (Nat.le_refl _)
  clear hb
  go_wp2_with fail
  refine (texts_known _ (HE.out.below hB3) (HP.out.later hB3)).mono ?_
  rintro e v3 ⟨rfl, hb⟩
  have hB4 := below_on hB3 hb (Nat.le_refl _)
  clear hb
  go_wp2_with fail
  go_ret
  exact ⟨rfl, hB4⟩
set_option maxRecDepth 100000 in
theorem amountKnown_lifted (os : Os) (started : os.Started) (H : Type) (enc : TypeId × Value → H) :
    ReturnsInHanded {} Tryz.checked os 3 .any (fun w args => (Rows.amountKnownSpec.pre enc Tryz.prog Tryz.f3 [] false w args ∧ laidMetH Tryz.prog laid4 w) ∧ sizedMet enc Tryz.prog Tryz.f3 (OpenSpec.ofChange Rows.amountKnownSpec) false w args)
      (Rows.amountKnownSpec.post enc Tryz.prog Tryz.f3 false true false false) := by
  refine returnsInHanded_of_change_and (C := Tryz.checked) (X := fun w _ => laidMetH Tryz.prog laid4 w) (fun _ _ _ hh h => h.of_heap hh) Tryz.own started (by kernel_rfl) Tryz.func3
    (ChangeSpec.witness_shaped (enc := enc) (C := Tryz.checked) (os := os) (X := fun w _ => laidMetH Tryz.prog laid4 w) false (World.doorLaid Tryz.prog 400 os) #[] 8 rfl (World.shaped_of_RefB (by kernel_rfl) (by kernel_rfl)) (by kernel_rfl) (by kernel_rfl) (by kernel_rfl) (door_met4 os _)) ?_
  intro W base args ds gs before hval0 hW _ hsz0 hL _
  have hsz : (DataW.weightsEach Tryz.prog (Tryz.f3.params.toList ++ Rows.amountKnownSpec.plain.varTypes Tryz.prog) (ds ++ gs)).all (· ≤ reachBytes) = true := hsz0
  clear hsz0
  have hval : ∀ (j : Nat) t v, Tryz.f3.params[j]? = some t → args[j]? = some v → Value.okWide Tryz.prog W .any base t v := hval0
  have hW' := hW
  obtain ⟨p, q, hA0, hV, rfl, hfz, hnd⟩ := hW
  have hA : DataW.TrodAll enc Tryz.prog W 0 (fun _ => true) true Tryz.f3.params.toList args.toList ds p := hA0
  rw [Tryz.params3] at hA hval hsz
  obtain ⟨rfl, rfl, rfl⟩ := trodAll_none hA
  obtain ⟨rfl, rfl⟩ := trodVars_none hV

  have hE := errType_of_laid4 hL
  clear hA0 hval0
  have e1 : Rows.amountKnownSpec.fn H ([] ++ []) = { results := [.lit (.bool true)], args := [] } := by simp [Rows.amountKnownSpec]
  refine (amount_known W hE (pow_of_laid4 hL)).mono fun e W' ⟨he, hw⟩ => ?_
  subst he
  refine ⟨_, rfl, _, _, _, [], [], [], hW', ?_, ?_, ?_, hw.frame _, fun h => by cases h⟩
  · rw [e1]; exact trodAll_mk1 (shut_bool Tryz.underlying4 true)
  · rw [e1]; exact trodAll_mk0 
  · rw [e1]; rfl

theorem amountKnown_holds : Rows.AmountKnownSaid :=
  OpenClaim.holds_of_wide 3 Tryz.f3 rfl rfl rfl rfl rfl rfl rfl ⟨rfl, rfl, rfl, rfl, rfl⟩ rfl rfl rfl rfl rfl (by kernel_rfl) Tryz.func3 (by kernel_rfl)
    (of_decide_eq_true (by kernel_rfl)) (by unfold Func.isWrapper; rw [if_neg (of_decide_eq_false (by kernel_rfl))]; exact ⟨rfl, rfl⟩)
    (fun os started H enc _ => amountKnown_lifted os started H enc)

theorem amountKnown_card : Rows.AmountKnownCardSaid :=
  Claim7.holds_tied_plain_at .later [] [.data, .data, .data, .handle] true (true, Rows.amountKnownCard.stood.harness.2) true
    amountKnown_holds (fun _ h => by cases h) (by kernel_rfl) (fun _ h => by cases h) amountKnown_row_tie rfl ⟨rfl, rfl⟩ (by kernel_rfl) rfl
    (fun f fn hf hfn => by
      obtain rfl : f = 3 := Option.some.inj ((show Tryz.prog.funcNamed Rows.amountKnownRow.func = some 3 by kernel_rfl).symm.trans hf) |>.symm
      obtain rfl : fn = Tryz.f3 := (Option.some.inj (Tryz.func3.symm.trans hfn)).symm
      exact ⟨by kernel_rfl, fun j t ht => by
        rw [Tryz.params3] at ht
        have hm : t ∈ [] := by simpa using Array.mem_of_getElem? ht
        have hall : ([].all fun u => !Tryz.prog.wantsStandIn u) = true := by kernel_rfl
        exact (show Tryz.prog.wantsStandIn t = false by simpa using List.all_eq_true.1 hall t hm)⟩)
    (by kernel_rfl)
#print axioms amountKnown_card
end Go.Proofs.YthmbfdjbjljaiaaGreatDoor
