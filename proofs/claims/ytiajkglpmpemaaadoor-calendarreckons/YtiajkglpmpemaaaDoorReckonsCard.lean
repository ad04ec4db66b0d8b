/-
  My own text: the law on Easter, months and parts of a year: its row, its card.
-/
import Derived.Test.YtiajkglpmpemaaaDoorRowD
import Derived.Test.YtiajkglpmpemaaaDoorD15
import Derived.SizedLaws
namespace Go.Proofs.YtiajkglpmpemaaaDoor
open Go.ChangeShapes Go.WideShapes Go.ChangeAt Go.RowKit

set_option maxRecDepth 100000 in
theorem calendarReckons_lifted (os : Os) (started : os.Started) (H : Type) (enc : TypeId × Value → H) :
    ReturnsInHanded {} Tryd.checked os 4 .any (fun w args => (Rows.calendarReckonsSpec.pre enc Tryd.prog Tryd.f4 [] false w args ∧ laidMetH Tryd.prog laidDE w) ∧ sizedMet enc Tryd.prog Tryd.f4 (OpenSpec.ofChange Rows.calendarReckonsSpec) false w args)
      (Rows.calendarReckonsSpec.post enc Tryd.prog Tryd.f4 false true false false) := by
  refine returnsInHanded_of_change_and (C := Tryd.checked) (X := fun w _ => laidMetH Tryd.prog laidDE w) (fun _ _ _ hh h => h.of_heap hh) Tryd.own started (by kernel_rfl) Tryd.func4
    (ChangeSpec.witness_shaped (enc := enc) (C := Tryd.checked) (os := os) (X := fun w _ => laidMetH Tryd.prog laidDE w) false (World.doorLaid Tryd.prog 400 os) #[.agg #[.int .i64 0, .int .i64 0, .int .i64 0, .int .i64 0, .int .i64 0]] 8 rfl (World.shaped_of_RefB (by kernel_rfl) (by kernel_rfl)) (by kernel_rfl) (by kernel_rfl) (by kernel_rfl) (door_metDE os _)) ?_
  intro W base args ds gs before hval0 hW _ hsz0 hL _
  have hsz : (DataW.weightsEach Tryd.prog (Tryd.f4.params.toList ++ Rows.calendarReckonsSpec.plain.varTypes Tryd.prog) (ds ++ gs)).all (· ≤ reachBytes) = true := hsz0
  clear hsz0
  have hval : ∀ (j : Nat) t v, Tryd.f4.params[j]? = some t → args[j]? = some v → Value.okWide Tryd.prog W .any base t v := hval0
  have hW' := hW
  obtain ⟨p, q, hA0, hV, rfl, hfz, hnd⟩ := hW
  have hA : DataW.TrodAll enc Tryd.prog W 0 (fun _ => true) true Tryd.f4.params.toList args.toList ds p := hA0
  rw [Tryd.params4] at hA hval hsz
  obtain ⟨v0, d0, rfl, rfl, h0⟩ := trodAll_one hA
  obtain ⟨rfl, rfl⟩ := trodVars_none hV
  obtain ⟨a, b, k, s, y, rfl, rfl, rfl, ha, hb, hk, hs, hy⟩ := open_rec5 Tryd.underlying43 Tryd.underlying3 rfl Tryd.cellsI Tryd.underlying3 rfl Tryd.cellsI Tryd.underlying3 rfl Tryd.cellsI Tryd.underlying3 rfl Tryd.cellsI Tryd.underlying3 rfl Tryd.cellsI Tryd.cellsReckon (hval 0 43 v0 rfl rfl) h0
  have hE := lies_of_laidDE hL
  clear hA0 hval0
  have e1 : Rows.calendarReckonsSpec.fn H ([.agg [.lit (.int .i64 a), .lit (.int .i64 b), .lit (.int .i64 k), .lit (.int .i64 s), .lit (.int .i64 y)]] ++ []) = { results := [.lit (.bool true)], args := [.agg [.lit (.int .i64 a), .lit (.int .i64 b), .lit (.int .i64 k), .lit (.int .i64 s), .lit (.int .i64 y)]] } := by simp [Rows.calendarReckonsSpec]
  refine (reckons_law a b k s y W hE).mono fun e W' ⟨he, hw⟩ => ?_
  subst he
  refine ⟨_, rfl, _, _, _, [], [], [], hW', ?_, ?_, ?_, hw.frame _, fun h => by cases h⟩
  · rw [e1]; exact trodAll_mk1 (shut_bool Tryd.underlying4 true)
  · rw [e1]; exact trodAll_mk1 (shut_rec5 Tryd.underlying43 Tryd.underlying3 rfl Tryd.cellsI Tryd.underlying3 rfl Tryd.cellsI Tryd.underlying3 rfl Tryd.cellsI Tryd.underlying3 rfl Tryd.cellsI Tryd.underlying3 rfl Tryd.cellsI Tryd.cellsReckon ha hb hk hs hy)
  · rw [e1]; rfl

theorem calendarReckons_holds : Rows.CalendarReckonsSaid :=
  OpenClaim.holds_of_wide 4 Tryd.f4 rfl rfl rfl rfl rfl rfl rfl ⟨rfl, rfl, rfl, rfl, rfl⟩ rfl rfl rfl rfl rfl (by kernel_rfl) Tryd.func4 (by kernel_rfl)
    (of_decide_eq_true (by kernel_rfl)) (by unfold Func.isWrapper; rw [if_neg (of_decide_eq_false (by kernel_rfl))]; exact ⟨rfl, rfl⟩)
    (fun os started H enc _ => calendarReckons_lifted os started H enc)

theorem calendarReckons_card : Rows.CalendarReckonsCardSaid :=
  Claim7.holds_tied_plain_at .later [] [.data, .handle] true (true, Rows.calendarReckonsCard.stood.harness.2) true
    calendarReckons_holds (fun _ h => by cases h) (by kernel_rfl) (fun _ h => by cases h) calendarReckons_row_tie rfl ⟨rfl, rfl⟩ (by kernel_rfl) rfl
    (fun f fn hf hfn => by
      obtain rfl : f = 4 := Option.some.inj ((show Tryd.prog.funcNamed Rows.calendarReckonsRow.func = some 4 by kernel_rfl).symm.trans hf) |>.symm
      obtain rfl : fn = Tryd.f4 := (Option.some.inj (Tryd.func4.symm.trans hfn)).symm
      exact ⟨by kernel_rfl, fun j t ht => by
        rw [Tryd.params4] at ht
        have hm : t ∈ [43] := by simpa using Array.mem_of_getElem? ht
        have hall : ([43].all fun u => !Tryd.prog.wantsStandIn u) = true := by kernel_rfl
        exact (show Tryd.prog.wantsStandIn t = false by simpa using List.all_eq_true.1 hall t hm)⟩)
    (by kernel_rfl)
#print axioms calendarReckons_card
end Go.Proofs.YtiajkglpmpemaaaDoor
