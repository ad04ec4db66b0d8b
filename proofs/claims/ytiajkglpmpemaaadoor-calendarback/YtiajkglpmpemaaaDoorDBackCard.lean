/-
  My own text: the law on there and back: its row, its card.
-/
import Derived.Test.YtiajkglpmpemaaaDoorRowD
import Derived.Test.YtiajkglpmpemaaaDoorB4
import Derived.SizedLaws
namespace Go.Proofs.YtiajkglpmpemaaaDoor
open Go.ChangeShapes Go.WideShapes Go.ChangeAt Go.RowKit

set_option maxRecDepth 100000 in
theorem calendarBack_lifted (os : Os) (started : os.Started) (H : Type) (enc : TypeId × Value → H) :
    ReturnsInHanded {} Tryd.checked os 7 .any (fun w args => (Rows.calendarBackSpec.pre enc Tryd.prog Tryd.f7 [] false w args ∧ laidMetH Tryd.prog laidD w) ∧ sizedMet enc Tryd.prog Tryd.f7 (OpenSpec.ofChange Rows.calendarBackSpec) false w args)
      (Rows.calendarBackSpec.post enc Tryd.prog Tryd.f7 false true false false) := by
  refine returnsInHanded_of_change_and (C := Tryd.checked) (X := fun w _ => laidMetH Tryd.prog laidD w) (fun _ _ _ hh h => h.of_heap hh) Tryd.own started (by kernel_rfl) Tryd.func7
    (ChangeSpec.witness_shaped (enc := enc) (C := Tryd.checked) (os := os) (X := fun w _ => laidMetH Tryd.prog laidD w) false (World.doorLaid Tryd.prog 400 os) #[.agg #[.int .i64 0, .int .i64 0, .int .i64 0], .agg #[.int .i64 0, .int .i64 0, .int .i64 0], .int .i64 0] 8 rfl (World.shaped_of_RefB (by kernel_rfl) (by kernel_rfl)) (by kernel_rfl) (by kernel_rfl) (by kernel_rfl) (door_metD os _)) ?_
  intro W base args ds gs before hval0 hW _ hsz0 hL _
  have hsz : (DataW.weightsEach Tryd.prog (Tryd.f7.params.toList ++ Rows.calendarBackSpec.plain.varTypes Tryd.prog) (ds ++ gs)).all (· ≤ reachBytes) = true := hsz0
  clear hsz0
  have hval : ∀ (j : Nat) t v, Tryd.f7.params[j]? = some t → args[j]? = some v → Value.okWide Tryd.prog W .any base t v := hval0
  have hW' := hW
  obtain ⟨p, q, hA0, hV, rfl, hfz, hnd⟩ := hW
  have hA : DataW.TrodAll enc Tryd.prog W 0 (fun _ => true) true Tryd.f7.params.toList args.toList ds p := hA0
  rw [Tryd.params7] at hA hval hsz
  obtain ⟨v0, v1, v2, d0, d1, d2, p0, p1, p2, rfl, rfl, rfl, h0, h1, h2⟩ := trodAll_three hA
  obtain ⟨rfl, rfl⟩ := trodVars_none hV
  obtain ⟨y, m, d, rfl, rfl, rfl, hy, hm, hd⟩ := open_rec3 Tryd.underlying23 Tryd.underlying3 rfl Tryd.cellsI Tryd.underlying3 rfl Tryd.cellsI Tryd.underlying3 rfl Tryd.cellsI Tryd.cellsDate (hval 0 23 v0 rfl rfl) h0
  obtain ⟨yb, mb, db, rfl, rfl, rfl, hyb, hmb, hdb⟩ := open_rec3 Tryd.underlying23 Tryd.underlying3 rfl Tryd.cellsI Tryd.underlying3 rfl Tryd.cellsI Tryd.underlying3 rfl Tryd.cellsI Tryd.cellsDate (hval 1 23 v1 rfl rfl) h1
  obtain ⟨n, rfl, rfl, rfl, hn⟩ := open_int Tryd.underlying3 (hval 2 3 v2 rfl rfl) h2
  have hE := months_of_laidD hL
  clear hA0 hval0
  have e1 : Rows.calendarBackSpec.fn H ([.agg [.lit (.int .i64 y), .lit (.int .i64 m), .lit (.int .i64 d)], .agg [.lit (.int .i64 yb), .lit (.int .i64 mb), .lit (.int .i64 db)], .lit (.int .i64 n)] ++ []) = { results := [.lit (.bool true)], args := [.agg [.lit (.int .i64 y), .lit (.int .i64 m), .lit (.int .i64 d)], .agg [.lit (.int .i64 yb), .lit (.int .i64 mb), .lit (.int .i64 db)], .lit (.int .i64 n)] } := by simp [Rows.calendarBackSpec]
  refine (back_law y m d yb mb db n W hE).mono fun e W' ⟨he, hw⟩ => ?_
  subst he
  refine ⟨_, rfl, _, _, _, [], [], [], hW', ?_, ?_, ?_, hw.frame _, fun h => by cases h⟩
  · rw [e1]; exact trodAll_mk1 (shut_bool Tryd.underlying4 true)
  · rw [e1]; exact trodAll_mk3 (shut_rec3 Tryd.underlying23 Tryd.underlying3 rfl Tryd.cellsI Tryd.underlying3 rfl Tryd.cellsI Tryd.underlying3 rfl Tryd.cellsI Tryd.cellsDate hy hm hd) (shut_rec3 Tryd.underlying23 Tryd.underlying3 rfl Tryd.cellsI Tryd.underlying3 rfl Tryd.cellsI Tryd.underlying3 rfl Tryd.cellsI Tryd.cellsDate hyb hmb hdb) (shut_int Tryd.underlying3 hn)
  · rw [e1]; rfl

theorem calendarBack_holds : Rows.CalendarBackSaid :=
  OpenClaim.holds_of_wide 7 Tryd.f7 rfl rfl rfl rfl rfl rfl rfl ⟨rfl, rfl, rfl, rfl, rfl⟩ rfl rfl rfl rfl rfl (by kernel_rfl) Tryd.func7 (by kernel_rfl)
    (of_decide_eq_true (by kernel_rfl)) (by unfold Func.isWrapper; rw [if_neg (of_decide_eq_false (by kernel_rfl))]; exact ⟨rfl, rfl⟩)
    (fun os started H enc _ => calendarBack_lifted os started H enc)

theorem calendarBack_card : Rows.CalendarBackCardSaid :=
  Claim7.holds_tied_plain_at .later [] [.data] true (true, Rows.calendarBackCard.stood.harness.2) true
    calendarBack_holds (fun _ h => by cases h) (by kernel_rfl) (fun _ h => by cases h) calendarBack_row_tie rfl ⟨rfl, rfl⟩ (by kernel_rfl) rfl
    (fun f fn hf hfn => by
      obtain rfl : f = 7 := Option.some.inj ((show Tryd.prog.funcNamed Rows.calendarBackRow.func = some 7 by kernel_rfl).symm.trans hf) |>.symm
      obtain rfl : fn = Tryd.f7 := (Option.some.inj (Tryd.func7.symm.trans hfn)).symm
      exact ⟨by kernel_rfl, fun j t ht => by
        rw [Tryd.params7] at ht
        have hm : t ∈ [23, 23, 3] := by simpa using Array.mem_of_getElem? ht
        have hall : ([23, 23, 3].all fun u => !Tryd.prog.wantsStandIn u) = true := by kernel_rfl
        exact (show Tryd.prog.wantsStandIn t = false by simpa using List.all_eq_true.1 hall t hm)⟩)
    (by kernel_rfl)
#print axioms calendarBack_card
end Go.Proofs.YtiajkglpmpemaaaDoor
