/-
  My own text: the law on slips in identifiers: its row, its card.
-/
import Derived.Test.YtkpmmcekcpbilabDoorRow
import Derived.Test.YtkpmmcekcpbilabDoorC13
import Derived.SizedLaws
import Derived.ShutString
namespace Go.Proofs.YtkpmmcekcpbilabDoor
open Go.ChangeShapes Go.WideShapes Go.ChangeAt Go.RowKit
open Go.ChangeMaps (open_string shut_string)

set_option maxRecDepth 100000 in
theorem codesMod97_lifted (os : Os) (started : os.Started) (H : Type) (enc : TypeId × Value → H) :
    ReturnsInHanded {} Tryd.checked os 4 .any (fun w args => (Rows.codesMod97Spec.pre enc Tryd.prog Tryd.f4 [] false w args ∧ laidMetH Tryd.prog laidE w) ∧ sizedMet enc Tryd.prog Tryd.f4 (OpenSpec.ofChange Rows.codesMod97Spec) false w args)
      (Rows.codesMod97Spec.post enc Tryd.prog Tryd.f4 false true false false) := by
  refine returnsInHanded_of_change_and (C := Tryd.checked) (X := fun w _ => laidMetH Tryd.prog laidE w) (fun _ _ _ hh h => h.of_heap hh) Tryd.own started (by kernel_rfl) Tryd.func4
    (ChangeSpec.witness_shaped (enc := enc) (C := Tryd.checked) (os := os) (X := fun w _ => laidMetH Tryd.prog laidE w) false (World.doorLaid Tryd.prog 400 os) #[.string ⟨#[]⟩, .int .i64 0, .int .u8 0] 8 rfl (World.shaped_of_RefB (by kernel_rfl) (by kernel_rfl)) (by kernel_rfl) (by kernel_rfl) (by kernel_rfl) (door_met os _)) ?_
  intro W base args ds gs before hval0 hW _ hsz0 hL _
  have hsz : (DataW.weightsEach Tryd.prog (Tryd.f4.params.toList ++ Rows.codesMod97Spec.plain.varTypes Tryd.prog) (ds ++ gs)).all (· ≤ reachBytes) = true := hsz0
  clear hsz0
  have hval : ∀ (j : Nat) t v, Tryd.f4.params[j]? = some t → args[j]? = some v → Value.okWide Tryd.prog W .any base t v := hval0
  have hW' := hW
  obtain ⟨p, q, hA0, hV, rfl, hfz, hnd⟩ := hW
  have hA : DataW.TrodAll enc Tryd.prog W 0 (fun _ => true) true Tryd.f4.params.toList args.toList ds p := hA0
  rw [Tryd.params4] at hA hval hsz
  obtain ⟨v0, v1, v2, d0, d1, d2, p0, p1, p2, rfl, rfl, rfl, h0, h1, h2⟩ := trodAll_three hA
  obtain ⟨rfl, rfl⟩ := trodVars_none hV
  obtain ⟨ls, rfl, rfl, rfl, hl⟩ := open_string Tryd.underlying9 (hval 0 9 v0 rfl rfl) h0
  have hlenl := sized_string hsz (j := 0) (t := 9) (bytes := ls.data.toList) rfl rfl
  obtain ⟨⟨l⟩⟩ := ls
  have ll : l.length ≤ 140737488355320 := by
    have : l.length ≤ reachBytes := hlenl
    unfold reachBytes at this; omega
  obtain ⟨a, rfl, rfl, rfl, ha⟩ := open_int Tryd.underlying3 (hval 1 3 v1 rfl rfl) h1
  obtain ⟨c, rfl, rfl, rfl, hc⟩ := open_int Tryd.underlying5 (hval 2 5 v2 rfl rfl) h2
  have hE := errType_of_laid hL
  clear hA0 hval0
  have e1 : Rows.codesMod97Spec.fn H ([.lit (.string (ByteArray.mk (Array.mk l)).data.toList), .lit (.int .i64 a), .lit (.int .u8 c)] ++ []) = { results := [.lit (.bool true)], args := [.lit (.string (ByteArray.mk (Array.mk l)).data.toList), .lit (.int .i64 a), .lit (.int .u8 c)] } := by simp [Rows.codesMod97Spec]
  refine (mod97_law l a c W hE (by omega) (bounds_u8 hc).1 (bounds_u8 hc).2).mono fun e W' ⟨he, hw⟩ => ?_
  subst he
  refine ⟨_, rfl, _, _, _, [], [], [], hW', ?_, ?_, ?_, hw.frame _, fun h => by cases h⟩
  · rw [e1]; exact trodAll_mk1 (shut_bool Tryd.underlying4 true)
  · rw [e1]; exact trodAll_mk3 (shut_string Tryd.underlying9 hl) (shut_int Tryd.underlying3 ha) (shut_int Tryd.underlying5 hc)
  · rw [e1]; rfl

theorem codesMod97_holds : Rows.CodesMod97Said :=
  OpenClaim.holds_of_wide 4 Tryd.f4 rfl rfl rfl rfl rfl rfl rfl ⟨rfl, rfl, rfl, rfl, rfl⟩ rfl rfl rfl rfl rfl (by kernel_rfl) Tryd.func4 (by kernel_rfl)
    (of_decide_eq_true (by kernel_rfl)) (by unfold Func.isWrapper; rw [if_neg (of_decide_eq_false (by kernel_rfl))]; exact ⟨rfl, rfl⟩)
    (fun os started H enc _ => codesMod97_lifted os started H enc)

theorem codesMod97_card : Rows.CodesMod97CardSaid :=
  Claim7.holds_tied_plain_at .later [] [.handle] true (true, Rows.codesMod97Card.stood.harness.2) true
    codesMod97_holds (fun _ h => by cases h) (by kernel_rfl) (fun _ h => by cases h) codesMod97_row_tie rfl ⟨rfl, rfl⟩ (by kernel_rfl) rfl
    (fun f fn hf hfn => by
      obtain rfl : f = 4 := Option.some.inj ((show Tryd.prog.funcNamed Rows.codesMod97Row.func = some 4 by kernel_rfl).symm.trans hf) |>.symm
      obtain rfl : fn = Tryd.f4 := (Option.some.inj (Tryd.func4.symm.trans hfn)).symm
      exact ⟨by kernel_rfl, fun j t ht => by
        rw [Tryd.params4] at ht
        have hm : t ∈ [9, 3, 5] := by simpa using Array.mem_of_getElem? ht
        have hall : ([9, 3, 5].all fun u => !Tryd.prog.wantsStandIn u) = true := by kernel_rfl
        exact (show Tryd.prog.wantsStandIn t = false by simpa using List.all_eq_true.1 hall t hm)⟩)
    (by kernel_rfl)
#print axioms codesMod97_card
end Go.Proofs.YtkpmmcekcpbilabDoor
