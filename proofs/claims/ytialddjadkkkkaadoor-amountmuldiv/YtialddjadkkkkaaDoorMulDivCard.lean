/-
  My own text: the law on products over a divisor: its walk, its row, its card.
-/
import Derived.Test.YtialddjadkkkkaaDoorRefMulDiv
import Derived.Carry
namespace Go.Proofs.YtialddjadkkkkaaDoor
open Go.ChangeShapes Go.WideShapes Go.RowKit

set_option maxHeartbeats 1000000 in
theorem mulDiv_law (a b c mode : Int) (w : World) (hE : ErrType w) (a1 : a ≤ 9223372036854775807) (b1 : b ≤ 9223372036854775807) (c1 : c ≤ 9223372036854775807) :
    Calls Tryd.prog 4 #[.int .i64 a, .int .i64 b, .int .i64 c, .int .i64 mode] w fun e w' => e = .returned (.bool true) ∧ Below w.heap.size w w' := by
  have e1 := mdE_lo a b c mode
  go_enter Tryd.func4, Tryd.ntmps4
  go_wp2_with fail
  refine (refMulDiv_any a b c mode _ a1 b1 c1).mono ?_
  rintro e w1 ⟨rfl, hb1⟩
  go_wp2_with fail
  refine (mulDiv_any a b c mode _ a1 b1 c1).mono ?_
  rintro e w2 ⟨rfl, hb2⟩
  have hB2 := hb1.trans (hb2.mono hb1.size)
  go_wp2_with fail
  refine (plain_errV _ _ _ e1.1 e1.2 (hE.below hB2)).mono ?_
  rintro e w3 ⟨rfl, hb3⟩
  go_wp2_with fail
  go_ret
  exact ⟨rfl, hB2.trans (hb3.mono hB2.size)⟩

set_option maxRecDepth 100000 in
theorem amountMulDiv_lifted (os : Os) (started : os.Started) (H : Type) (enc : TypeId × Value → H) :
    ReturnsInHanded {} Tryd.checked os 4 .any (fun w args => (Rows.amountMulDivSpec.pre enc Tryd.prog Tryd.f4 [] false w args ∧ laidMetH Tryd.prog laidE w) ∧ sizedMet enc Tryd.prog Tryd.f4 (OpenSpec.ofChange Rows.amountMulDivSpec) false w args)
      (Rows.amountMulDivSpec.post enc Tryd.prog Tryd.f4 false true false false) := by
  refine returnsInHanded_of_change_and (C := Tryd.checked) (X := fun w _ => laidMetH Tryd.prog laidE w) (fun _ _ _ hh h => h.of_heap hh) Tryd.own started (by kernel_rfl) Tryd.func4
    (ChangeSpec.witness_shaped (enc := enc) (C := Tryd.checked) (os := os) (X := fun w _ => laidMetH Tryd.prog laidE w) false (World.doorLaid Tryd.prog 400 os) #[.int .i64 0, .int .i64 0, .int .i64 0, .int .i64 0] 8 rfl (World.shaped_of_RefB (by kernel_rfl) (by kernel_rfl)) (by kernel_rfl) (by kernel_rfl) (by kernel_rfl) (door_met os _)) ?_
  intro W base args ds gs before hval0 hW _ _ hL _
  have hval : ∀ (j : Nat) t v, Tryd.f4.params[j]? = some t → args[j]? = some v → Value.okWide Tryd.prog W .any base t v := hval0
  have hW' := hW
  obtain ⟨p, q, hA0, hV, rfl, hfz, hnd⟩ := hW
  have hA : DataW.TrodAll enc Tryd.prog W 0 (fun _ => true) true Tryd.f4.params.toList args.toList ds p := hA0
  rw [Tryd.params4] at hA hval
  obtain ⟨v0, v1, v2, v3, d0, d1, d2, d3, p0, p1, p2, p3, rfl, rfl, rfl, h0, h1, h2, h3⟩ := trodAll_four hA
  obtain ⟨rfl, rfl⟩ := trodVars_none hV
  obtain ⟨a, rfl, rfl, rfl, ha⟩ := open_int Tryd.underlying2 (hval 0 2 v0 rfl rfl) h0
  have ba := bounds_i64 ha
  obtain ⟨b, rfl, rfl, rfl, hb⟩ := open_int Tryd.underlying2 (hval 1 2 v1 rfl rfl) h1
  have bb := bounds_i64 hb
  obtain ⟨c, rfl, rfl, rfl, hc⟩ := open_int Tryd.underlying2 (hval 2 2 v2 rfl rfl) h2
  have bc := bounds_i64 hc
  obtain ⟨mode, rfl, rfl, rfl, hmode⟩ := open_int Tryd.underlying3 (hval 3 3 v3 rfl rfl) h3
  have bmode := bounds_i64 hmode
  have hE := errType_of_laid hL
  clear hA0 hval0
  have e1 : Rows.amountMulDivSpec.fn H ([.lit (.int .i64 a), .lit (.int .i64 b), .lit (.int .i64 c), .lit (.int .i64 mode)] ++ []) = { results := [.lit (.bool true)], args := [.lit (.int .i64 a), .lit (.int .i64 b), .lit (.int .i64 c), .lit (.int .i64 mode)] } := by simp [Rows.amountMulDivSpec]
  refine (mulDiv_law a b c mode W hE ba.2 bb.2 bc.2).mono fun e W' ⟨he, hw⟩ => ?_
  subst he
  refine ⟨_, rfl, _, _, _, [], [], [], hW', ?_, ?_, ?_, hw.frame _, fun h => by cases h⟩
  · rw [e1]; exact trodAll_mk1 (shut_bool Tryd.underlying4 true)
  · rw [e1]; exact trodAll_mk4 (shut_int Tryd.underlying2 ha) (shut_int Tryd.underlying2 hb) (shut_int Tryd.underlying2 hc) (shut_int Tryd.underlying3 hmode)
  · rw [e1]; rfl

theorem amountMulDiv_holds : Rows.AmountMulDivSaid :=
  OpenClaim.holds_of_wide 4 Tryd.f4 rfl rfl rfl rfl rfl rfl rfl ⟨rfl, rfl, rfl, rfl, rfl⟩ rfl rfl rfl rfl rfl (by kernel_rfl) Tryd.func4 (by kernel_rfl)
    (of_decide_eq_true (by kernel_rfl)) (by unfold Func.isWrapper; rw [if_neg (of_decide_eq_false (by kernel_rfl))]; exact ⟨rfl, rfl⟩)
    (fun os started H enc _ => amountMulDiv_lifted os started H enc)

theorem amountMulDiv_card : Rows.AmountMulDivCardSaid :=
  Claim7.holds_tied_plain_at .later [] [.handle] true (true, Rows.amountMulDivCard.stood.harness.2) true
    amountMulDiv_holds (fun _ h => by cases h) (by kernel_rfl) (fun _ h => by cases h) amountMulDiv_row_tie rfl ⟨rfl, rfl⟩ (by kernel_rfl) rfl
    (fun f fn hf hfn => by
      obtain rfl : f = 4 := Option.some.inj ((show Tryd.prog.funcNamed Rows.amountMulDivRow.func = some 4 by kernel_rfl).symm.trans hf) |>.symm
      obtain rfl : fn = Tryd.f4 := (Option.some.inj (Tryd.func4.symm.trans hfn)).symm
      exact ⟨by kernel_rfl, fun j t ht => by
        rw [Tryd.params4] at ht
        have hm : t ∈ [2, 2, 2, 3] := by simpa using Array.mem_of_getElem? ht
        have hall : ([2, 2, 2, 3].all fun u => !Tryd.prog.wantsStandIn u) = true := by kernel_rfl
        exact (show Tryd.prog.wantsStandIn t = false by simpa using List.all_eq_true.1 hall t hm)⟩)
    (by kernel_rfl)
#print axioms amountMulDiv_card
end Go.Proofs.YtialddjadkkkkaaDoor
