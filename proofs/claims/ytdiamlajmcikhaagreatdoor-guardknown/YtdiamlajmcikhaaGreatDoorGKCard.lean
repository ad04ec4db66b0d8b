/-
  My own text: G28, G34, GKCard in one.
-/
import Derived.Test.YtdiamlajmcikhaaGreatDoorG28a
import Derived.Test.YtdiamlajmcikhaaGreatDoorG17
import Derived.Test.YtdiamlajmcikhaaGreatDoorG19
import Derived.Test.YtdiamlajmcikhaaGreatDoorG25
import Derived.Test.YtdiamlajmcikhaaGreatDoorG27
import Derived.Test.YtdiamlajmcikhaaGreatDoorG30
import Derived.Test.YtdiamlajmcikhaaGreatDoorG31
import Derived.Test.YtdiamlajmcikhaaGreatDoorG32
import Derived.Test.YtdiamlajmcikhaaGreatDoorG33
import Derived.Test.YtdiamlajmcikhaaGreatDoorGArg
import Derived.Stop.LaidErr
import Derived.Carry
namespace Go.Proofs.YtdiamlajmcikhaaGreatDoor
open Go.RowKit

theorem KG.of {w : World} (hE : ErrType w) : KG w where
  dec W v L hb hv hl := guardDecode_from rdecode_any v L W (hE.below hb) hv (by omega)
  enc W c a s q n i lv pv L P hb hL hP hl hp := guardEncode_law ⟨c, a, s, q, n, i, L, P⟩ lv pv W (hE.below hb) hL hP (show L.length ≤ _ by omega) (show P.length ≤ _ by omega)
  bck W v L hb hv hl := guardBack_law ⟨0, 0, 0, 0, 0, 0, [], []⟩ ⟨0, 0, 0, 0, 0, 0, [], []⟩ (.slice none 0 0) (.slice none 0 0) (.slice none 0 0) (.slice none 0 0) v L W (hE.below hb) (LG.RM.nil W) (KY.RM.nil W) (LG.RM.nil W) (KY.RM.nil W) hv (by decide) (by decide) (by decide) (by decide) (by omega)
  chk W A S z0 z1 z2 c a s q n i lv pv L P hb hL hP hl hp := guardCheck_law A S z0 z1 z2 ⟨c, a, s, q, n, i, L, P⟩ lv pv W (hE.below hb) hL hP (show L.length ≤ _ by omega) (show P.length ≤ _ by omega)
  fit W A S z0 z1 z2 hb := guardFits_law A S z0 z1 z2 W (hE.below hb)
end Go.Proofs.YtdiamlajmcikhaaGreatDoor
namespace Go.Proofs.YtdiamlajmcikhaaGreatDoor
open Go.RowKit

theorem KG.later {w W : World} (h : KG w) (hb : Below w.heap.size w W) : KG W :=
  ⟨fun V v L b => h.dec V v L (hb.trans (b.mono hb.size)), fun V c a s q n i lv pv L P b => h.enc V c a s q n i lv pv L P (hb.trans (b.mono hb.size)), fun V v L b => h.bck V v L (hb.trans (b.mono hb.size)), fun V A S z0 z1 z2 c a s q n i lv pv L P b => h.chk V A S z0 z1 z2 c a s q n i lv pv L P (hb.trans (b.mono hb.size)), fun V A S z0 z1 z2 b => h.fit V A S z0 z1 z2 (hb.trans (b.mono hb.size))⟩
set_option maxRecDepth 100000 in
set_option maxHeartbeats 2000000 in
theorem guardKnown_law (w : World) (hE : ErrType w) :
    Calls Tryz.prog 3 #[] w fun e w' => e = .returned (.bool true) ∧ Below w.heap.size w w' := by
  have HW := hide (works_any w hE)
  have HK := hide (KG.of hE)
  clear hE
  go_enter Tryz.func3, Tryz.ntmps3
  go_wp2_with fail
  refine HW.out.mono ?_
  rintro e w1 ⟨rfl, hb⟩
  have B1 := hide hb
  clear hb
  go_wp2_with fail
  refine (knownRows_any w1 (HK.out.later B1.out)).mono ?_
  rintro e w2 ⟨rfl, hb⟩
  have B2 := hide (B1.out.trans (hb.mono B1.out.size))
  clear hb
  go_wp2_with fail
  refine (knownFields_any w2 (HK.out.later B2.out)).mono ?_
  rintro e w3 ⟨rfl, hb⟩
  have B3 := hide (B2.out.trans (hb.mono B2.out.size))
  clear hb
  go_wp2_with fail
  refine (knownLegs_any w3 (HK.out.later B3.out)).mono ?_
  rintro e w4 ⟨rfl, hb⟩
  have B4 := hide (B3.out.trans (hb.mono B3.out.size))
  clear hb
  go_wp2_with fail
  refine (knownWide_any w4 (HK.out.later B4.out)).mono ?_
  rintro e w5 ⟨rfl, hb⟩
  have B5 := hide (B4.out.trans (hb.mono B4.out.size))
  clear hb
  go_wp2_with fail
  refine (knownFits_any w5 (HK.out.later B5.out)).mono ?_
  rintro e w6 ⟨rfl, hb⟩
  have B6 := hide (B5.out.trans (hb.mono B5.out.size))
  clear hb
  go_wp2_with fail
  go_ret
  exact ⟨rfl, B6.out⟩
end Go.Proofs.YtdiamlajmcikhaaGreatDoor
namespace Go.Proofs.YtdiamlajmcikhaaGreatDoor
open Go.ChangeShapes Go.WideShapes Go.ChangeAt Go.RowKit

set_option maxRecDepth 100000 in
theorem guardKnown_lifted (os : Os) (started : os.Started) (H : Type) (enc : TypeId × Value → H) :
    ReturnsInHanded {} Tryz.checked os 3 .any (fun w args => (Rows.guardKnownSpec.pre enc Tryz.prog Tryz.f3 [] false w args ∧ laidMetH Tryz.prog laidE w) ∧ sizedMet enc Tryz.prog Tryz.f3 (OpenSpec.ofChange Rows.guardKnownSpec) false w args)
      (Rows.guardKnownSpec.post enc Tryz.prog Tryz.f3 false true false false) := by
  refine returnsInHanded_of_change_and (C := Tryz.checked) (X := fun w _ => laidMetH Tryz.prog laidE w) (fun _ _ _ hh h => h.of_heap hh) Tryz.own started (by kernel_rfl) Tryz.func3
    (ChangeSpec.witness_shaped (enc := enc) (C := Tryz.checked) (os := os) (X := fun w _ => laidMetH Tryz.prog laidE w) false (World.doorLaid Tryz.prog 400 os) #[] 8 rfl (World.shaped_of_RefB (by kernel_rfl) (by kernel_rfl)) (by kernel_rfl) (by kernel_rfl) (by kernel_rfl) (door_met os _)) ?_
  intro W base args ds gs before hval0 hW _ hsz0 hL _
  have hsz : (DataW.weightsEach Tryz.prog (Tryz.f3.params.toList ++ Rows.guardKnownSpec.plain.varTypes Tryz.prog) (ds ++ gs)).all (· ≤ reachBytes) = true := hsz0
  clear hsz0
  have hval : ∀ (j : Nat) t v, Tryz.f3.params[j]? = some t → args[j]? = some v → Value.okWide Tryz.prog W .any base t v := hval0
  have hW' := hW
  obtain ⟨p, q, hA0, hV, rfl, hfz, hnd⟩ := hW
  have hA : DataW.TrodAll enc Tryz.prog W 0 (fun _ => true) true Tryz.f3.params.toList args.toList ds p := hA0
  rw [Tryz.params3] at hA hval hsz
  obtain ⟨rfl, rfl, rfl⟩ := trodAll_none hA
  obtain ⟨rfl, rfl⟩ := trodVars_none hV
  clear hA0 hval0
  have e1 : Rows.guardKnownSpec.fn H ([] ++ []) = { results := [.lit (.bool true)], args := [] } := by simp [Rows.guardKnownSpec]
  refine (guardKnown_law W (errType_of_laid hL)).mono fun e W' ⟨he, hw⟩ => ?_
  subst he
  refine ⟨_, rfl, _, _, _, [], [], [], hW', ?_, ?_, ?_, hw.frame _, fun h => by cases h⟩
  · rw [e1]; exact trodAll_mk1 (shut_bool Tryz.underlying4 true)
  · rw [e1]; exact trodAll_mk0
  · rw [e1]; rfl

theorem guardKnown_holds : Rows.GuardKnownSaid :=
  OpenClaim.holds_of_wide 3 Tryz.f3 rfl rfl rfl rfl rfl rfl rfl ⟨rfl, rfl, rfl, rfl, rfl⟩ rfl rfl rfl rfl rfl (by kernel_rfl) Tryz.func3 (by kernel_rfl)
    (of_decide_eq_true (by kernel_rfl)) (by unfold Func.isWrapper; rw [if_neg (of_decide_eq_false (by kernel_rfl))]; exact ⟨rfl, rfl⟩)
    (fun os started H enc _ => guardKnown_lifted os started H enc)

theorem guardKnown_card : Rows.GuardKnownCardSaid :=
  Claim7.holds_tied_plain_at .later [] [.handle] true (true, Rows.guardKnownCard.stood.harness.2) true
    guardKnown_holds (fun _ h => by cases h) (by kernel_rfl) (fun _ h => by cases h) guardKnown_row_tie rfl ⟨rfl, rfl⟩ (by kernel_rfl) rfl
    (fun f fn hf hfn => by
      obtain rfl : f = 3 := Option.some.inj ((show Tryz.prog.funcNamed Rows.guardKnownRow.func = some 3 by kernel_rfl).symm.trans hf) |>.symm
      obtain rfl : fn = Tryz.f3 := (Option.some.inj (Tryz.func3.symm.trans hfn)).symm
      exact ⟨by kernel_rfl, fun j t ht => by
        rw [Tryz.params3] at ht
        have hm : t ∈ ([] : List TypeId) := by simpa using Array.mem_of_getElem? ht
        have hall : (([] : List TypeId).all fun u => !Tryz.prog.wantsStandIn u) = true := by kernel_rfl
        exact (show Tryz.prog.wantsStandIn t = false by simpa using List.all_eq_true.1 hall t hm)⟩)
    (by kernel_rfl)
#print axioms guardKnown_card
end Go.Proofs.YtdiamlajmcikhaaGreatDoor
