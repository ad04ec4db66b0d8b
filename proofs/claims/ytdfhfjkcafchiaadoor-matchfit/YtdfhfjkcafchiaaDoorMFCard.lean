/-
  My own text: the law MatchFit: its row, its card.
-/
import Derived.Test.YtdfhfjkcafchiaaDoorMFArg
namespace Go.Proofs.YtdfhfjkcafchiaaDoor
open Go.ChangeShapes Go.WideShapes Go.ChangeAt Go.RowKit LC

def laidH1 : List (String × DataW Unit) := [("custody/codes.headOffice", Rows.laid_custody_codes_headOffice)]
theorem office_datum : (Rows.laid_custody_codes_headOffice : DataW Unit) = Lib.tabData .u8 [88, 88, 88] := by kernel_rfl
theorem Tryd.typeOffice : (Tryd.prog.globals[0]?).map (·.type) = some 68 := by kernel_rfl
theorem Tryd.cellsOffice : Tryd.prog.cellsOf 68 = 3 := by kernel_rfl
theorem Tryd.officeNamed : Tryd.prog.globalNamed "custody/codes.headOffice" = some 0 := by kernel_rfl
theorem office_of_laid {W : World} (h : laidMet Tryd.prog laidH1 W) : LC.HeadOffice W := by
  have h4 : laidMet Tryd.prog [("custody/codes.headOffice", Rows.laid_custody_codes_headOffice)] W := h
  rw [office_datum] at h4
  have ht := Lib.tabIs_of_head Tryd.officeNamed Tryd.typeOffice Tryd.underlying68 Tryd.underlying5 Tryd.cellsB Tryd.cellsOffice h4
  intro j v hv
  have hj : j < 3 := by
    have := (List.getElem?_eq_some_iff.1 hv).1
    simpa [LC.cel] using this
  have hc := ht.cell Tryd.officeNamed j (by simpa using hj)
  rw [Nat.zero_add, hc]
  match j, hj, hv with
  | 0, _, hv => simp [LC.cel] at hv; subst hv; rfl
  | 1, _, hv => simp [LC.cel] at hv; subst hv; rfl
  | 2, _, hv => simp [LC.cel] at hv; subst hv; rfl
theorem door_metH1 (os : Os) (args : Array Value) : laidMetH Tryd.prog laidH1 ((World.doorLaid Tryd.prog 400 os).forCall (fun _ _ => 0) ⟨#[], args, []⟩).memory :=
  laidMet_of_run' 8 (by kernel_rfl) (by kernel_rfl)
theorem office_of_laidH1 {W : World} (h : laidMetH Tryd.prog laidH1 W) : LC.HeadOffice W := office_of_laid h
set_option maxRecDepth 100000 in
theorem matchFit_lifted (os : Os) (started : os.Started) (H : Type) (enc : TypeId × Value → H) :
    ReturnsInHanded {} Tryd.checked os 3 .any (fun w args => (Rows.matchFitSpec.pre enc Tryd.prog Tryd.f3 [] false w args ∧ laidMetH Tryd.prog laidH1 w) ∧ sizedMet enc Tryd.prog Tryd.f3 (OpenSpec.ofChange Rows.matchFitSpec) false w args)
      (Rows.matchFitSpec.post enc Tryd.prog Tryd.f3 false true false false) := by
  refine returnsInHanded_of_change_and (C := Tryd.checked) (X := fun w _ => laidMetH Tryd.prog laidH1 w) (fun _ _ _ hh h => h.of_heap hh) Tryd.own started (by kernel_rfl) Tryd.func3
    (ChangeSpec.witness_shaped (enc := enc) (C := Tryd.checked) (os := os) (X := fun w _ => laidMetH Tryd.prog laidH1 w) false (World.doorLaid Tryd.prog 400 os) #[.agg #[.int .i64 0, .string ⟨#[]⟩, .string ⟨#[]⟩, .bool false, .bool false, .bool false, .int .i64 0, .int .i64 0, .int .u8 0, .int .u8 0, .int .u8 0, .int .u8 0, .int .u8 0, .int .u8 0, .int .u8 0, .int .u8 0, .int .u8 0, .int .u8 0, .int .u8 0, .int .u8 0, .int .i64 0, .string ⟨#[]⟩, .string ⟨#[]⟩, .string ⟨#[]⟩, .int .i64 0, .string ⟨#[]⟩, .int .i64 0, .slice none 0 0], .agg #[.int .i64 0, .string ⟨#[]⟩, .string ⟨#[]⟩, .bool false, .bool false, .bool false, .int .i64 0, .int .i64 0, .int .u8 0, .int .u8 0, .int .u8 0, .int .u8 0, .int .u8 0, .int .u8 0, .int .u8 0, .int .u8 0, .int .u8 0, .int .u8 0, .int .u8 0, .int .u8 0, .int .i64 0, .string ⟨#[]⟩, .string ⟨#[]⟩, .string ⟨#[]⟩, .int .i64 0, .string ⟨#[]⟩, .int .i64 0, .slice none 0 0], .slice none 0 0, .int .i64 0] 8 rfl (World.shaped_of_RefB (by kernel_rfl) (by kernel_rfl)) (by kernel_rfl) (by kernel_rfl) (by kernel_rfl) (door_metH1 os _)) ?_
  intro W base args ds gs before hval0 hW _ hsz0 hL _
  have hsz : (DataW.weightsEach Tryd.prog (Tryd.f3.params.toList ++ Rows.matchFitSpec.plain.varTypes Tryd.prog) (ds ++ gs)).all (· ≤ reachBytes) = true := hsz0
  clear hsz0
  have hval : ∀ (j : Nat) t v, Tryd.f3.params[j]? = some t → args[j]? = some v → Value.okWide Tryd.prog W .any base t v := hval0
  have hW' := hW
  obtain ⟨p, q, hA0, hV, rfl, hfz, hnd⟩ := hW
  have hA : DataW.TrodAll enc Tryd.prog W 0 (fun _ => true) true Tryd.f3.params.toList args.toList ds p := hA0
  rw [Tryd.params3] at hA hval hsz
  obtain ⟨v0, v1, v2, v3, d0, d1, d2, d3, p0, p1, p2, p3, rfl, rfl, rfl, h0, h1, h2, h3⟩ := trodAll_four hA
  obtain ⟨rfl, rfl⟩ := trodVars_none hV
  clear hA0 hval0
  obtain ⟨x3, rfl, rfl, rfl, hx3⟩ := open_int Tryd.underlying2 (hval 3 2 v3 rfl rfl) h3
  have hO := office_of_laidH1 hL
  simp only [List.append_nil] at hW'
  have hlt0 : ∀ x ∈ p0, x.block < W.heap.size := fun x hx => hW'.lt x (by simp [hx])
  have hlt1 : ∀ x ∈ p1, x.block < W.heap.size := fun x hx => hW'.lt x (by simp [hx])
  have hlt2 : ∀ x ∈ p2, x.block < W.heap.size := fun x hx => hW'.lt x (by simp [hx])
  have hargs0 : ∀ (W' : World), Below W.heap.size W W' → DataW.Trod enc Tryd.prog W' 0 (fun b => decide (b < W.heap.size)) true 28 v0 d0 p0 :=
    fun W' hn => Below.trod Tryd.laidOut (by kernel_rfl) (of_decide_eq_true (by kernel_rfl)) h0 hn hlt0
  have hargs1 : ∀ (W' : World), Below W.heap.size W W' → DataW.Trod enc Tryd.prog W' 0 (fun b => decide (b < W.heap.size)) true 28 v1 d1 p1 :=
    fun W' hn => Below.trod Tryd.laidOut (by kernel_rfl) (of_decide_eq_true (by kernel_rfl)) h1 hn hlt1
  have hargs2 : ∀ (W' : World), Below W.heap.size W W' → DataW.Trod enc Tryd.prog W' 0 (fun b => decide (b < W.heap.size)) true 29 v2 d2 p2 :=
    fun W' hn => Below.trod Tryd.laidOut (by kernel_rfl) (of_decide_eq_true (by kernel_rfl)) h2 hn hlt2
  obtain ⟨q0, n0, lv0, ls0, hv0, hn0, hr0, hl0, hi0, ha0⟩ := open_side (hval 0 28 v0 rfl rfl) h0 hlt0 (fun m hm => by
    have := List.all_eq_true.1 hsz m (DataW.weights_mem_each (j := 0) (t := 28) (d := d0) rfl rfl m hm)
    simpa using this)
  obtain ⟨q1, n1, lv1, ls1, hv1, hn1, hr1, hl1, hi1, ha1⟩ := open_side (hval 1 28 v1 rfl rfl) h1 hlt1 (fun m hm => by
    have := List.all_eq_true.1 hsz m (DataW.weights_mem_each (j := 1) (t := 28) (d := d1) rfl rfl m hm)
    simpa using this)
  obtain ⟨a2, n2, c2, hsv2⟩ := okWide_slice Tryd.underlying29 (hval 2 29 v2 rfl rfl)
  obtain ⟨fuel2, hf2⟩ := id h2
  subst hsv2
  obtain ⟨bs, hr2, hl2, hs2⟩ := open_textsF (x := (d2, p2)) (v := .slice a2 n2 c2) (by simpa [Value.cells] using hf2) hlt2 (fun m hm => by
    have := List.all_eq_true.1 hsz m (DataW.weights_mem_each (j := 2) (t := 29) (d := d2) rfl rfl m hm)
    simpa using this)
  subst hv0 hv1
  have e1 : Rows.matchFitSpec.fn H ([d0, d1, d2, .lit (.int .i64 x3)] ++ []) = { results := [.lit (.bool true)], args := [d0, d1, d2, .lit (.int .i64 x3)] } := by simp [Rows.matchFitSpec]
  refine (matchFit_law q0 q1 n0 n1 lv0 lv1 (.slice a2 n2 c2) ls0 ls1 bs x3 W hn0 hn1 ha0 ha1 (bounds_i64 hx3) hi0 hi1 hr0 hr1 hl0 hl1 hr2 hl2 hs2 hO).mono fun e W' ⟨he, hw⟩ => ?_
  subst he
  refine ⟨_, rfl, _, _, _, [], p0 ++ (p1 ++ (p2 ++ [])), [], by simpa using hW', ?_, ?_, ?_, hw.frame _, fun h => by cases h⟩
  · rw [e1]; exact trodAll_mk1 (shut_bool Tryd.underlying4 true)
  · rw [e1]; exact trodAll_mk4 (hargs0 _ hw) (hargs1 _ hw) (hargs2 _ hw) (shut_int Tryd.underlying2 hx3)
  · rw [e1]; rfl

theorem matchFit_holds : Rows.MatchFitSaid :=
  OpenClaim.holds_of_wide 3 Tryd.f3 rfl rfl rfl rfl rfl rfl rfl ⟨rfl, rfl, rfl, rfl, rfl⟩ rfl rfl rfl rfl rfl (by kernel_rfl) Tryd.func3 (by kernel_rfl)
    (of_decide_eq_true (by kernel_rfl)) (by unfold Func.isWrapper; rw [if_neg (of_decide_eq_false (by kernel_rfl))]; exact ⟨rfl, rfl⟩)
    (fun os started H enc _ => matchFit_lifted os started H enc)

theorem matchFit_card : Rows.MatchFitCardSaid :=
  Claim7.holds_tied_plain_at .later [] [.data] true (true, Rows.matchFitCard.stood.harness.2) false
    matchFit_holds (fun _ h => by cases h) (by kernel_rfl) (fun _ h => by cases h) matchFit_row_tie rfl ⟨rfl, rfl⟩ (by kernel_rfl) rfl
    (fun f fn hf hfn => by
      obtain rfl : f = 3 := Option.some.inj ((show Tryd.prog.funcNamed Rows.matchFitRow.func = some 3 by kernel_rfl).symm.trans hf) |>.symm
      obtain rfl : fn = Tryd.f3 := (Option.some.inj (Tryd.func3.symm.trans hfn)).symm
      exact ⟨by kernel_rfl, fun j t ht => by
        rw [Tryd.params3] at ht
        have hm : t ∈ [28, 28, 29, 2] := by simpa using Array.mem_of_getElem? ht
        have hall : ([28, 28, 29, 2].all fun u => !Tryd.prog.wantsStandIn u) = true := by kernel_rfl
        exact (show Tryd.prog.wantsStandIn t = false by simpa using List.all_eq_true.1 hall t hm)⟩)
    (by kernel_rfl)
#print axioms matchFit_card
end Go.Proofs.YtdfhfjkcafchiaaDoor
