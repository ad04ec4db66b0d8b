/-
  My own text: the law NoticeCheck: its row, its card.
-/
import Derived.Test.YtbpdjjihimplaaaDoorNArg
namespace Go.Proofs.YtbpdjjihimplaaaDoor
open Go.ChangeShapes Go.WideShapes Go.ChangeAt Go.RowKit LC

def laidDHE : List (String × DataW Unit) := [("custody/calendar.monthDays", Rows.laid_custody_calendar_monthDays), ("custody/codes.headOffice", Rows.laid_custody_codes_headOffice), ("errors.errorType", Rows.laid_errors_errorType)]
def laidDH : List (String × DataW Unit) := [("custody/calendar.monthDays", Rows.laid_custody_calendar_monthDays), ("custody/codes.headOffice", Rows.laid_custody_codes_headOffice)]
theorem door_metDHE (os : Os) (args : Array Value) : laidMetH Tryd.prog laidDHE ((World.doorLaid Tryd.prog 400 os).forCall (fun _ _ => 0) ⟨#[], args, []⟩).memory :=
  laidMetH_of_parts (laidMet_of_run' 8 (by kernel_rfl) (by kernel_rfl)) (by kernel_rfl)
theorem months_datum : (Rows.laid_custody_calendar_monthDays : DataW Unit) = Lib.tabData .i64 mTab := by kernel_rfl
theorem office_datum : (Rows.laid_custody_codes_headOffice : DataW Unit) = Lib.tabData .u8 [88, 88, 88] := by kernel_rfl
theorem Tryd.typeMonths : (Tryd.prog.globals[2]?).map (·.type) = some 108 := by kernel_rfl
theorem Tryd.cellsMonths : Tryd.prog.cellsOf 108 = 12 := by kernel_rfl
theorem Tryd.typeOffice : (Tryd.prog.globals[1]?).map (·.type) = some 105 := by kernel_rfl
theorem Tryd.cellsOffice : Tryd.prog.cellsOf 105 = 3 := by kernel_rfl
theorem Tryd.officeNamed : Tryd.prog.globalNamed "custody/codes.headOffice" = some 1 := by kernel_rfl
theorem parts_of_laid {W : World} (h : laidMetH Tryd.prog laidDHE W) : ErrType W ∧ MDays W ∧ LC.HeadOffice W := by
  have h' : laidMet Tryd.prog laidDH W ∧ handlesMet Tryd.prog laidE W := h
  refine ⟨errType_of_laid (show laidMet Tryd.prog [] W ∧ handlesMet Tryd.prog laidE W from ⟨laidMet_nil _ _, h'.2⟩), ?_, ?_⟩
  · have h3 := h'.1
    unfold laidDH at h3
    rw [months_datum] at h3
    exact Lib.tabIs_of_head Tryd.mdNamed Tryd.typeMonths Tryd.underlying108 Tryd.underlying3 Tryd.cellsI Tryd.cellsMonths h3
  · have h3 := h'.1
    unfold laidDH at h3
    have h4 := h3.tail
    rw [office_datum] at h4
    have ht := Lib.tabIs_of_head Tryd.officeNamed Tryd.typeOffice Tryd.underlying105 Tryd.underlying5 Tryd.cellsB Tryd.cellsOffice h4
    intro j v hv
    have hj : j < 3 := by
      have := (List.getElem?_eq_some_iff.1 hv).1
      simpa [LC.cel] using this
    have hc := ht.cell Tryd.officeNamed j (by simpa using hj)
    rw [Nat.zero_add, hc]
    match j, hj, hv with
    | 0, _, hv => simp [LC.cel] at hv; subst hv; rfl
    | 1, _, hv => simp [LC.cel] at hv; subst hv; rfl
    | 2, _, hv => simp [LC.cel] at hv; subst hv; rfl

set_option maxRecDepth 100000 in
theorem noticeCheck_lifted (os : Os) (started : os.Started) (H : Type) (enc : TypeId × Value → H) :
    ReturnsInHanded {} Tryd.checked os 3 .any (fun w args => (Rows.noticeCheckSpec.pre enc Tryd.prog Tryd.f3 [] false w args ∧ laidMetH Tryd.prog laidDHE w) ∧ sizedMet enc Tryd.prog Tryd.f3 (OpenSpec.ofChange Rows.noticeCheckSpec) false w args)
      (Rows.noticeCheckSpec.post enc Tryd.prog Tryd.f3 false true false false) := by
  refine returnsInHanded_of_change_and (C := Tryd.checked) (X := fun w _ => laidMetH Tryd.prog laidDHE w) (fun _ _ _ hh h => h.of_heap hh) Tryd.own started (by kernel_rfl) Tryd.func3
    (ChangeSpec.witness_shaped (enc := enc) (C := Tryd.checked) (os := os) (X := fun w _ => laidMetH Tryd.prog laidDHE w) false (World.doorLaid Tryd.prog 400 os) #[.agg #[.string ⟨#[]⟩, .string ⟨#[]⟩, .bool false, .bool false, .bool false, .int .i64 0, .int .i64 0, .int .u8 0, .int .u8 0, .int .u8 0, .int .u8 0, .int .u8 0, .int .u8 0, .int .u8 0, .int .u8 0, .int .u8 0, .int .u8 0, .int .u8 0, .int .u8 0, .int .i64 0, .string ⟨#[]⟩, .string ⟨#[]⟩, .string ⟨#[]⟩, .int .i64 0, .string ⟨#[]⟩, .int .i64 0, .slice none 0 0]] 8 rfl (World.shaped_of_RefB (by kernel_rfl) (by kernel_rfl)) (by kernel_rfl) (by kernel_rfl) (by kernel_rfl) (door_metDHE os _)) ?_
  intro W base args ds gs before hval0 hW _ hsz0 hL _
  have hsz : (DataW.weightsEach Tryd.prog (Tryd.f3.params.toList ++ Rows.noticeCheckSpec.plain.varTypes Tryd.prog) (ds ++ gs)).all (· ≤ reachBytes) = true := hsz0
  clear hsz0
  have hval : ∀ (j : Nat) t v, Tryd.f3.params[j]? = some t → args[j]? = some v → Value.okWide Tryd.prog W .any base t v := hval0
  have hW' := hW
  obtain ⟨p, q, hA0, hV, rfl, hfz, hnd⟩ := hW
  have hA : DataW.TrodAll enc Tryd.prog W 0 (fun _ => true) true Tryd.f3.params.toList args.toList ds p := hA0
  rw [Tryd.params3] at hA hval hsz
  obtain ⟨v0, d0, rfl, rfl, h0⟩ := trodAll_one hA
  obtain ⟨rfl, rfl⟩ := trodVars_none hV
  clear hA0 hval0
  obtain ⟨hE, hM, hO⟩ := parts_of_laid hL
  simp only [List.append_nil] at hW'
  have hlt0 : ∀ x ∈ p, x.block < W.heap.size := fun x hx => hW'.lt x (by simp [hx])
  obtain ⟨n, lv, ls, rfl, hn, hrl, hlo, hll⟩ := open_notice (hval 0 26 v0 rfl rfl) h0 hlt0 (fun m hm => by
    have := List.all_eq_true.1 hsz m (DataW.weights_mem_each (j := 0) (t := 26) (d := d0) rfl rfl m hm)
    simpa using this)
  have hargs0 : ∀ (W' : World), Below W.heap.size W W' → DataW.Trod enc Tryd.prog W' 0 (fun b => decide (b < W.heap.size)) true 26 (.agg (nC n lv)) d0 p :=
    fun W' hn => Below.trod Tryd.laidOut (by kernel_rfl) (of_decide_eq_true (by kernel_rfl)) h0 hn hlt0
  have e1 : Rows.noticeCheckSpec.fn H ([d0] ++ []) = { results := [.lit (.bool true)], args := [d0] } := by simp [Rows.noticeCheckSpec]
  refine (noticeCheck_law n lv ls W hn hrl hlo hll (hide hE) (hide hM) (hide hO)).mono fun e W' ⟨he, hw⟩ => ?_
  subst he
  refine ⟨_, rfl, _, _, _, [], p, [], hW', ?_, ?_, ?_, hw.frame _, fun h => by cases h⟩
  · rw [e1]; exact trodAll_mk1 (shut_bool Tryd.underlying4 true)
  · rw [e1]; exact trodAll_mk1 (hargs0 _ hw)
  · rw [e1]; rfl

theorem noticeCheck_holds : Rows.NoticeCheckSaid :=
  OpenClaim.holds_of_wide 3 Tryd.f3 rfl rfl rfl rfl rfl rfl rfl ⟨rfl, rfl, rfl, rfl, rfl⟩ rfl rfl rfl rfl rfl (by kernel_rfl) Tryd.func3 (by kernel_rfl)
    (of_decide_eq_true (by kernel_rfl)) (by unfold Func.isWrapper; rw [if_neg (of_decide_eq_false (by kernel_rfl))]; exact ⟨rfl, rfl⟩)
    (fun os started H enc _ => noticeCheck_lifted os started H enc)

theorem noticeCheck_card : Rows.NoticeCheckCardSaid :=
  Claim7.holds_tied_plain_at .later [] [.data, .data, .handle] true (true, Rows.noticeCheckCard.stood.harness.2) true
    noticeCheck_holds (fun _ h => by cases h) (by kernel_rfl) (fun _ h => by cases h) noticeCheck_row_tie rfl ⟨rfl, rfl⟩ (by kernel_rfl) rfl
    (fun f fn hf hfn => by
      obtain rfl : f = 3 := Option.some.inj ((show Tryd.prog.funcNamed Rows.noticeCheckRow.func = some 3 by kernel_rfl).symm.trans hf) |>.symm
      obtain rfl : fn = Tryd.f3 := (Option.some.inj (Tryd.func3.symm.trans hfn)).symm
      exact ⟨by kernel_rfl, fun j t ht => by
        rw [Tryd.params3] at ht
        have hm : t ∈ [26] := by simpa using Array.mem_of_getElem? ht
        have hall : ([26].all fun u => !Tryd.prog.wantsStandIn u) = true := by kernel_rfl
        exact (show Tryd.prog.wantsStandIn t = false by simpa using List.all_eq_true.1 hall t hm)⟩)
    (by kernel_rfl)
#print axioms noticeCheck_card
end Go.Proofs.YtbpdjjihimplaaaDoor
