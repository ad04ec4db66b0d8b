/-
  My own text: the law on Write: its row, its card.
-/
import Derived.Test.YtbaideeiljeamaaGreatDoorNArg
import Derived.Test.YtbaideeiljeamaaGreatDoorNW
namespace Go.Proofs.YtbaideeiljeamaaGreatDoor
open Go.ChangeShapes Go.WideShapes Go.ChangeAt Go.RowKit LC

def laid10 : List (String × DataW Unit) := [("custody/calendar.monthDays", Rows.laid_custody_calendar_monthDays), ("custody/codes.headOffice", Rows.laid_custody_codes_headOffice), ("math/bits.deBruijn32tab", Rows.laid_math_bits_deBruijn32tab), ("math/bits.deBruijn64tab", Rows.laid_math_bits_deBruijn64tab), ("internal/strconv.uint64pow10", Rows.laid_internal_strconv_uint64pow10), ("errors.errorType", Rows.laid_errors_errorType), ("strconv.ErrRange", Rows.laid_strconv_ErrRange), ("strconv.ErrSyntax", Rows.laid_strconv_ErrSyntax), ("custody/notice.types", Rows.laid_custody_notice_types), ("custody/notice.linkWords", Rows.laid_custody_notice_linkWords)]
def laid9 : List (String × DataW Unit) := [("custody/calendar.monthDays", Rows.laid_custody_calendar_monthDays), ("custody/codes.headOffice", Rows.laid_custody_codes_headOffice), ("math/bits.deBruijn32tab", Rows.laid_math_bits_deBruijn32tab), ("math/bits.deBruijn64tab", Rows.laid_math_bits_deBruijn64tab), ("internal/strconv.uint64pow10", Rows.laid_internal_strconv_uint64pow10), ("strconv.ErrRange", Rows.laid_strconv_ErrRange), ("strconv.ErrSyntax", Rows.laid_strconv_ErrSyntax), ("custody/notice.types", Rows.laid_custody_notice_types), ("custody/notice.linkWords", Rows.laid_custody_notice_linkWords)]
theorem door_met10 (os : Os) (args : Array Value) : laidMetH Tryz.prog laid10 ((World.doorLaid Tryz.prog 400 os).forCall (fun _ _ => 0) ⟨#[], args, []⟩).memory :=
  laidMetH_of_parts (laidMet_of_run' 8 (by kernel_rfl) (by kernel_rfl)) (by kernel_rfl)
theorem pow_datum : (Rows.laid_internal_strconv_uint64pow10 : DataW Unit) = Lib.tabData .u64 Lib.pow10Tab := by kernel_rfl
theorem Tryz.cells64 : Tryz.prog.cellsOf 184 = 1 := by kernel_rfl
theorem Tryz.cellsPow : Tryz.prog.cellsOf 204 = 20 := by kernel_rfl
theorem Tryz.typePow : (Tryz.prog.globals[7]?).map (·.type) = some 204 := by kernel_rfl
theorem Tryz.typeTyps : (Tryz.prog.globals[1]?).map (·.type) = some 103 := by kernel_rfl
theorem Tryz.cellsTyps : Tryz.prog.cellsOf 103 = 4 := by kernel_rfl
theorem Tryz.typeWds : (Tryz.prog.globals[2]?).map (·.type) = some 114 := by kernel_rfl
theorem Tryz.cellsWds : Tryz.prog.cellsOf 114 = 3 := by kernel_rfl
/-- A table of texts that is laid. -/
theorem strs_of_head {P : Program} {W : World} {name : String} {ss : List (List UInt8)} {rest : List (String × DataW Unit)} {g : Nat} {t e : TypeId} {n : Nat}
    (hg : P.globalNamed name = some g) (hty : (P.globals[g]?).map (·.type) = some t) (ht : P.underlying t = some (.array n e)) (he : P.underlying e = some .string) (hce : P.cellsOf e = 1)
    (h : laidMet P ((name, .agg (ss.map fun s => .lit (.string s))) :: rest) W) : ∀ (i : Nat) (s : List UInt8), ss[i]? = some s → W.cell? ⟨g, i, none⟩ = some (.string ⟨s.toArray⟩) := by
  obtain ⟨ps, ⟨g', t', cs, fuel, p, q, hg', ht', hvar, hd, _, _⟩, _⟩ := h
  obtain rfl := Option.some.inj (hg.symm.trans hg')
  obtain rfl := Option.some.inj (hty.symm.trans ht')
  obtain ⟨xs, m, _, hx, _, hxl, hall⟩ := DataW.trod_array ht hd
  intro i s hi
  have hm : (ss.map fun s => (DataW.lit (.string s) : DataW Unit)) = xs.map (·.1) := by
    have := congrArg Prod.fst hx
    injection this
  have hlen := congrArg List.length hm
  rw [List.length_map, List.length_map] at hlen
  have hin : i < n := by have := (List.getElem?_eq_some_iff.1 hi).1; omega
  have h1 := hall i hin
  rw [hce, Nat.mul_one] at h1
  obtain ⟨x1, hx1⟩ : ∃ x1, xs[i]? = some x1 := ⟨_, List.getElem?_eq_getElem (by omega)⟩
  rw [hx1] at h1
  obtain ⟨b, hb, hxx, _⟩ := DataW.trod_string he h1
  have hc : cs[i]? = some (.string b) := by
    have := congrArg (·[0]?) hb
    simpa [List.getElem?_take, List.getElem?_drop] using this
  have h2 : (xs.map (·.1))[i]? = some (DataW.lit (.string b.data.toList) : DataW Unit) := by rw [List.getElem?_map, hx1, hxx]; rfl
  rw [← hm, List.getElem?_map, hi] at h2
  simp at h2
  rw [World.var?_cell hg hvar i, h2]
  simpa using hc
theorem months_datum : (Rows.laid_custody_calendar_monthDays : DataW Unit) = Lib.tabData .i64 mTab := by kernel_rfl
theorem office_datum : (Rows.laid_custody_codes_headOffice : DataW Unit) = Lib.tabData .u8 [88, 88, 88] := by kernel_rfl
theorem Tryz.typeMonths : (Tryz.prog.globals[4]?).map (·.type) = some 180 := by kernel_rfl
theorem Tryz.cellsMonths : Tryz.prog.cellsOf 180 = 12 := by kernel_rfl
theorem Tryz.typeOffice : (Tryz.prog.globals[3]?).map (·.type) = some 164 := by kernel_rfl
theorem Tryz.cellsOffice : Tryz.prog.cellsOf 164 = 3 := by kernel_rfl
theorem Tryz.officeNamed : Tryz.prog.globalNamed "custody/codes.headOffice" = some 3 := by kernel_rfl
theorem wd_of_laid {W : World} (h : laidMetH Tryz.prog laid10 W) : ErrType W ∧ Wd W ∧ LC.HeadOffice W := by
  have h' : laidMet Tryz.prog laid9 W ∧ handlesMet Tryz.prog laidE W := h
  have h3 := h'.1
  unfold laid9 at h3
  refine ⟨errType_of_laid (show laidMet Tryz.prog [] W ∧ handlesMet Tryz.prog laidE W from ⟨laidMet_nil _ _, h'.2⟩), ⟨?_, ?_, ?_, ?_⟩, ?_⟩
  · have h4 := h3.tail.tail.tail.tail
    rw [pow_datum] at h4
    exact Lib.tabIs_of_head (show Tryz.prog.globalNamed "internal/strconv.uint64pow10" = some 7 by kernel_rfl) Tryz.typePow Tryz.underlying204 Tryz.underlying184 Tryz.cells64 Tryz.cellsPow h4
  · rw [months_datum] at h3
    exact Lib.tabIs_of_head Tryz.mdNamed Tryz.typeMonths Tryz.underlying180 Tryz.underlying3 Tryz.cellsI Tryz.cellsMonths h3
  · have h4 := h3.tail.tail.tail.tail.tail.tail.tail
    have hs := strs_of_head (ss := [[53, 52, 48], [53, 52, 49], [53, 52, 50], [53, 52, 51]]) (show Tryz.prog.globalNamed "custody/notice.types" = some 1 by kernel_rfl) Tryz.typeTyps Tryz.underlying103 Tryz.underlying9 Tryz.cellsS h4
    exact ⟨hs 0 _ rfl, hs 1 _ rfl, hs 2 _ rfl, hs 3 _ rfl⟩
  · have h4 := h3.tail.tail.tail.tail.tail.tail.tail.tail
    have hs := strs_of_head (ss := [[87, 73, 84, 72], [66, 69, 70, 79], [65, 70, 84, 69]]) (show Tryz.prog.globalNamed "custody/notice.linkWords" = some 2 by kernel_rfl) Tryz.typeWds Tryz.underlying114 Tryz.underlying9 Tryz.cellsS h4
    exact ⟨hs 0 _ rfl, hs 1 _ rfl, hs 2 _ rfl⟩
  · have h4 := h3.tail
    rw [office_datum] at h4
    have ht := Lib.tabIs_of_head Tryz.officeNamed Tryz.typeOffice Tryz.underlying164 Tryz.underlying5 Tryz.cellsB Tryz.cellsOffice h4
    intro j v hv
    have hj : j < 3 := by
      have := (List.getElem?_eq_some_iff.1 hv).1
      simpa [LC.cel] using this
    have hc := ht.cell Tryz.officeNamed j (by simpa using hj)
    rw [Nat.zero_add, hc]
    match j, hj, hv with
    | 0, _, hv => simp [LC.cel] at hv; subst hv; rfl
    | 1, _, hv => simp [LC.cel] at hv; subst hv; rfl
    | 2, _, hv => simp [LC.cel] at hv; subst hv; rfl

set_option maxRecDepth 100000 in
theorem noticeWrite_lifted (os : Os) (started : os.Started) (H : Type) (enc : TypeId × Value → H) :
    ReturnsInHanded {} Tryz.checked os 3 .any (fun w args => (Rows.noticeWriteSpec.pre enc Tryz.prog Tryz.f3 [] false w args ∧ laidMetH Tryz.prog laid10 w) ∧ sizedMet enc Tryz.prog Tryz.f3 (OpenSpec.ofChange Rows.noticeWriteSpec) false w args)
      (Rows.noticeWriteSpec.post enc Tryz.prog Tryz.f3 false true false false) := by
  refine returnsInHanded_of_change_and (C := Tryz.checked) (X := fun w _ => laidMetH Tryz.prog laid10 w) (fun _ _ _ hh h => h.of_heap hh) Tryz.own started (by kernel_rfl) Tryz.func3
    (ChangeSpec.witness_shaped (enc := enc) (C := Tryz.checked) (os := os) (X := fun w _ => laidMetH Tryz.prog laid10 w) false (World.doorLaid Tryz.prog 400 os) #[.agg #[.string ⟨#[]⟩, .string ⟨#[]⟩, .bool false, .bool false, .bool false, .int .i64 0, .int .i64 0, .int .u8 0, .int .u8 0, .int .u8 0, .int .u8 0, .int .u8 0, .int .u8 0, .int .u8 0, .int .u8 0, .int .u8 0, .int .u8 0, .int .u8 0, .int .u8 0, .int .i64 0, .string ⟨#[]⟩, .string ⟨#[]⟩, .string ⟨#[]⟩, .int .i64 0, .string ⟨#[]⟩, .int .i64 0, .slice none 0 0]] 8 rfl (World.shaped_of_RefB (by kernel_rfl) (by kernel_rfl)) (by kernel_rfl) (by kernel_rfl) (by kernel_rfl) (door_met10 os _)) ?_
  intro W base args ds gs before hval0 hW _ hsz0 hL _
  have hsz : (DataW.weightsEach Tryz.prog (Tryz.f3.params.toList ++ Rows.noticeWriteSpec.plain.varTypes Tryz.prog) (ds ++ gs)).all (· ≤ reachBytes) = true := hsz0
  clear hsz0
  have hval : ∀ (j : Nat) t v, Tryz.f3.params[j]? = some t → args[j]? = some v → Value.okWide Tryz.prog W .any base t v := hval0
  have hW' := hW
  obtain ⟨p, q, hA0, hV, rfl, hfz, hnd⟩ := hW
  have hA : DataW.TrodAll enc Tryz.prog W 0 (fun _ => true) true Tryz.f3.params.toList args.toList ds p := hA0
  rw [Tryz.params3] at hA hval hsz
  obtain ⟨v0, d0, rfl, rfl, h0⟩ := trodAll_one hA
  obtain ⟨rfl, rfl⟩ := trodVars_none hV
  clear hA0 hval0
  obtain ⟨hE, hD, hO⟩ := wd_of_laid hL
  simp only [List.append_nil] at hW'
  have hlt0 : ∀ x ∈ p, x.block < W.heap.size := fun x hx => hW'.lt x (by simp [hx])
  obtain ⟨n, lv, ls, rfl, hn, hrl, hlo, hll, hq1, ha1⟩ := open_notice (hval 0 26 v0 rfl rfl) h0 hlt0 (fun m hm => by
    have := List.all_eq_true.1 hsz m (DataW.weights_mem_each (j := 0) (t := 26) (d := d0) rfl rfl m hm)
    simpa using this)
  have hargs0 : ∀ (W' : World), Below W.heap.size W W' → DataW.Trod enc Tryz.prog W' 0 (fun b => decide (b < W.heap.size)) true 26 (.agg (nC n lv)) d0 p :=
    fun W' hn => Below.trod Tryz.laidOut (by kernel_rfl) (of_decide_eq_true (by kernel_rfl)) h0 hn hlt0
  have e1 : Rows.noticeWriteSpec.fn H ([d0] ++ []) = { results := [.lit (.bool true)], args := [d0] } := by simp [Rows.noticeWriteSpec]
  refine (noticeWrite_law n lv ls W hn hq1 ha1 hrl hlo hll (hide hE) (hide hD) (hide hO)).mono fun e W' ⟨he, hw⟩ => ?_
  subst he
  refine ⟨_, rfl, _, _, _, [], p, [], hW', ?_, ?_, ?_, hw.frame _, fun h => by cases h⟩
  · rw [e1]; exact trodAll_mk1 (shut_bool Tryz.underlying4 true)
  · rw [e1]; exact trodAll_mk1 (hargs0 _ hw)
  · rw [e1]; rfl

theorem noticeWrite_holds : Rows.NoticeWriteSaid :=
  OpenClaim.holds_of_wide 3 Tryz.f3 rfl rfl rfl rfl rfl rfl rfl ⟨rfl, rfl, rfl, rfl, rfl⟩ rfl rfl rfl rfl rfl (by kernel_rfl) Tryz.func3 (by kernel_rfl)
    (of_decide_eq_true (by kernel_rfl)) (by unfold Func.isWrapper; rw [if_neg (of_decide_eq_false (by kernel_rfl))]; exact ⟨rfl, rfl⟩)
    (fun os started H enc _ => noticeWrite_lifted os started H enc)

theorem noticeWrite_card : Rows.NoticeWriteCardSaid :=
  Claim7.holds_tied_plain_at .later [] [.data, .data, .data, .data, .data, .handle, .sentinel, .sentinel, .data, .data] true (true, Rows.noticeWriteCard.stood.harness.2) true
    noticeWrite_holds (fun _ h => by cases h) (by kernel_rfl) (fun _ h => by cases h) noticeWrite_row_tie rfl ⟨rfl, rfl⟩ (by kernel_rfl) rfl
    (fun f fn hf hfn => by
      obtain rfl : f = 3 := Option.some.inj ((show Tryz.prog.funcNamed Rows.noticeWriteRow.func = some 3 by kernel_rfl).symm.trans hf) |>.symm
      obtain rfl : fn = Tryz.f3 := (Option.some.inj (Tryz.func3.symm.trans hfn)).symm
      exact ⟨by kernel_rfl, fun j t ht => by
        rw [Tryz.params3] at ht
        have hm : t ∈ [26] := by simpa using Array.mem_of_getElem? ht
        have hall : ([26].all fun u => !Tryz.prog.wantsStandIn u) = true := by kernel_rfl
        exact (show Tryz.prog.wantsStandIn t = false by simpa using List.all_eq_true.1 hall t hm)⟩)
    (by kernel_rfl)
#print axioms noticeWrite_card
end Go.Proofs.YtbaideeiljeamaaGreatDoor
