/-
  My own text: the law on the hash of a key: its row, its card.
-/
import Derived.Test.YtoamfpjchejngaaDoorSM5
import Derived.Test.YtoamfpjchejngaaDoorRow
import Derived.SizedLaws
import Derived.Stop.LaidErr
namespace Go.Proofs.YtoamfpjchejngaaDoor
open Go.ChangeShapes Go.WideShapes Go.ChangeAt Go.RowKit

section
variable {H : Type} {enc : TypeId × Value → H} {P : Program} {w : World} {base : Nat} {spare : Nat → Bool} {held : Bool}
theorem recField {t : TypeId} {cs : List Value} {v : Value} {n : Nat} {x : DataW H × List MemPlace} (ht : P.underlying t = some (.int .i64)) (h : DataW.trod enc P w base spare held n t cs = some x) (hc : cs = [v]) :
    ∃ a, v = .int .i64 a ∧ x = (.lit (.int .i64 a), []) ∧ (Lit.int .i64 a).wf = true := by
  obtain ⟨a, e, hx, hw⟩ := DataW.trod_int ht h
  rw [hc] at e
  exact ⟨a, by simpa using e, hx, hw⟩
theorem open_rec2 {r : Reach} {b0 : Nat} {t : TypeId} {f0 f1 : Field} {v : Value} {d : DataW H} {p : List MemPlace} (hs : P.underlying t = some (.struct #[f0, f1])) (t0 : P.underlying f0.type = some (.int .i64)) (o0 : f0.offset = 0) (k0 : P.cellsOf f0.type = 1) (t1 : P.underlying f1.type = some (.int .i64)) (o1 : f1.offset = 1) (k1 : P.cellsOf f1.type = 1) (hC : P.cellsOf t = 2)
    (hv : Value.okWide P w r b0 t v) (h : DataW.Trod enc P w base spare held t v d p) :
    ∃ a0 a1, v = .agg #[.int .i64 a0, .int .i64 a1] ∧ d = .agg [.lit (.int .i64 a0), .lit (.int .i64 a1)] ∧ p = [] ∧ (Lit.int .i64 a0).wf = true ∧ (Lit.int .i64 a1).wf = true := by
  obtain ⟨cs, rfl, hsz⟩ := okWide_struct hs hv
  rw [hC] at hsz
  obtain ⟨l⟩ := cs
  match l, hsz with
  | [c0, c1], _ =>
    obtain ⟨fuel, hf⟩ := h
    obtain ⟨xs, n, _, hx, _, hlen, hall⟩ := DataW.trod_struct hs hf
    match xs, hlen with
    | [x0, x1], _ =>
      obtain ⟨a0, e0, y0, w0⟩ := recField (v := c0) (x := x0) t0 (by simpa using hall 0 f0 rfl) (by rw [o0, k0]; rfl)
      obtain ⟨a1, e1, y1, w1⟩ := recField (v := c1) (x := x1) t1 (by simpa using hall 1 f1 rfl) (by rw [o1, k1]; rfl)
      subst e0 y0 e1 y1
      simp only [Prod.mk.injEq] at hx
      exact ⟨a0, a1, rfl, hx.1, hx.2, w0, w1⟩
theorem shut_rec2 {t : TypeId} {f0 f1 : Field} {a0 a1 : Int} (hs : P.underlying t = some (.struct #[f0, f1])) (t0 : P.underlying f0.type = some (.int .i64)) (o0 : f0.offset = 0) (k0 : P.cellsOf f0.type = 1) (t1 : P.underlying f1.type = some (.int .i64)) (o1 : f1.offset = 1) (k1 : P.cellsOf f1.type = 1) (hC : P.cellsOf t = 2)
    (w0 : (Lit.int .i64 a0).wf = true) (w1 : (Lit.int .i64 a1).wf = true) : DataW.Trod enc P w base spare held t (.agg #[.int .i64 a0, .int .i64 a1]) (.agg [.lit (.int .i64 a0), .lit (.int .i64 a1)]) [] := by
  refine ⟨2, ?_⟩
  have ts := trod_struct_mk (enc := enc) (w := w) (base := base) (spare := spare) (held := held) (n := 1) (cs := [.int .i64 a0, .int .i64 a1]) (xs := [(.lit (.int .i64 a0), []), (.lit (.int .i64 a1), [])]) hs (by rw [hC]; rfl)
    (by simp [o0, k0, o1, k1, trod_int_mk 0 t0 w0, trod_int_mk 0 t1 w1])
  exact ts
end
theorem Tryd.cellsI2 : Tryd.prog.cellsOf 3 = 1 := by kernel_rfl
theorem Tryd.cellsK2 : Tryd.prog.cellsOf 23 = 2 := by kernel_rfl
set_option maxRecDepth 100000 in
theorem storeHash_lifted (os : Os) (started : os.Started) (H : Type) (enc : TypeId × Value → H) :
    ReturnsInHanded {} Tryd.checked os 3 .any (fun w args => (Rows.storeHashSpec.pre enc Tryd.prog Tryd.f3 [] false w args ∧ laidMetH Tryd.prog laidE w) ∧ sizedMet enc Tryd.prog Tryd.f3 (OpenSpec.ofChange Rows.storeHashSpec) false w args)
      (Rows.storeHashSpec.post enc Tryd.prog Tryd.f3 false true false false) := by
  refine returnsInHanded_of_change_and (C := Tryd.checked) (X := fun w _ => laidMetH Tryd.prog laidE w) (fun _ _ _ hh h => h.of_heap hh) Tryd.own started (by kernel_rfl) Tryd.func3
    (ChangeSpec.witness_shaped (enc := enc) (C := Tryd.checked) (os := os) (X := fun w _ => laidMetH Tryd.prog laidE w) false (World.doorLaid Tryd.prog 400 os) #[.agg #[.int .i64 0, .int .i64 0], .int .i64 0] 8 rfl (World.shaped_of_RefB (by kernel_rfl) (by kernel_rfl)) (by kernel_rfl) (by kernel_rfl) (by kernel_rfl) (door_met os _)) ?_
  intro W base args ds gs before hval0 hW _ hsz0 hL _
  have hsz : (DataW.weightsEach Tryd.prog (Tryd.f3.params.toList ++ Rows.storeHashSpec.plain.varTypes Tryd.prog) (ds ++ gs)).all (· ≤ reachBytes) = true := hsz0
  clear hsz0
  have hval : ∀ (j : Nat) t v, Tryd.f3.params[j]? = some t → args[j]? = some v → Value.okWide Tryd.prog W .any base t v := hval0
  have hW' := hW
  obtain ⟨p, q, hA0, hV, rfl, hfz, hnd⟩ := hW
  have hA : DataW.TrodAll enc Tryd.prog W 0 (fun _ => true) true Tryd.f3.params.toList args.toList ds p := hA0
  rw [Tryd.params3] at hA hval hsz
  obtain ⟨v0, v1, d0, d1, p0, p1, rfl, rfl, rfl, h0, h1⟩ := trodAll_two hA
  obtain ⟨rfl, rfl⟩ := trodVars_none hV
  clear hA0 hval0
  have hE := errType_of_laid hL
  obtain ⟨a, b, rfl, rfl, rfl, ha, hb⟩ := open_rec2 Tryd.underlying23 Tryd.underlying3 rfl Tryd.cellsI2 Tryd.underlying3 rfl Tryd.cellsI2 Tryd.cellsK2 (hval 0 23 v0 rfl rfl) h0
  obtain ⟨n, rfl, rfl, rfl, hn⟩ := open_int Tryd.underlying3 (hval 1 3 v1 rfl rfl) h1
  have e1 : Rows.storeHashSpec.fn H ([.agg [.lit (.int .i64 a), .lit (.int .i64 b)], .lit (.int .i64 n)] ++ []) = { results := [.lit (.bool true)], args := [.agg [.lit (.int .i64 a), .lit (.int .i64 b)], .lit (.int .i64 n)] } := by simp [Rows.storeHashSpec]
  refine (storeHash_law a b n W (hide hE)).mono fun e W' ⟨he, hw⟩ => ?_
  subst he
  refine ⟨_, rfl, _, _, _, [], [], [], hW', ?_, ?_, ?_, hw.frame _, fun h => by cases h⟩
  · rw [e1]; exact trodAll_mk1 (shut_bool Tryd.underlying4 true)
  · rw [e1]; exact trodAll_mk2 (shut_rec2 Tryd.underlying23 Tryd.underlying3 rfl Tryd.cellsI2 Tryd.underlying3 rfl Tryd.cellsI2 Tryd.cellsK2 ha hb) (shut_int Tryd.underlying3 hn)
  · rw [e1]; rfl

theorem storeHash_holds : Rows.StoreHashSaid :=
  OpenClaim.holds_of_wide 3 Tryd.f3 rfl rfl rfl rfl rfl rfl rfl ⟨rfl, rfl, rfl, rfl, rfl⟩ rfl rfl rfl rfl rfl (by kernel_rfl) Tryd.func3 (by kernel_rfl)
    (of_decide_eq_true (by kernel_rfl)) (by unfold Func.isWrapper; rw [if_neg (of_decide_eq_false (by kernel_rfl))]; exact ⟨rfl, rfl⟩)
    (fun os started H enc _ => storeHash_lifted os started H enc)

theorem storeHash_card : Rows.StoreHashCardSaid :=
  Claim7.holds_tied_plain_at .later [] [.handle] true (true, Rows.storeHashCard.stood.harness.2) true
    storeHash_holds (fun _ h => by cases h) (by kernel_rfl) (fun _ h => by cases h) storeHash_row_tie rfl ⟨rfl, rfl⟩ (by kernel_rfl) rfl
    (fun f fn hf hfn => by
      obtain rfl : f = 3 := Option.some.inj ((show Tryd.prog.funcNamed Rows.storeHashRow.func = some 3 by kernel_rfl).symm.trans hf) |>.symm
      obtain rfl : fn = Tryd.f3 := (Option.some.inj (Tryd.func3.symm.trans hfn)).symm
      exact ⟨by kernel_rfl, fun j t ht => by
        rw [Tryd.params3] at ht
        have hm : t ∈ [23, 3] := by simpa using Array.mem_of_getElem? ht
        have hall : ([23, 3].all fun u => !Tryd.prog.wantsStandIn u) = true := by kernel_rfl
        exact (show Tryd.prog.wantsStandIn t = false by simpa using List.all_eq_true.1 hall t hm)⟩)
    (by kernel_rfl)
#print axioms storeHash_card
end Go.Proofs.YtoamfpjchejngaaDoor
