/-
  My own text: NP7, NP8, NP9 in one.
-/
import Derived.Test.YtbaideeiljeamaaGreatDoorNM3
import Derived.Deep.MidRow
namespace Go.Proofs.YtbaideeiljeamaaGreatDoor
open Go.RowKit

theorem Tryz.sizePl : (Tryz.prog.info? 74).map (·.size) = some 8 := by kernel_rfl
/-- What a call of a place's write answers. -/
def WrA (W : World) (t : TG.Tr) (e : Ending) (w' : World) : Prop := ∃ ka kc, e = .returned (.agg (TG.iC t.itm (.slice ka t.kids.length kc))) ∧ TG.PA w' (fun x => W.heap.size ≤ x ∧ x < w'.heap.size) (.slice ka t.kids.length kc) t.kids ∧ Below W.heap.size W w'
/-- A place, and what it writes. -/
def PlOk (w : World) (g : Nat) (n : Ntc) (la : Option Addr) (ln lc : Nat) (pv : Array Value) (out : List TG.Tr) : Prop :=
  pv.size = 8 ∧ pv.all (·.oneCell') = true ∧
  ((pv[7]? = some (.bool false) ∧ ∃ th : Bool, (∀ W : World, Below w.heap.size w W → Calls Tryz.prog 37 #[.agg pv, .pointer (some ⟨g, 0, none⟩)] W fun e w' => e = .returned (.bool th) ∧ Below W.heap.size W w') ∧
      ((th = false ∧ out = []) ∨ (th = true ∧ ∃ t, out = [t] ∧ ∀ W : World, Below w.heap.size w W → Calls Tryz.prog 36 #[.agg pv, .pointer (some ⟨g, 0, none⟩)] W (WrA W t)))) ∨
   (pv[7]? = some (.bool true) ∧ out.length = ln ∧ ∀ (m : Nat) (t : TG.Tr), out[m]? = some t → ∀ (W : World) (g' : Nat), Below w.heap.size w W → Bx W g' n (.slice la (m + 1) lc) → Calls Tryz.prog 36 #[.agg pv, .pointer (some ⟨g', 0, none⟩)] W (WrA W t)))
theorem setRow1 (w : World) (c c' : Array Value) (t : TypeId) : (w.alloc (.cells c t)).setRow w.heap.size c' = w.alloc (.cells c' t) := by
  exact World.setRow_alloc_new w c c' t
theorem flat_take {α : Type} {L : List (List α)} {k : Nat} {o : List α} (h : L[k]? = some o) : (L.take (k + 1)).flatten = (L.take k).flatten ++ o := by
  rw [List.take_add_one, h]; simp
theorem flat_take_len {α : Type} (L : List (List α)) (k : Nat) : ((L.take k).flatten).length ≤ L.flatten.length := by
  have := congrArg List.length (congrArg List.flatten (List.take_append_drop k L))
  rw [List.flatten_append, List.length_append] at this; omega
set_option maxRecDepth 100000 in
set_option maxHeartbeats 4000000 in
theorem nwrite_any (pvs : List (Array Value)) (outs : List (List TG.Tr)) (b c g : Nat) (n : Ntc) (la : Option Addr) (ln lc : Nat) (w : World) (hn : NOk n) (hX : Bx w g n (.slice la ln lc)) (hlen : outs.length = pvs.length) (hbl : b < w.heap.size) (hrow : ∀ (k : Nat) (pv : Array Value), pvs[k]? = some pv → w.rangeAt b (k * 8) pv.toList)
    (hok : ∀ (k : Nat) (pv : Array Value) (out : List TG.Tr), pvs[k]? = some pv → outs[k]? = some out → PlOk w g n la ln lc pv out) (hsz : pvs.length ≤ 100) (hln : ln ≤ 100) (hlc : ln ≤ lc) (hla : 0 < ln → ∃ lb lo, la = some ⟨lb, lo, none⟩) (hfl : outs.flatten.length ≤ 900) :
    Calls Tryz.prog 15 #[.slice (some ⟨b, 0, none⟩) pvs.length c, .pointer (some ⟨g, 0, none⟩)] w fun e w' => ∃ ka kc, e = .returned (.slice ka outs.flatten.length kc) ∧ TG.PA w' (fun x => w.heap.size ≤ x ∧ x < w'.heap.size) (.slice ka outs.flatten.length kc) outs.flatten ∧ Below w.heap.size w w' := by
  have HX := hide hX
  have HN := hide hn
  have HR := hide hrow
  have HO := hide hok
  have HLN := hide hlen
  have HFL := hide hfl
  clear hX hn hrow hok hlen hfl
  go_enter Tryz.func15, Tryz.ntmps15
  go_wp2_with fail
  go_loopw [5, 12] (fun v i wr => ∃ (k : Nat) (V : List Value) (a : Option Addr) (m cap : Nat), k ≤ pvs.length ∧ i = .int .i64 k ∧ v = .slice a m cap ∧ Hid (TG.IWA wr w.heap.size (.slice a m cap) (outs.take k).flatten V) ∧ Hid (Below w.heap.size w wr)) (fun _ i _ => pvs.length - (intOf i).toNat)
  case atStart => exact ⟨0, [], none, 0, 0, Nat.zero_le _, rfl, rfl, hide (TG.IWA.nil w _), hide (Below.refl _ _)⟩
  case round =>
    obtain ⟨k, V, a, m, cap, hk, rfl, rfl, HI, HB⟩ := hrel
    by_cases hlt : k < pvs.length
    · have hd1 : decide ((k : Int) < (pvs.length : Int)) = true := by rw [decide_eq_true_eq]; omega
      obtain ⟨pv, hpv⟩ : ∃ pv, pvs[k]? = some pv := ⟨_, List.getElem?_eq_getElem hlt⟩
      obtain ⟨out, hout⟩ : ∃ out, outs[k]? = some out := ⟨_, List.getElem?_eq_getElem (by rw [HLN.out]; exact hlt)⟩
      obtain ⟨p8, p1, hcase⟩ := HO.out k pv out hpv hout
      have HPV : Hid (wr.rangeAt b (k * 8) pv.toList) := hide (fun j u hj => (HB.out.cell (p := ⟨b, k * 8 + j, none⟩) hbl).trans (HR.out k pv hpv j u hj))
      have HFT := hide (flat_take hout)
      have k0 : (0 : Int) ≤ (k : Int) := by omega
      have k1 : (k : Int) < (pvs.length : Int) := by omega
      have HZB := hide ((Below.refl wr.heap.size wr).alloc (Nat.le_refl _) (.cells pv 74))
      have HZK : Hid ((wr.alloc (.cells pv 74)).heap[wr.heap.size]? = some (.cells pv 74 (0, 0))) := hide (LC.alloc_new wr _)
      have HSP : Hid ((Tryz.prog.info? 74).map (·.size) = some pv.size) := by show _ = _; rw [p8]; exact Tryz.sizePl
      rcases hcase with ⟨h7, th, HBe, hth⟩ | ⟨h7, hol, HLk⟩
      · have e7 : pv[7]'(by omega) = .bool false := by
          rw [Array.getElem?_eq_getElem (by omega)] at h7
          exact Option.some.inj h7
        have HBE := hide HBe
        have HTH := hide hth
        clear HBe hth h7
        go_wp2_with (first
          | (refine wpList_load_mid rfl 74 (.tmp 14) rfl b (k * 8) rfl pv.toList _ HPV.out Tryz.underlying74 rfl (by rw [Array.length_toList]; exact HSP.out) ?_; rw [Array.toArray_toList])
          | (refine wpList_store_row rfl 74 (.tmp 7) (.tmp 15) rfl wr.heap.size pv rfl rfl _ _ (LC.alloc_new wr _) HSP.out (by rw [p8]; rfl) p1 ?_; rw [setRow1])
          | (refine wpList_load_row rfl 74 (.tmp 7) rfl wr.heap.size rfl _ pv _ _ HZK.out Tryz.underlying74 rfl HSP.out ?_))
        have HB1 := hide (HB.out.trans (HZB.out.mono HB.out.size))
        have HI1 := hide (HI.out.later HZB.out)
        refine (HBE.out _ HB1.out).mono ?_
        rintro e w2 ⟨rfl, hb2⟩
        have HB2 := hide (HB1.out.trans (hb2.mono HB1.out.size))
        have HI2 := hide (HI1.out.later hb2)
        have HZ2 := hide ((hb2.block wr.heap.size (Array.getElem?_eq_some_iff.1 HZK.out).1).trans HZK.out)
        clear hb2 HBE HB HI HZB HZK HB1 HI1
        rcases HTH.out with ⟨rfl, ho⟩ | ⟨rfl, t, ho, hWr⟩
        · clear HTH
          go_wp2_with fail
          go_roundw
          case rel => exact ⟨k + 1, V, a, m, cap, by omega, by go_num, rfl, hide (by rw [HFT.out, ho, List.append_nil]; exact HI2.out), HB2⟩
          case measure => simp [intOf]; omega
        · have HWR := hide hWr
          clear HTH hWr
          go_wp2_with (refine wpList_load_row rfl 74 (.tmp 7) rfl wr.heap.size rfl _ pv _ _ HZ2.out Tryz.underlying74 rfl HSP.out ?_)
          refine (HWR.out w2 HB2.out).mono ?_
          rintro e w3 ⟨ka, kc, rfl, hpa, hb3⟩
          have HPA := hide hpa
          have HB3 := hide hb3
          have hfl := flat_take_len outs k
          have h9 := HFL.out
          clear hpa hb3 HWR
          dsimp only [TG.iC]
          go_wp2_with (at_builtin; refine wp_push w2 w3 w.heap.size _ _ V t.itm ka kc t.kids rfl _ _ rfl rfl rfl HI2.out HB3.out HB2.out.size HPA.out (by omega) ?_)
          intro v4 w4 hI4 hB4 _
          have HI4 := hide hI4
          have HB4 := hide (HB2.out.trans hB4)
          obtain ⟨a4, c4, rfl⟩ : ∃ a4 c4, v4 = .slice a4 ((outs.take k).flatten ++ [TG.Tr.mk t.itm t.kids]).length c4 := by
            obtain ⟨x, y, hxy, _⟩ := TG.PT_rt _ _ _ (Nat.le_refl _) hI4.iw.done
            exact ⟨x, y, hxy⟩
          clear hI4 hB4 HPA HB3 HI2 HB2 HZ2
          go_wp2_with fail
          go_roundw
          case rel => exact ⟨k + 1, V ++ [.slice ka t.kids.length kc], a4, _, c4, by omega, by go_num, rfl, hide (by rw [HFT.out, ho]; cases t; exact HI4.out), HB4⟩
          case measure => simp [intOf]; omega
      · have e7 : pv[7]'(by omega) = .bool true := by
          rw [Array.getElem?_eq_getElem (by omega)] at h7
          exact Option.some.inj h7
        have HLK := hide HLk
        have HOL := hide hol
        clear HLk h7 hol
        have HX1 := hide ((HX.out.later HB.out).later HZB.out)
        have c26 := HX1.out.links HN.out.code
        go_wp2_with (first
          | (refine wpList_load_mid rfl 74 (.tmp 14) rfl b (k * 8) rfl pv.toList _ HPV.out Tryz.underlying74 rfl (by rw [Array.length_toList]; exact HSP.out) ?_; rw [Array.toArray_toList])
          | (refine wpList_store_row rfl 74 (.tmp 7) (.tmp 15) rfl wr.heap.size pv rfl rfl _ _ (LC.alloc_new wr _) HSP.out (by rw [p8]; rfl) p1 ?_; rw [setRow1]))
        clear c26
        have HB1 := hide (HB.out.trans (HZB.out.mono HB.out.size))
        have HI1 : Hid (TG.IWA (wr.alloc (.cells pv 74)) w.heap.size (.slice a m cap) ((outs.take k).flatten ++ out.take 0) V) := hide (by rw [List.take_zero, List.append_nil]; exact HI.out.later HZB.out)
        obtain ⟨BX, hBX⟩ : ∃ BX, BX = wr.heap.size := ⟨_, rfl⟩
        rw [← hBX] at HZK ⊢
        go_loopw [5, 24] (fun v i wr => ∃ (j : Nat) (V : List Value) (a : Option Addr) (m cap : Nat), j ≤ ln ∧ i = .int .i64 j ∧ v = .slice a m cap ∧ Hid (TG.IWA wr w.heap.size (.slice a m cap) ((outs.take k).flatten ++ out.take j) V) ∧ Hid (Below w.heap.size w wr) ∧ Hid (wr.heap[BX]? = some (.cells pv 74 (0, 0)))) (fun _ i _ => ln - (intOf i).toNat)
        case atStart => exact ⟨0, V, a, m, cap, Nat.zero_le _, rfl, rfl, HI1, HB1, HZK⟩
        case round =>
          clear HI HB HB1 HI1 HZB HZK HPV hBX HX1
          obtain ⟨j, V, a, m, cap, hj, rfl, rfl, HI, HB, HZK⟩ := hrel
          by_cases hjl : j < ln
          · have hd2 : decide ((j : Int) < (ln : Int)) = true := by rw [decide_eq_true_eq]; omega
            obtain ⟨lb, lo, rfl⟩ := hla (by omega)
            obtain ⟨t, ht⟩ : ∃ t, out[j]? = some t := ⟨_, List.getElem?_eq_getElem (by rw [HOL.out]; exact hjl)⟩
            have HWR := hide (HLK.out j t ht)
            have HTK : Hid (out.take (j + 1) = out.take j ++ [t]) := hide (by rw [List.take_add_one, ht]; rfl)
            have HXr := hide (HX.out.later HB.out)
            have HSZ : Hid ((Tryz.prog.info? 26).map (·.size) = some (nC n (.slice (some ⟨lb, lo, none⟩) ln lc)).size) := by show _ = _; rw [nC_size n _ HN.out.code]; exact Tryz.sizeNtc
            have HUB := hide ((Below.refl wr.heap.size wr).alloc (Nat.le_refl _) (.cells (nC n (.slice (some ⟨lb, lo, none⟩) ln lc)) 26))
            have HUX := hide (Bx.new wr n (.slice (some ⟨lb, lo, none⟩) ln lc))
            have c26 := cell_later HUB.out (HXr.out.links HN.out.code)
            have f26 := frozen_blk HUX.out 26
            have u26 := HUX.out.links HN.out.code
            have w1 : wrap64 ((j : Int) + 1) = (j : Int) + 1 := by unfold wrap64; omega
            have b1 : (0 : Int) ≤ (j : Int) + 1 := by omega
            have b2 : (j : Int) + 1 ≤ (lc : Int) := by omega
            have hnC : (nC n (.slice (some ⟨lb, lo, none⟩) ln lc)).setIfInBounds 26 (.slice (some ⟨lb, lo, none⟩) (j + 1) lc) = nC n (.slice (some ⟨lb, lo, none⟩) (j + 1) lc) := nC_set n _ _ HN.out.code
            have HUB2 := hide ((Below.refl wr.heap.size wr).alloc (Nat.le_refl _) (.cells (nC n (.slice (some ⟨lb, lo, none⟩) (j + 1) lc)) 26))
            have HUX2 := hide (Bx.new wr n (.slice (some ⟨lb, lo, none⟩) (j + 1) lc))
            have HZ2 := hide ((HUB2.out.block BX (Array.getElem?_eq_some_iff.1 HZK.out).1).trans HZK.out)
            have HB2 := hide (HB.out.trans (HUB2.out.mono HB.out.size))
            go_wp2_with (first
              | (refine wpList_load_row rfl 26 (.tmp 28) rfl g rfl _ (nC n (.slice (some ⟨lb, lo, none⟩) ln lc)) _ _ HXr.out Tryz.underlying26 rfl HSZ.out ?_)
              | (refine wpList_store_row rfl 26 (.tmp 9) (.tmp 29) rfl wr.heap.size (nC n (.slice (some ⟨lb, lo, none⟩) ln lc)) rfl rfl _ _ (LC.alloc_new wr _) HSZ.out (by rw [nC_size n _ HN.out.code]; rfl) (nC_one n _ rfl) ?_; rw [setRow1])
              | (refine wpList_load_row rfl 74 (.tmp 7) rfl BX rfl _ pv _ _ HZ2.out Tryz.underlying74 rfl HSP.out ?_))
            have HI2 := hide (HI.out.later HUB2.out)
            clear c26 f26 u26 HUB HUX HXr hnC
            generalize wr.alloc (.cells (nC n (.slice (some ⟨lb, lo, none⟩) (j + 1) lc)) 26) = w2 at *
            refine (HWR.out w2 wr.heap.size HB2.out HUX2.out).mono ?_
            rintro e w3 ⟨ka, kc, rfl, hpa, hb3⟩
            have HPA := hide hpa
            have HB3 := hide hb3
            have hfl := flat_take_len outs (k + 1)
            have h9 := HFL.out
            have hft := congrArg List.length HFT.out
            have htl : (out.take j).length ≤ out.length := by rw [List.length_take]; omega
            rw [List.length_append] at hft
            clear hpa hb3 HWR
            dsimp only [TG.iC]
            go_wp2_with (at_builtin; refine wp_push w2 w3 w.heap.size _ _ V t.itm ka kc t.kids rfl _ _ rfl rfl rfl HI2.out HB3.out HB2.out.size HPA.out (by rw [List.length_append]; omega) ?_)
            intro v4 w4 hI4 hB4 hO4
            have HI4 := hide hI4
            have HB4 := hide (HB2.out.trans hB4)
            have HZ4 := hide ((hO4 BX (Array.getElem?_eq_some_iff.1 HZ2.out).1 (fun e => by
              rcases HI2.out.iw.row.2 with ⟨hv, _⟩ | ⟨gg, cc, cur, hv, _, hh, _⟩
              · rw [hv] at e; cases e
              · rw [hv] at e
                have e' : gg = BX := Option.some.inj e
                rw [e', HZ2.out] at hh
                injection hh with hh
                injection hh with _ hh _
                exact absurd hh (by decide))).trans HZ2.out)
            obtain ⟨a4, c4, rfl⟩ : ∃ a4 c4, v4 = .slice a4 ((outs.take k).flatten ++ (out.take j ++ [TG.Tr.mk t.itm t.kids])).length c4 := by
              obtain ⟨x, y, hxy, _⟩ := TG.PT_rt _ _ _ (Nat.le_refl _) hI4.iw.done
              exact ⟨x, y, hxy⟩
            clear hI4 hB4 hO4 HPA HB3 HI2 HB2 HZ2 HUB2 HUX2
            go_wp2_with fail
            go_roundw
            case rel => exact ⟨j + 1, V ++ [.slice ka t.kids.length kc], a4, _, c4, by omega, by go_num, rfl, hide (by rw [HTK.out]; cases t; exact HI4.out), HB4, HZ4⟩
            case measure => simp [intOf]; omega
          · have h' : j = ln := by omega
            subst h'
            go_wp2_with fail
            go_roundw
            case rel => exact ⟨k + 1, V, a, m, cap, by omega, by go_num, rfl, hide (by rw [HFT.out]; have := HI.out; rw [show out.take j = out from List.take_of_length_le (by rw [HOL.out]; exact Nat.le_refl _)] at this; exact this), HB⟩
            case measure => simp [intOf]; omega
    · have h' : k = pvs.length := by omega
      subst h'
      have HD := hide (TG.IWA.done HI.out)
      rw [List.take_of_length_le (by rw [HLN.out]; exact Nat.le_refl _)] at HD
      obtain ⟨x, y, hxy, _⟩ := TG.PT_rt _ _ _ (Nat.le_refl _) HD.out.1
      injection hxy with e1 e2 e3
      subst e1 e2 e3
      clear HI
      go_wp2_with fail
      go_ret
      exact ⟨_, _, rfl, HD.out, HB.out⟩
end Go.Proofs.YtbaideeiljeamaaGreatDoor
namespace Go.Proofs.YtbaideeiljeamaaGreatDoor
open Go.RowKit

theorem eqNil_t (W : World) : (binOp .eql 72 .nilFunc .nilFunc).run Tryz.prog W = .ok (.bool true) W := by kernel_rfl
theorem eqNil_f (fn : Fn) (a b : Array Value) (W : World) : (binOp .eql 72 (.func fn a b) .nilFunc).run Tryz.prog W = .ok (.bool false) W := by kernel_rfl
theorem Tryz.sizeForm : (Tryz.prog.info? 71).map (·.size) = some 2 := by kernel_rfl
set_option maxRecDepth 100000 in
set_option maxHeartbeats 1000000 in
theorem belongsAll_any (c0 c1 c2 c3 c4 c5 c7 : Value) (g : Nat) (w : World) :
    Calls Tryz.prog 37 #[.agg #[c0, c1, c2, c3, c4, c5, .nilFunc, c7], .pointer (some ⟨g, 0, none⟩)] w fun e w' => e = .returned (.bool true) ∧ Below w.heap.size w w' := by
  have B0 := hide ((Below.refl w.heap.size w).alloc (Nat.le_refl _) (.cells #[c0, c1, c2, c3, c4, c5, .nilFunc, c7] 74))
  have qt := eqNil_t
  have qf := eqNil_f
  go_enter Tryz.func37, Tryz.ntmps37
  go_wp2_with fail
  go_ret
  exact ⟨rfl, B0.out⟩
set_option maxRecDepth 100000 in
set_option maxHeartbeats 1000000 in
theorem belongsIf_any (fid : FuncId) (th : Bool) (c0 c1 c2 c3 c4 c5 c7 : Value) (g : Nat) (w : World) (hE : ∀ (W : World) (a : Array Value), (callFunc fid a).run Tryz.prog W = .ok (.enter fid a) W)
    (hT : ∀ W : World, Below w.heap.size w W → Calls Tryz.prog fid #[.pointer (some ⟨g, 0, none⟩)] W fun e w' => e = .returned (.bool th) ∧ w' = W) :
    Calls Tryz.prog 37 #[.agg #[c0, c1, c2, c3, c4, c5, .func (Fn.func fid) #[] #[], c7], .pointer (some ⟨g, 0, none⟩)] w fun e w' => e = .returned (.bool th) ∧ Below w.heap.size w w' := by
  have B0 := hide ((Below.refl w.heap.size w).alloc (Nat.le_refl _) (.cells #[c0, c1, c2, c3, c4, c5, .func (Fn.func fid) #[] #[], c7] 74))
  have HT := hide hT
  clear hT
  have qt := eqNil_t
  have qf := eqNil_f
  go_enter Tryz.func37, Tryz.ntmps37
  go_wp2_with fail
  refine (HT.out _ B0.out).mono ?_
  rintro e w1 ⟨rfl, hw⟩
  rw [hw]
  go_wp2_with fail
  go_ret
  exact ⟨rfl, B0.out⟩
set_option maxRecDepth 100000 in
set_option maxHeartbeats 1000000 in
theorem anyText_any (fid : FuncId) (w : World) :
    Calls Tryz.prog 38 #[.func (Fn.func fid) #[] #[]] w fun e w' => e = .returned (.agg #[.func (Fn.func 85) #[] #[.pointer (some ⟨w.heap.size, 0, none⟩)], .func (Fn.func 87) #[] #[.pointer (some ⟨w.heap.size, 0, none⟩)]]) ∧ w'.cell? ⟨w.heap.size, 0, none⟩ = some (.func (Fn.func fid) #[] #[]) ∧ Below w.heap.size w w' := by
  have hmf : ∀ (fn : Fn) (first cap : Array Value) (w : World), (Instr.makeFunc fn first cap).run Tryz.prog w = .ok (.func fn first cap) w := fun _ _ _ _ => rfl
  have hk := alloc2_new w (.cells #[.func (Fn.func fid) #[] #[]] 78) (.cells #[.func (Fn.func 85) #[] #[.pointer (some ⟨w.heap.size, 0, none⟩)], .func (Fn.func 87) #[] #[.pointer (some ⟨w.heap.size, 0, none⟩)]] 71)
  have hc : ((w.alloc (.cells #[.func (Fn.func fid) #[] #[]] 78)).alloc (.cells #[.func (Fn.func 85) #[] #[.pointer (some ⟨w.heap.size, 0, none⟩)], .func (Fn.func 87) #[] #[.pointer (some ⟨w.heap.size, 0, none⟩)]] 71)).cell? ⟨w.heap.size, 0, none⟩ = some (.func (Fn.func fid) #[] #[]) := by simp
  have HB := hide (bx2 w (.cells #[.func (Fn.func fid) #[] #[]] 78) (.cells #[.func (Fn.func 85) #[] #[.pointer (some ⟨w.heap.size, 0, none⟩)], .func (Fn.func 87) #[] #[.pointer (some ⟨w.heap.size, 0, none⟩)]] 71))
  have hld := run_loadVar_row (P := Tryz.prog) _ (w.heap.size + 1) 71 71 #[.func (Fn.func 85) #[] #[.pointer (some ⟨w.heap.size, 0, none⟩)], .func (Fn.func 87) #[] #[.pointer (some ⟨w.heap.size, 0, none⟩)]] (0, 0) _ hk Tryz.underlying71 rfl Tryz.sizeForm
  have HC := hide hc
  have HL := hide hld
  clear hk hc hld
  go_enter Tryz.func38, Tryz.ntmps38
  go_wp2_with (refine wpList_store_row rfl 71 (.tmp 2) (.tmp 5) rfl (w.heap.size + 1) #[.func (Fn.func 85) #[] #[.pointer (some ⟨w.heap.size, 0, none⟩)], .func (Fn.func 87) #[] #[.pointer (some ⟨w.heap.size, 0, none⟩)]] rfl rfl _ _ (alloc2_new w _ _) Tryz.sizeForm rfl (by simp [Value.oneCell']) ?_; rw [setRow2])
  refine bodyPost_ret (v := .agg #[.func (Fn.func 85) #[] #[.pointer (some ⟨w.heap.size, 0, none⟩)], .func (Fn.func 87) #[] #[.pointer (some ⟨w.heap.size, 0, none⟩)]]) ?_ rfl ⟨rfl, HC.out, HB.out⟩
  rw [results_cell1 rfl]
  exact HL.out
set_option maxRecDepth 100000 in
set_option maxHeartbeats 1000000 in
theorem dateForm_any (fid : FuncId) (w : World) :
    Calls Tryz.prog 50 #[.func (Fn.func fid) #[] #[]] w fun e w' => e = .returned (.agg #[.func (Fn.func 88) #[] #[.pointer (some ⟨w.heap.size, 0, none⟩)], .func (Fn.func 91) #[] #[.pointer (some ⟨w.heap.size, 0, none⟩)]]) ∧ w'.cell? ⟨w.heap.size, 0, none⟩ = some (.func (Fn.func fid) #[] #[]) ∧ Below w.heap.size w w' := by
  have hmf : ∀ (fn : Fn) (first cap : Array Value) (w : World), (Instr.makeFunc fn first cap).run Tryz.prog w = .ok (.func fn first cap) w := fun _ _ _ _ => rfl
  have hk := alloc2_new w (.cells #[.func (Fn.func fid) #[] #[]] 83) (.cells #[.func (Fn.func 88) #[] #[.pointer (some ⟨w.heap.size, 0, none⟩)], .func (Fn.func 91) #[] #[.pointer (some ⟨w.heap.size, 0, none⟩)]] 71)
  have hc : ((w.alloc (.cells #[.func (Fn.func fid) #[] #[]] 83)).alloc (.cells #[.func (Fn.func 88) #[] #[.pointer (some ⟨w.heap.size, 0, none⟩)], .func (Fn.func 91) #[] #[.pointer (some ⟨w.heap.size, 0, none⟩)]] 71)).cell? ⟨w.heap.size, 0, none⟩ = some (.func (Fn.func fid) #[] #[]) := by simp
  have HB := hide (bx2 w (.cells #[.func (Fn.func fid) #[] #[]] 83) (.cells #[.func (Fn.func 88) #[] #[.pointer (some ⟨w.heap.size, 0, none⟩)], .func (Fn.func 91) #[] #[.pointer (some ⟨w.heap.size, 0, none⟩)]] 71))
  have hld := run_loadVar_row (P := Tryz.prog) _ (w.heap.size + 1) 71 71 #[.func (Fn.func 88) #[] #[.pointer (some ⟨w.heap.size, 0, none⟩)], .func (Fn.func 91) #[] #[.pointer (some ⟨w.heap.size, 0, none⟩)]] (0, 0) _ hk Tryz.underlying71 rfl Tryz.sizeForm
  have HC := hide hc
  have HL := hide hld
  clear hk hc hld
  go_enter Tryz.func50, Tryz.ntmps50
  go_wp2_with (refine wpList_store_row rfl 71 (.tmp 2) (.tmp 5) rfl (w.heap.size + 1) #[.func (Fn.func 88) #[] #[.pointer (some ⟨w.heap.size, 0, none⟩)], .func (Fn.func 91) #[] #[.pointer (some ⟨w.heap.size, 0, none⟩)]] rfl rfl _ _ (alloc2_new w _ _) Tryz.sizeForm rfl (by simp [Value.oneCell']) ?_; rw [setRow2])
  refine bodyPost_ret (v := .agg #[.func (Fn.func 88) #[] #[.pointer (some ⟨w.heap.size, 0, none⟩)], .func (Fn.func 91) #[] #[.pointer (some ⟨w.heap.size, 0, none⟩)]]) ?_ rfl ⟨rfl, HC.out, HB.out⟩
  rw [results_cell1 rfl]
  exact HL.out
end Go.Proofs.YtbaideeiljeamaaGreatDoor
namespace Go.Proofs.YtbaideeiljeamaaGreatDoor
open Go.RowKit

/-- The cells of a field's place, and of a block's. -/
def fP (tag qual : List UInt8) (tl tk th : Value) : Array Value := #[.string ⟨tag.toArray⟩, .string ⟨qual.toArray⟩, tl, tk, .string ⟨#[]⟩, .slice none 0 0, th, .bool false]
def bP (nm : List UInt8) (v th : Value) (lk : Bool) : Array Value := #[.string ⟨#[]⟩, .string ⟨#[]⟩, .nilFunc, .nilFunc, .string ⟨nm.toArray⟩, v, th, .bool lk]
/-- A row of places. -/
def PR8 (w : World) (b : Nat) (pvs : List (Array Value)) : Prop := b < w.heap.size ∧ ∀ (k : Nat) (pv : Array Value), pvs[k]? = some pv → w.rangeAt b (k * 8) pv.toList
theorem PR8.low {w w' : World} {b : Nat} {pvs : List (Array Value)} (h : PR8 w b pvs) (hb : Below w.heap.size w w') : PR8 w' b pvs :=
  ⟨Nat.lt_of_lt_of_le h.1 hb.size, fun k pv hk j u hj => cell_later hb (h.2 k pv hk j u hj)⟩
def fl8 (pvs : List (Array Value)) : List Value := pvs.flatMap (·.toList)
theorem fl8_at : ∀ (pvs : List (Array Value)) (k : Nat) (pv : Array Value), (∀ p ∈ pvs, p.size = 8) → pvs[k]? = some pv → ∀ (j : Nat) (u : Value), pv.toList[j]? = some u → (fl8 pvs)[k * 8 + j]? = some u
  | p :: r, 0, pv, h8, hk, j, u, hj => by
    obtain rfl : p = pv := Option.some.inj hk
    have hl := (List.getElem?_eq_some_iff.1 hj).1
    simp only [fl8, List.flatMap_cons, Nat.zero_mul, Nat.zero_add]
    rw [List.getElem?_append_left hl]; exact hj
  | p :: r, k + 1, pv, h8, hk, j, u, hj => by
    have h := fl8_at r k pv (fun q hq => h8 q (List.mem_cons_of_mem _ hq)) hk j u hj
    have hp : p.toList.length = 8 := by rw [Array.length_toList]; exact h8 p (List.mem_cons_self ..)
    simp only [fl8, List.flatMap_cons]
    rw [List.getElem?_append_right (by rw [hp]; omega), hp, show (k + 1) * 8 + j - 8 = k * 8 + j by omega]
    exact h
theorem PR8.lit (w : World) (pvs : List (Array Value)) (cs : Array Value) (hc : cs = (fl8 pvs).toArray) (h8 : ∀ p ∈ pvs, p.size = 8) : PR8 (w.alloc (.cells cs 74)) w.heap.size pvs := by
  subst hc
  refine ⟨by simp, fun k pv hk j u hj => ?_⟩
  have hh := (MapKept.heap_alloc w (.cells (fl8 pvs).toArray 74)).1
  unfold World.cell?
  rw [hh]
  simpa using fl8_at pvs k pv h8 hk j u hj
def rowL (c4 : Nat) : List (Array Value) := [fP [50, 50, 70] [76, 73, 78, 75] (.func (Fn.func 46) #[] #[]) (.func (Fn.func 47) #[] #[]) .nilFunc, fP [50, 48, 67] [82, 69, 76, 65] (.func (Fn.func 85) #[] #[.pointer (some ⟨c4, 0, none⟩)]) (.func (Fn.func 87) #[] #[.pointer (some ⟨c4, 0, none⟩)]) .nilFunc]
theorem rowL_8 (c4 : Nat) : ∀ p ∈ rowL c4, p.size = 8 := by
  intro p hp
  simp only [rowL, List.mem_cons, List.not_mem_nil, or_false] at hp
  rcases hp with rfl | rfl <;> rfl
def rowG (c1 c2 bL : Nat) : List (Array Value) := [fP [50, 48, 67] [83, 69, 77, 69] (.func (Fn.func 85) #[] #[.pointer (some ⟨c1, 0, none⟩)]) (.func (Fn.func 87) #[] #[.pointer (some ⟨c1, 0, none⟩)]) .nilFunc, fP [50, 51, 71] [] (.func (Fn.func 40) #[] #[]) (.func (Fn.func 41) #[] #[]) .nilFunc, fP [50, 50, 70] [84, 89, 80, 69] (.func (Fn.func 42) #[] #[]) (.func (Fn.func 43) #[] #[]) .nilFunc, fP [50, 48, 67] [80, 82, 69, 86] (.func (Fn.func 85) #[] #[.pointer (some ⟨c2, 0, none⟩)]) (.func (Fn.func 87) #[] #[.pointer (some ⟨c2, 0, none⟩)]) (.func (Fn.func 45) #[] #[]), bP [76, 73, 78, 75] (.slice (some ⟨bL, 0, none⟩) 2 2) .nilFunc true]
theorem rowG_8 (c1 c2 bL : Nat) : ∀ p ∈ rowG c1 c2 bL, p.size = 8 := by
  intro p hp
  simp only [rowG, List.mem_cons, List.not_mem_nil, or_false] at hp
  rcases hp with rfl | rfl | rfl | rfl | rfl <;> rfl
def rowT (c5 c6 : Nat) : List (Array Value) := [fP [57, 56, 65] [84, 82, 65, 68] (.func (Fn.func 88) #[] #[.pointer (some ⟨c5, 0, none⟩)]) (.func (Fn.func 91) #[] #[.pointer (some ⟨c5, 0, none⟩)]) .nilFunc, fP [57, 56, 65] [83, 69, 84, 84] (.func (Fn.func 88) #[] #[.pointer (some ⟨c6, 0, none⟩)]) (.func (Fn.func 91) #[] #[.pointer (some ⟨c6, 0, none⟩)]) .nilFunc, fP [51, 53, 66] [] (.func (Fn.func 53) #[] #[]) (.func (Fn.func 54) #[] #[]) .nilFunc, fP [50, 50, 70] [80, 82, 73, 82] (.func (Fn.func 55) #[] #[]) (.func (Fn.func 56) #[] #[]) .nilFunc]
theorem rowT_8 (c5 c6 : Nat) : ∀ p ∈ rowT c5 c6, p.size = 8 := by
  intro p hp
  simp only [rowT, List.mem_cons, List.not_mem_nil, or_false] at hp
  rcases hp with rfl | rfl | rfl | rfl <;> rfl
def rowF (c7 : Nat) : List (Array Value) := [fP [51, 54, 66] [83, 69, 84, 84] (.func (Fn.func 57) #[] #[]) (.func (Fn.func 58) #[] #[]) .nilFunc, fP [57, 55, 65] [83, 65, 70, 69] (.func (Fn.func 85) #[] #[.pointer (some ⟨c7, 0, none⟩)]) (.func (Fn.func 87) #[] #[.pointer (some ⟨c7, 0, none⟩)]) .nilFunc]
theorem rowF_8 (c7 : Nat) : ∀ p ∈ rowF c7, p.size = 8 := by
  intro p hp
  simp only [rowF, List.mem_cons, List.not_mem_nil, or_false] at hp
  rcases hp with rfl | rfl <;> rfl
def rowS (c8 c9 c10 : Nat) : List (Array Value) := [fP [57, 53, 80] [68, 69, 65, 71] (.func (Fn.func 85) #[] #[.pointer (some ⟨c8, 0, none⟩)]) (.func (Fn.func 87) #[] #[.pointer (some ⟨c8, 0, none⟩)]) (.func (Fn.func 61) #[] #[]), fP [57, 53, 80] [82, 69, 65, 71] (.func (Fn.func 85) #[] #[.pointer (some ⟨c9, 0, none⟩)]) (.func (Fn.func 87) #[] #[.pointer (some ⟨c9, 0, none⟩)]) (.func (Fn.func 62) #[] #[]), fP [57, 55, 65] [83, 65, 70, 69] (.func (Fn.func 85) #[] #[.pointer (some ⟨c10, 0, none⟩)]) (.func (Fn.func 87) #[] #[.pointer (some ⟨c10, 0, none⟩)]) .nilFunc]
theorem rowS_8 (c8 c9 c10 : Nat) : ∀ p ∈ rowS c8 c9 c10, p.size = 8 := by
  intro p hp
  simp only [rowS, List.mem_cons, List.not_mem_nil, or_false] at hp
  rcases hp with rfl | rfl | rfl <;> rfl
def rowA : List (Array Value) := [fP [49, 57, 65] [83, 69, 84, 84] (.func (Fn.func 65) #[] #[]) (.func (Fn.func 66) #[] #[]) .nilFunc]
theorem rowA_8 : ∀ p ∈ rowA , p.size = 8 := by
  intro p hp
  simp only [rowA, List.mem_cons, List.not_mem_nil, or_false] at hp
  rcases hp with rfl <;> rfl
def rowD (bS bA : Nat) : List (Array Value) := [bP [83, 69, 84, 80, 82, 84, 89] (.slice (some ⟨bS, 0, none⟩) 3 3) .nilFunc false, bP [65, 77, 84] (.slice (some ⟨bA, 0, none⟩) 1 1) (.func (Fn.func 64) #[] #[]) false]
theorem rowD_8 (bS bA : Nat) : ∀ p ∈ rowD bS bA, p.size = 8 := by
  intro p hp
  simp only [rowD, List.mem_cons, List.not_mem_nil, or_false] at hp
  rcases hp with rfl | rfl <;> rfl
def rowM (bG bT bF bD : Nat) : List (Array Value) := [bP [71, 69, 78, 76] (.slice (some ⟨bG, 0, none⟩) 5 5) .nilFunc false, bP [84, 82, 65, 68, 68, 69, 84] (.slice (some ⟨bT, 0, none⟩) 4 4) .nilFunc false, bP [70, 73, 65, 67] (.slice (some ⟨bF, 0, none⟩) 2 2) .nilFunc false, bP [83, 69, 84, 68, 69, 84] (.slice (some ⟨bD, 0, none⟩) 2 2) .nilFunc false]
theorem rowM_8 (bG bT bF bD : Nat) : ∀ p ∈ rowM bG bT bF bD, p.size = 8 := by
  intro p hp
  simp only [rowM, List.mem_cons, List.not_mem_nil, or_false] at hp
  rcases hp with rfl | rfl | rfl | rfl <;> rfl
/-- The places of a message. -/
def MsgM (w : World) (bM : Nat) : Prop := ∃ c1 c2 c4 c5 c6 c7 c8 c9 c10 bL bG bT bF bS bA bD, (w.cell? ⟨c1, 0, none⟩ = some (.func (Fn.func 39) #[] #[])) ∧ (w.cell? ⟨c2, 0, none⟩ = some (.func (Fn.func 44) #[] #[])) ∧ (w.cell? ⟨c4, 0, none⟩ = some (.func (Fn.func 48) #[] #[])) ∧ (w.cell? ⟨c5, 0, none⟩ = some (.func (Fn.func 51) #[] #[])) ∧ (w.cell? ⟨c6, 0, none⟩ = some (.func (Fn.func 52) #[] #[])) ∧ (w.cell? ⟨c7, 0, none⟩ = some (.func (Fn.func 59) #[] #[])) ∧ (w.cell? ⟨c8, 0, none⟩ = some (.func (Fn.func 60) #[] #[])) ∧ (w.cell? ⟨c9, 0, none⟩ = some (.func (Fn.func 60) #[] #[])) ∧ (w.cell? ⟨c10, 0, none⟩ = some (.func (Fn.func 63) #[] #[])) ∧ PR8 w bL (rowL c4) ∧ PR8 w bG (rowG c1 c2 bL) ∧ PR8 w bT (rowT c5 c6) ∧ PR8 w bF (rowF c7) ∧ PR8 w bS (rowS c8 c9 c10) ∧ PR8 w bA (rowA ) ∧ PR8 w bD (rowD bS bA) ∧ PR8 w bM (rowM bG bT bF bD)
end Go.Proofs.YtbaideeiljeamaaGreatDoor
