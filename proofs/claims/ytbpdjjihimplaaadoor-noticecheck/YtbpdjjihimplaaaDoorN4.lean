/-
  My own text: what is wrong with the terms of a notice: the document's.
-/
import Derived.Test.YtbpdjjihimplaaaDoorN3a
namespace Go.Proofs.YtbpdjjihimplaaaDoor
open Go.RowKit LC

theorem pair_of (r : Int × Int) : (okE r = true ∧ ∃ b, r = (0, b)) ∨ (okE r = false ∧ ∃ a b, r = (a, b) ∧ (a == 0) = false ∧ (a != 0) = true) := by
  obtain ⟨a, b⟩ := r
  by_cases h : a = 0
  · subst h; exact .inl ⟨okE_yes rfl, b, rfl⟩
  · exact .inr ⟨okE_no h, a, b, rfl, beq_eq_false_iff_ne.2 h, bne_iff_ne.2 h⟩
def hE (r1 cn r2 pe d1 d2 lt ci : Bool) : Int :=
  if !r1 then 6 else if cn && !r2 then 6 else if !cn && !pe then 6 else if !d1 then 8 else if !d2 then 8 else if lt then 8 else if !ci then 4 else 0
def headE (n : Ntc) : Int := hE (refB n.ref) n.cn (refB n.prev) n.prev.isEmpty (dayB n.tr) (dayB n.st) (decide (n.st < n.tr)) (okE (LC.isinR n.code))
def sE (ql ac bi ot py al cu az ce : Bool) : Int :=
  if ql then 16 else if !ac then 14 else if !bi then 4 else if !ot then 14 else if !py && (!az || !ce) then 1 else if py && al then 16 else if py && !cu then 4 else 0
def sidesE (n : Ntc) : Int := sE (decide (n.qty < 1)) (okE (LC.formR n.acc (LC.accF n.acc))) (okE (LC.formR n.agt (LC.bicF n.agt))) (okE (LC.formR n.oth (LC.accF n.oth))) n.py (decide (n.amt < 1)) (okE (LC.formR n.cur LC.curF)) (decide (n.amt = 0)) n.cur.isEmpty
theorem tE_parts (r1 cn r2 pe d1 d2 lt ci ql ac bi ot py al cu az ce pl pg : Bool) :
    tE r1 cn r2 pe d1 d2 lt ci ql ac bi ot py al cu az ce pl pg = (if hE r1 cn r2 pe d1 d2 lt ci ≠ 0 then hE r1 cn r2 pe d1 d2 lt ci else if sE ql ac bi ot py al cu az ce ≠ 0 then sE ql ac bi ot py al cu az ce else if pl || pg then 1 else 0) := by
  cases r1
  · rfl
  have two : ∀ (X : Int) (Y : Int), X = Y → (if !true then (6 : Int) else X) = Y := fun _ _ h => h
  cases cn <;> cases r2 <;> cases pe <;> try rfl
  all_goals (cases d1; · rfl)
  all_goals (cases d2; · rfl)
  all_goals (cases lt; rotate_left; · rfl)
  all_goals (cases ci; · rfl)
  all_goals (cases ql; rotate_left; · rfl)
  all_goals (cases ac; · rfl)
  all_goals (cases bi; · rfl)
  all_goals (cases ot; · rfl)
  all_goals (cases py <;> cases al <;> cases cu <;> cases az <;> cases ce <;> cases pl <;> cases pg <;> rfl)
theorem terms_parts (n : Ntc) : termsE n = (if headE n ≠ 0 then headE n else if sidesE n ≠ 0 then sidesE n else if decide (n.pri < 0) || decide (9999 < n.pri) then 1 else 0) := tE_parts ..
theorem isDay2_any (d : Int) (w : World) : Calls Tryd.prog 30 #[.int .i64 d] w fun e w' => e = .returned (.bool (dayB d)) ∧ Below w.heap.size w w' :=
  (refIs_any d w).mono (fun _ _ h => ⟨h.1, h.2 ▸ Below.refl _ _⟩)
theorem ret_n {a b : Int} (h : a = b) : Ending.returned (.int .i64 b) = .returned (.int .i64 a) := by rw [h]
set_option maxRecDepth 100000 in
set_option maxHeartbeats 8000000 in
theorem head_any (n : Ntc) (v : Value) (w : World) (hn : NOk n) :
    Calls Tryd.prog 14 #[.agg (nC n v)] w fun e w' => e = .returned (.int .i64 (headE n)) ∧ Below w.heap.size w w' := by
  have HLC := hide hn.code
  have HSI : Hid ((Tryd.prog.info? 23).map (·.size) = some (LC.cel n.code).toList.length) := by show _ = _; rw [Array.length_toList, LC.cel_size, HLC.out]; exact LC.Tryd.sizeIsin
  have HR1 := hide (fun W : World => reference_any n.ref W hn.ref)
  have HR2 := hide (fun W : World => reference_any n.prev W hn.prev)
  have HD1 := hide (fun W : World => isDay2_any n.tr W)
  have HD2 := hide (fun W : World => isDay2_any n.st W)
  have HCO := hide (fun W : World => refCode_any n.code W hn.code)
  have HCI := hide (fun W : World => LC.refIsin_any n.code W (by have := hn.code; omega))
  have X0 := hide (Bx.new w n v)
  have B0 := hide ((Below.refl w.heap.size w).alloc (Nat.le_refl _) (.cells (nC n v) 26))
  clear hn
  go_enter Tryd.func14, Tryd.ntmps14
  cases hr1 : refB n.ref
  · rw [hr1] at HR1
    have zref := X0.out.ref HLC.out
    go_wp2_with (fail)
    refine (HR1.out _).mono ?_
    rintro e w1 ⟨rfl, hb1⟩
    have X1 := hide (X0.out.later hb1)
    have B1 := hide (B0.out.trans (hb1.mono B0.out.size))
    clear hb1 X0 B0 zref
    go_wp2_with (fail)
    go_ret
    exact ⟨ret_n (a := headE n) (b := 6) (by simp [headE, hE, hr1]), B1.out⟩
  · rw [hr1] at HR1
    have zref := X0.out.ref HLC.out
    go_wp2_with (fail)
    refine (HR1.out _).mono ?_
    rintro e w1 ⟨rfl, hb1⟩
    have X1 := hide (X0.out.later hb1)
    have B1 := hide (B0.out.trans (hb1.mono B0.out.size))
    clear hb1 X0 B0 zref
    cases hcn : n.cn
    · cases hpe : n.prev.isEmpty
      · have hpb := bytes_nil_f hpe
        have zcn := X1.out.cn HLC.out
        have zprev := X1.out.prev HLC.out
        go_wp2_with (fail)
        go_ret
        exact ⟨ret_n (a := headE n) (b := 6) (by simp [headE, hE, hr1, hcn, hpe]), B1.out⟩
      · have hpb := bytes_nil_t hpe
        cases hd1 : dayB n.tr
        · rw [hd1] at HD1
          have zcn := X1.out.cn HLC.out
          have zprev := X1.out.prev HLC.out
          have ztr := X1.out.tr HLC.out
          go_wp2_with (fail)
          refine (HD1.out _).mono ?_
          rintro e w2 ⟨rfl, hb2⟩
          have X2 := hide (X1.out.later hb2)
          have B2 := hide (B1.out.trans (hb2.mono B1.out.size))
          clear hb2 X1 B1 zcn zprev ztr
          go_wp2_with (fail)
          go_ret
          exact ⟨ret_n (a := headE n) (b := 8) (by simp [headE, hE, hr1, hcn, hpe, hd1]), B2.out⟩
        · rw [hd1] at HD1
          have zcn := X1.out.cn HLC.out
          have zprev := X1.out.prev HLC.out
          have ztr := X1.out.tr HLC.out
          go_wp2_with (fail)
          refine (HD1.out _).mono ?_
          rintro e w2 ⟨rfl, hb2⟩
          have X2 := hide (X1.out.later hb2)
          have B2 := hide (B1.out.trans (hb2.mono B1.out.size))
          clear hb2 X1 B1 zcn zprev ztr
          cases hd2 : dayB n.st
          · rw [hd2] at HD2
            have zst := X2.out.st HLC.out
            go_wp2_with (fail)
            refine (HD2.out _).mono ?_
            rintro e w3 ⟨rfl, hb3⟩
            have X3 := hide (X2.out.later hb3)
            have B3 := hide (B2.out.trans (hb3.mono B2.out.size))
            clear hb3 X2 B2 zst
            go_wp2_with (fail)
            go_ret
            exact ⟨ret_n (a := headE n) (b := 8) (by simp [headE, hE, hr1, hcn, hpe, hd1, hd2]), B3.out⟩
          · rw [hd2] at HD2
            have zst := X2.out.st HLC.out
            go_wp2_with (fail)
            refine (HD2.out _).mono ?_
            rintro e w3 ⟨rfl, hb3⟩
            have X3 := hide (X2.out.later hb3)
            have B3 := hide (B2.out.trans (hb3.mono B2.out.size))
            clear hb3 X2 B2 zst
            cases hlt : decide (n.st < n.tr)
            · skip
              rcases pair_of (LC.isinR n.code) with ⟨hci, pb, hr⟩ | ⟨hci, pa, pb, hr, pz, pn⟩
              · rw [hr] at HCI
                dsimp only at HCI
                clear hr
                have zst := X3.out.st HLC.out
                have ztr := X3.out.tr HLC.out
                have zcode := X3.out.code HLC.out
                go_wp2_with (refine wpList_load_mid rfl 23 (.tmp 47) rfl w.heap.size 7 rfl (LC.cel n.code).toList _ zcode Tryd.underlying23 rfl HSI.out ?_; rw [Array.toArray_toList])
                refine (HCO.out _).mono ?_
                rintro e w4 ⟨rfl, hb4⟩
                have X4 := hide (X3.out.later hb4)
                have B4 := hide (B3.out.trans (hb4.mono B3.out.size))
                clear hb4 X3 B3 zst ztr zcode
                go_wp2_with (fail)
                refine (HCI.out _).mono ?_
                rintro e w5 ⟨rfl, hb5⟩
                have X5 := hide (X4.out.later hb5)
                have B5 := hide (B4.out.trans (hb5.mono B4.out.size))
                clear hb5 X4 B4
                go_wp2_with (fail)
                go_ret
                exact ⟨ret_n (a := headE n) (b := 0) (by simp [headE, hE, hr1, hcn, hpe, hd1, hd2, hlt, hci]), B5.out⟩
              · rw [hr] at HCI
                dsimp only at HCI
                clear hr
                have zst := X3.out.st HLC.out
                have ztr := X3.out.tr HLC.out
                have zcode := X3.out.code HLC.out
                go_wp2_with (refine wpList_load_mid rfl 23 (.tmp 47) rfl w.heap.size 7 rfl (LC.cel n.code).toList _ zcode Tryd.underlying23 rfl HSI.out ?_; rw [Array.toArray_toList])
                refine (HCO.out _).mono ?_
                rintro e w4 ⟨rfl, hb4⟩
                have X4 := hide (X3.out.later hb4)
                have B4 := hide (B3.out.trans (hb4.mono B3.out.size))
                clear hb4 X3 B3 zst ztr zcode
                go_wp2_with (fail)
                refine (HCI.out _).mono ?_
                rintro e w5 ⟨rfl, hb5⟩
                have X5 := hide (X4.out.later hb5)
                have B5 := hide (B4.out.trans (hb5.mono B4.out.size))
                clear hb5 X4 B4
                go_wp2_with (fail)
                go_ret
                exact ⟨ret_n (a := headE n) (b := 4) (by simp [headE, hE, hr1, hcn, hpe, hd1, hd2, hlt, hci]), B5.out⟩
            · skip
              have zst := X3.out.st HLC.out
              have ztr := X3.out.tr HLC.out
              go_wp2_with (fail)
              go_ret
              exact ⟨ret_n (a := headE n) (b := 8) (by simp [headE, hE, hr1, hcn, hpe, hd1, hd2, hlt]), B3.out⟩
    · skip
      cases hr2 : refB n.prev
      · rw [hr2] at HR2
        have zcn := X1.out.cn HLC.out
        have zprev := X1.out.prev HLC.out
        go_wp2_with (fail)
        refine (HR2.out _).mono ?_
        rintro e w2 ⟨rfl, hb2⟩
        have X2 := hide (X1.out.later hb2)
        have B2 := hide (B1.out.trans (hb2.mono B1.out.size))
        clear hb2 X1 B1 zcn zprev
        go_wp2_with (fail)
        go_ret
        exact ⟨ret_n (a := headE n) (b := 6) (by simp [headE, hE, hr1, hcn, hr2]), B2.out⟩
      · rw [hr2] at HR2
        have zcn := X1.out.cn HLC.out
        have zprev := X1.out.prev HLC.out
        go_wp2_with (fail)
        refine (HR2.out _).mono ?_
        rintro e w2 ⟨rfl, hb2⟩
        have X2 := hide (X1.out.later hb2)
        have B2 := hide (B1.out.trans (hb2.mono B1.out.size))
        clear hb2 X1 B1 zcn zprev
        cases hd1 : dayB n.tr
        · rw [hd1] at HD1
          have zcn := X2.out.cn HLC.out
          have ztr := X2.out.tr HLC.out
          go_wp2_with (fail)
          refine (HD1.out _).mono ?_
          rintro e w3 ⟨rfl, hb3⟩
          have X3 := hide (X2.out.later hb3)
          have B3 := hide (B2.out.trans (hb3.mono B2.out.size))
          clear hb3 X2 B2 zcn ztr
          go_wp2_with (fail)
          go_ret
          exact ⟨ret_n (a := headE n) (b := 8) (by simp [headE, hE, hr1, hcn, hr2, hd1]), B3.out⟩
        · rw [hd1] at HD1
          have zcn := X2.out.cn HLC.out
          have ztr := X2.out.tr HLC.out
          go_wp2_with (fail)
          refine (HD1.out _).mono ?_
          rintro e w3 ⟨rfl, hb3⟩
          have X3 := hide (X2.out.later hb3)
          have B3 := hide (B2.out.trans (hb3.mono B2.out.size))
          clear hb3 X2 B2 zcn ztr
          cases hd2 : dayB n.st
          · rw [hd2] at HD2
            have zst := X3.out.st HLC.out
            go_wp2_with (fail)
            refine (HD2.out _).mono ?_
            rintro e w4 ⟨rfl, hb4⟩
            have X4 := hide (X3.out.later hb4)
            have B4 := hide (B3.out.trans (hb4.mono B3.out.size))
            clear hb4 X3 B3 zst
            go_wp2_with (fail)
            go_ret
            exact ⟨ret_n (a := headE n) (b := 8) (by simp [headE, hE, hr1, hcn, hr2, hd1, hd2]), B4.out⟩
          · rw [hd2] at HD2
            have zst := X3.out.st HLC.out
            go_wp2_with (fail)
            refine (HD2.out _).mono ?_
            rintro e w4 ⟨rfl, hb4⟩
            have X4 := hide (X3.out.later hb4)
            have B4 := hide (B3.out.trans (hb4.mono B3.out.size))
            clear hb4 X3 B3 zst
            cases hlt : decide (n.st < n.tr)
            · skip
              rcases pair_of (LC.isinR n.code) with ⟨hci, pb, hr⟩ | ⟨hci, pa, pb, hr, pz, pn⟩
              · rw [hr] at HCI
                dsimp only at HCI
                clear hr
                have zst := X4.out.st HLC.out
                have ztr := X4.out.tr HLC.out
                have zcode := X4.out.code HLC.out
                go_wp2_with (refine wpList_load_mid rfl 23 (.tmp 47) rfl w.heap.size 7 rfl (LC.cel n.code).toList _ zcode Tryd.underlying23 rfl HSI.out ?_; rw [Array.toArray_toList])
                refine (HCO.out _).mono ?_
                rintro e w5 ⟨rfl, hb5⟩
                have X5 := hide (X4.out.later hb5)
                have B5 := hide (B4.out.trans (hb5.mono B4.out.size))
                clear hb5 X4 B4 zst ztr zcode
                go_wp2_with (fail)
                refine (HCI.out _).mono ?_
                rintro e w6 ⟨rfl, hb6⟩
                have X6 := hide (X5.out.later hb6)
                have B6 := hide (B5.out.trans (hb6.mono B5.out.size))
                clear hb6 X5 B5
                go_wp2_with (fail)
                go_ret
                exact ⟨ret_n (a := headE n) (b := 0) (by simp [headE, hE, hr1, hcn, hr2, hd1, hd2, hlt, hci]), B6.out⟩
              · rw [hr] at HCI
                dsimp only at HCI
                clear hr
                have zst := X4.out.st HLC.out
                have ztr := X4.out.tr HLC.out
                have zcode := X4.out.code HLC.out
                go_wp2_with (refine wpList_load_mid rfl 23 (.tmp 47) rfl w.heap.size 7 rfl (LC.cel n.code).toList _ zcode Tryd.underlying23 rfl HSI.out ?_; rw [Array.toArray_toList])
                refine (HCO.out _).mono ?_
                rintro e w5 ⟨rfl, hb5⟩
                have X5 := hide (X4.out.later hb5)
                have B5 := hide (B4.out.trans (hb5.mono B4.out.size))
                clear hb5 X4 B4 zst ztr zcode
                go_wp2_with (fail)
                refine (HCI.out _).mono ?_
                rintro e w6 ⟨rfl, hb6⟩
                have X6 := hide (X5.out.later hb6)
                have B6 := hide (B5.out.trans (hb6.mono B5.out.size))
                clear hb6 X5 B5
                go_wp2_with (fail)
                go_ret
                exact ⟨ret_n (a := headE n) (b := 4) (by simp [headE, hE, hr1, hcn, hr2, hd1, hd2, hlt, hci]), B6.out⟩
            · skip
              have zst := X4.out.st HLC.out
              have ztr := X4.out.tr HLC.out
              go_wp2_with (fail)
              go_ret
              exact ⟨ret_n (a := headE n) (b := 8) (by simp [headE, hE, hr1, hcn, hr2, hd1, hd2, hlt]), B4.out⟩
set_option maxRecDepth 100000 in
set_option maxHeartbeats 8000000 in
theorem sides_any (n : Ntc) (v : Value) (w : World) (hn : NOk n) :
    Calls Tryd.prog 15 #[.agg (nC n v)] w fun e w' => e = .returned (.int .i64 (sidesE n)) ∧ Below w.heap.size w w' := by
  have HLC := hide hn.code
  have HAC := hide (fun W : World => LC.refAccount_any n.acc W hn.acc)
  have HOT := hide (fun W : World => LC.refAccount_any n.oth W hn.oth)
  have HCU := hide (fun W : World => LC.refCurrency_any n.cur W hn.cur)
  have HBI := hide (fun W : World => LC.refBic_any n.agt W hn.agt)
  have X0 := hide (Bx.new w n v)
  have B0 := hide ((Below.refl w.heap.size w).alloc (Nat.le_refl _) (.cells (nC n v) 26))
  clear hn
  go_enter Tryd.func15, Tryd.ntmps15
  cases hql : decide (n.qty < 1)
  · skip
    rcases pair_of (LC.formR n.acc (LC.accF n.acc)) with ⟨hac, pb, hr⟩ | ⟨hac, pa, pb, hr, pz, pn⟩
    · rw [hr] at HAC
      dsimp only at HAC
      clear hr
      have zqty := X0.out.qty HLC.out
      have zacc := X0.out.acc HLC.out
      go_wp2_with (fail)
      refine (HAC.out _).mono ?_
      rintro e w1 ⟨rfl, hb1⟩
      have X1 := hide (X0.out.later hb1)
      have B1 := hide (B0.out.trans (hb1.mono B0.out.size))
      clear hb1 X0 B0 zqty zacc
      rcases pair_of (LC.formR n.agt (LC.bicF n.agt)) with ⟨hbi, pb, hr⟩ | ⟨hbi, pa, pb, hr, pz, pn⟩
      · rw [hr] at HBI
        dsimp only at HBI
        clear hr
        have zagt := X1.out.agt HLC.out
        go_wp2_with (fail)
        refine (HBI.out _).mono ?_
        rintro e w2 ⟨rfl, hb2⟩
        have X2 := hide (X1.out.later hb2)
        have B2 := hide (B1.out.trans (hb2.mono B1.out.size))
        clear hb2 X1 B1 zagt
        rcases pair_of (LC.formR n.oth (LC.accF n.oth)) with ⟨hot, pb, hr⟩ | ⟨hot, pa, pb, hr, pz, pn⟩
        · rw [hr] at HOT
          dsimp only at HOT
          clear hr
          have zoth := X2.out.oth HLC.out
          go_wp2_with (fail)
          refine (HOT.out _).mono ?_
          rintro e w3 ⟨rfl, hb3⟩
          have X3 := hide (X2.out.later hb3)
          have B3 := hide (B2.out.trans (hb3.mono B2.out.size))
          clear hb3 X2 B2 zoth
          cases hpy : n.py
          · have hce0 : (n.amt == 0) = decide (n.amt = 0) := by rfl
            have hne0 : (n.amt != 0) = !decide (n.amt = 0) := by rfl
            cases haz : decide (n.amt = 0)
            · skip
              have zpy := X3.out.py HLC.out
              have zamt := X3.out.amt HLC.out
              go_wp2_with (fail)
              go_ret
              exact ⟨ret_n (a := sidesE n) (b := 1) (by simp [sidesE, sE, hql, hac, hbi, hot, hpy, haz]), B3.out⟩
            · skip
              cases hce : n.cur.isEmpty
              · have hcb := bytes_nil_f hce
                have zpy := X3.out.py HLC.out
                have zamt := X3.out.amt HLC.out
                have zcur := X3.out.cur HLC.out
                go_wp2_with (fail)
                go_ret
                exact ⟨ret_n (a := sidesE n) (b := 1) (by simp [sidesE, sE, hql, hac, hbi, hot, hpy, haz, hce]), B3.out⟩
              · have hcb := bytes_nil_t hce
                have zpy := X3.out.py HLC.out
                have zamt := X3.out.amt HLC.out
                have zcur := X3.out.cur HLC.out
                go_wp2_with (fail)
                refine (HCU.out _).mono ?_
                rintro e w4 ⟨rfl, hb4⟩
                have X4 := hide (X3.out.later hb4)
                have B4 := hide (B3.out.trans (hb4.mono B3.out.size))
                clear hb4 X3 B3 zpy zamt zcur
                have zpy := X4.out.py HLC.out
                go_wp2_with (fail)
                go_ret
                exact ⟨ret_n (a := sidesE n) (b := 0) (by simp [sidesE, sE, hql, hac, hbi, hot, hpy, haz, hce]), B4.out⟩
          · skip
            cases hal : decide (n.amt < 1)
            · skip
              rcases pair_of (LC.formR n.cur LC.curF) with ⟨hcu, pb, hr⟩ | ⟨hcu, pa, pb, hr, pz, pn⟩
              · rw [hr] at HCU
                dsimp only at HCU
                clear hr
                have zpy := X3.out.py HLC.out
                have zamt := X3.out.amt HLC.out
                have zcur := X3.out.cur HLC.out
                go_wp2_with (fail)
                refine (HCU.out _).mono ?_
                rintro e w4 ⟨rfl, hb4⟩
                have X4 := hide (X3.out.later hb4)
                have B4 := hide (B3.out.trans (hb4.mono B3.out.size))
                clear hb4 X3 B3 zpy zamt zcur
                have zpy := X4.out.py HLC.out
                go_wp2_with (fail)
                go_ret
                exact ⟨ret_n (a := sidesE n) (b := 0) (by simp [sidesE, sE, hql, hac, hbi, hot, hpy, hal, hcu]), B4.out⟩
              · rw [hr] at HCU
                dsimp only at HCU
                clear hr
                have zpy := X3.out.py HLC.out
                have zamt := X3.out.amt HLC.out
                have zcur := X3.out.cur HLC.out
                go_wp2_with (fail)
                refine (HCU.out _).mono ?_
                rintro e w4 ⟨rfl, hb4⟩
                have X4 := hide (X3.out.later hb4)
                have B4 := hide (B3.out.trans (hb4.mono B3.out.size))
                clear hb4 X3 B3 zpy zamt zcur
                have zpy := X4.out.py HLC.out
                go_wp2_with (fail)
                go_ret
                exact ⟨ret_n (a := sidesE n) (b := 4) (by simp [sidesE, sE, hql, hac, hbi, hot, hpy, hal, hcu]), B4.out⟩
            · skip
              have zpy := X3.out.py HLC.out
              have zamt := X3.out.amt HLC.out
              go_wp2_with (fail)
              go_ret
              exact ⟨ret_n (a := sidesE n) (b := 16) (by simp [sidesE, sE, hql, hac, hbi, hot, hpy, hal]), B3.out⟩
        · rw [hr] at HOT
          dsimp only at HOT
          clear hr
          have zoth := X2.out.oth HLC.out
          go_wp2_with (fail)
          refine (HOT.out _).mono ?_
          rintro e w3 ⟨rfl, hb3⟩
          have X3 := hide (X2.out.later hb3)
          have B3 := hide (B2.out.trans (hb3.mono B2.out.size))
          clear hb3 X2 B2 zoth
          go_wp2_with (fail)
          go_ret
          exact ⟨ret_n (a := sidesE n) (b := 14) (by simp [sidesE, sE, hql, hac, hbi, hot]), B3.out⟩
      · rw [hr] at HBI
        dsimp only at HBI
        clear hr
        have zagt := X1.out.agt HLC.out
        go_wp2_with (fail)
        refine (HBI.out _).mono ?_
        rintro e w2 ⟨rfl, hb2⟩
        have X2 := hide (X1.out.later hb2)
        have B2 := hide (B1.out.trans (hb2.mono B1.out.size))
        clear hb2 X1 B1 zagt
        go_wp2_with (fail)
        go_ret
        exact ⟨ret_n (a := sidesE n) (b := 4) (by simp [sidesE, sE, hql, hac, hbi]), B2.out⟩
    · rw [hr] at HAC
      dsimp only at HAC
      clear hr
      have zqty := X0.out.qty HLC.out
      have zacc := X0.out.acc HLC.out
      go_wp2_with (fail)
      refine (HAC.out _).mono ?_
      rintro e w1 ⟨rfl, hb1⟩
      have X1 := hide (X0.out.later hb1)
      have B1 := hide (B0.out.trans (hb1.mono B0.out.size))
      clear hb1 X0 B0 zqty zacc
      go_wp2_with (fail)
      go_ret
      exact ⟨ret_n (a := sidesE n) (b := 14) (by simp [sidesE, sE, hql, hac]), B1.out⟩
  · skip
    have zqty := X0.out.qty HLC.out
    go_wp2_with (fail)
    go_ret
    exact ⟨ret_n (a := sidesE n) (b := 16) (by simp [sidesE, sE, hql]), B0.out⟩
end Go.Proofs.YtbpdjjihimplaaaDoor
