/-
  My own text: N4, N5 in one.
-/
import Derived.Test.YtbaideeiljeamaaGreatDoorN3
namespace Go.Proofs.YtbaideeiljeamaaGreatDoor
open Go.RowKit LC

theorem pair_of (r : Int × Int) : (okE r = true ∧ ∃ b, r = (0, b)) ∨ (okE r = false ∧ ∃ a b, r = (a, b) ∧ (a == 0) = false ∧ (a != 0) = true) := by
  obtain ⟨a, b⟩ := r
  by_cases h : a = 0
  · subst h; exact .inl ⟨okE_yes rfl, b, rfl⟩
  · exact .inr ⟨okE_no h, a, b, rfl, beq_eq_false_iff_ne.2 h, bne_iff_ne.2 h⟩
def hE (r1 cn r2 pe d1 d2 lt ci : Bool) : Int :=
  if !r1 then 6 else if cn && !r2 then 6 else if !cn && !pe then 6 else if !d1 then 8 else if !d2 then 8 else if lt then 8 else if !ci then 4 else 0
def headE (n : Ntc) : Int := hE (refB n.ref) n.cn (refB n.prev) n.prev.isEmpty (dayB n.tr) (dayB n.st) (decide (n.st < n.tr)) (okE (LC.isinR n.code))
def sE (ql ac bi ot py al cu az ce : Bool) : Int :=
  if ql then 16 else if !ac then 14 else if !bi then 4 else if !ot then 14 else if !py && (!az || !ce) then 1 else if py && al then 16 else if py && !cu then 4 else 0
def sidesE (n : Ntc) : Int := sE (decide (n.qty < 1)) (okE (LC.formR n.acc (LC.accF n.acc))) (okE (LC.formR n.agt (LC.bicF n.agt))) (okE (LC.formR n.oth (LC.accF n.oth))) n.py (decide (n.amt < 1)) (okE (LC.formR n.cur LC.curF)) (decide (n.amt = 0)) n.cur.isEmpty
theorem tE_parts (r1 cn r2 pe d1 d2 lt ci ql ac bi ot py al cu az ce pl pg : Bool) :
    tE r1 cn r2 pe d1 d2 lt ci ql ac bi ot py al cu az ce pl pg = (if hE r1 cn r2 pe d1 d2 lt ci ≠ 0 then hE r1 cn r2 pe d1 d2 lt ci else if sE ql ac bi ot py al cu az ce ≠ 0 then sE ql ac bi ot py al cu az ce else if pl || pg then 1 else 0) := by
  cases r1
  · rfl
  have two : ∀ (X : Int) (Y : Int), X = Y → (if !true then (6 : Int) else X) = Y := fun _ _ h => h
  cases cn <;> cases r2 <;> cases pe <;> try rfl
  all_goals (cases d1; · rfl)
  all_goals (cases d2; · rfl)
  all_goals (cases lt; rotate_left; · rfl)
  all_goals (cases ci; · rfl)
  all_goals (cases ql; rotate_left; · rfl)
  all_goals (cases ac; · rfl)
  all_goals (cases bi; · rfl)
  all_goals (cases ot; · rfl)
  all_goals (cases py <;> cases al <;> cases cu <;> cases az <;> cases ce <;> cases pl <;> cases pg <;> rfl)
theorem terms_parts (n : Ntc) : termsE n = (if headE n ≠ 0 then headE n else if sidesE n ≠ 0 then sidesE n else if decide (n.pri < 0) || decide (9999 < n.pri) then 1 else 0) := tE_parts ..
theorem isDay2_any (d : Int) (w : World) : Calls Tryz.prog 72 #[.int .i64 d] w fun e w' => e = .returned (.bool (dayB d)) ∧ Below w.heap.size w w' :=
  (refIs_any d w).mono (fun _ _ h => ⟨h.1, h.2 ▸ Below.refl _ _⟩)
theorem ret_n {a b : Int} (h : a = b) : Ending.returned (.int .i64 b) = .returned (.int .i64 a) := by rw [h]
set_option maxRecDepth 100000 in
set_option maxHeartbeats 8000000 in
theorem head_any (n : Ntc) (v : Value) (w : World) (hn : NOk n) :
    Calls Tryz.prog 23 #[.agg (nC n v)] w fun e w' => e = .returned (.int .i64 (headE n)) ∧ Below w.heap.size w w' := by
  have HLC := hide hn.code
  have HSI : Hid ((Tryz.prog.info? 23).map (·.size) = some (LC.cel n.code).toList.length) := by show _ = _; rw [Array.length_toList, LC.cel_size, HLC.out]; exact LC.Tryz.sizeIsin
  have HR1 := hide (fun W : World => reference_any n.ref W hn.ref)
  have HR2 := hide (fun W : World => reference_any n.prev W hn.prev)
  have HD1 := hide (fun W : World => isDay2_any n.tr W)
  have HD2 := hide (fun W : World => isDay2_any n.st W)
  have HCO := hide (fun W : World => refCode_any n.code W hn.code)
  have HCI := hide (fun W : World => LC.refIsin_any n.code W (by have := hn.code; omega))
  have X0 := hide (Bx.new w n v)
  have B0 := hide ((Below.refl w.heap.size w).alloc (Nat.le_refl _) (.cells (nC n v) 26))
  clear hn
  go_enter Tryz.func23, Tryz.ntmps23
  cases hr1 : refB n.ref
  · rw [hr1] at HR1
    have zref := X0.out.ref HLC.out
    go_wp2_with (fail)
    refine (HR1.out _).mono ?_
    rintro e w1 ⟨rfl, hb1⟩
    have X1 := hide (X0.out.later hb1)
    have B1 := hide (B0.out.trans (hb1.mono B0.out.size))
    clear hb1 X0 B0 zref
    go_wp2_with (fail)
    go_ret
    exact ⟨ret_n (a := headE n) (b := 6) (by simp [headE, hE, hr1]), B1.out⟩
  · rw [hr1] at HR1
    have zref := X0.out.ref HLC.out
    go_wp2_with (fail)
    refine (HR1.out _).mono ?_
    rintro e w1 ⟨rfl, hb1⟩
    have X1 := hide (X0.out.later hb1)
    have B1 := hide (B0.out.trans (hb1.mono B0.out.size))
    clear hb1 X0 B0 zref
    cases hcn : n.cn
    · cases hpe : n.prev.isEmpty
      · have hpb := bytes_nil_f hpe
        have zcn := X1.out.cn HLC.out
        have zprev := X1.out.prev HLC.out
        go_wp2_with (fail)
        go_ret
        exact ⟨ret_n (a := headE n) (b := 6) (by simp [headE, hE, hr1, hcn, hpe]), B1.out⟩
      · have hpb := bytes_nil_t hpe
        cases hd1 : dayB n.tr
        · rw [hd1] at HD1
          have zcn := X1.out.cn HLC.out
          have zprev := X1.out.prev HLC.out
          have ztr := X1.out.tr HLC.out
          go_wp2_with (fail)
          refine (HD1.out _).mono ?_
          rintro e w2 ⟨rfl, hb2⟩
          have X2 := hide (X1.out.later hb2)
          have B2 := hide (B1.out.trans (hb2.mono B1.out.size))
          clear hb2 X1 B1 zcn zprev ztr
          go_wp2_with (fail)
          go_ret
          exact ⟨ret_n (a := headE n) (b := 8) (by simp [headE, hE, hr1, hcn, hpe, hd1]), B2.out⟩
        · rw [hd1] at HD1
          have zcn := X1.out.cn HLC.out
          have zprev := X1.out.prev HLC.out
          have ztr := X1.out.tr HLC.out
          go_wp2_with (fail)
          refine (HD1.out _).mono ?_
          rintro e w2 ⟨rfl, hb2⟩
          have X2 := hide (X1.out.later hb2)
          have B2 := hide (B1.out.trans (hb2.mono B1.out.size))
          clear hb2 X1 B1 zcn zprev ztr
          cases hd2 : dayB n.st
          · rw [hd2] at HD2
            have zst := X2.out.st HLC.out
            go_wp2_with (fail)
            refine (HD2.out _).mono ?_
            rintro e w3 ⟨rfl, hb3⟩
            have X3 := hide (X2.out.later hb3)
            have B3 := hide (B2.out.trans (hb3.mono B2.out.size))
            clear hb3 X2 B2 zst
            go_wp2_with (fail)
            go_ret
            exact ⟨ret_n (a := headE n) (b := 8) (by simp [headE, hE, hr1, hcn, hpe, hd1, hd2]), B3.out⟩
          · rw [hd2] at HD2
            have zst := X2.out.st HLC.out
            go_wp2_with (fail)
            refine (HD2.out _).mono ?_
            rintro e w3 ⟨rfl, hb3⟩
            have X3 := hide (X2.out.later hb3)
            have B3 := hide (B2.out.trans (hb3.mono B2.out.size))
            clear hb3 X2 B2 zst
            cases hlt : decide (n.st < n.tr)
            · skip
              rcases pair_of (LC.isinR n.code) with ⟨hci, pb, hr⟩ | ⟨hci, pa, pb, hr, pz, pn⟩
              · rw [hr] at HCI
                dsimp only at HCI
                clear hr
                have zst := X3.out.st HLC.out
                have ztr := X3.out.tr HLC.out
                have zcode := X3.out.code HLC.out
                go_wp2_with (refine wpList_load_mid rfl 23 (.tmp 47) rfl w.heap.size 7 rfl (LC.cel n.code).toList _ zcode Tryz.underlying23 rfl HSI.out ?_; rw [Array.toArray_toList])
                refine (HCO.out _).mono ?_
                rintro e w4 ⟨rfl, hb4⟩
                have X4 := hide (X3.out.later hb4)
                have B4 := hide (B3.out.trans (hb4.mono B3.out.size))
                clear hb4 X3 B3 zst ztr zcode
                go_wp2_with (fail)
                refine (HCI.out _).mono ?_
                rintro e w5 ⟨rfl, hb5⟩
                have X5 := hide (X4.out.later hb5)
                have B5 := hide (B4.out.trans (hb5.mono B4.out.size))
                clear hb5 X4 B4
                go_wp2_with (fail)
                go_ret
                exact ⟨ret_n (a := headE n) (b := 0) (by simp [headE, hE, hr1, hcn, hpe, hd1, hd2, hlt, hci]), B5.out⟩
              · rw [hr] at HCI
                dsimp only at HCI
                clear hr
                have zst := X3.out.st HLC.out
                have ztr := X3.out.tr HLC.out
                have zcode := X3.out.code HLC.out
                go_wp2_with (refine wpList_load_mid rfl 23 (.tmp 47) rfl w.heap.size 7 rfl (LC.cel n.code).toList _ zcode Tryz.underlying23 rfl HSI.out ?_; rw [Array.toArray_toList])
                refine (HCO.out _).mono ?_
                rintro e w4 ⟨rfl, hb4⟩
                have X4 := hide (X3.out.later hb4)
                have B4 := hide (B3.out.trans (hb4.mono B3.out.size))
                clear hb4 X3 B3 zst ztr zcode
                go_wp2_with (fail)
                refine (HCI.out _).mono ?_
                rintro e w5 ⟨rfl, hb5⟩
                have X5 := hide (X4.out.later hb5)
                have B5 := hide (B4.out.trans (hb5.mono B4.out.size))
                clear hb5 X4 B4
                go_wp2_with (fail)
                go_ret
                exact ⟨ret_n (a := headE n) (b := 4) (by simp [headE, hE, hr1, hcn, hpe, hd1, hd2, hlt, hci]), B5.out⟩
            · skip
              have zst := X3.out.st HLC.out
              have ztr := X3.out.tr HLC.out
              go_wp2_with (fail)
              go_ret
              exact ⟨ret_n (a := headE n) (b := 8) (by simp [headE, hE, hr1, hcn, hpe, hd1, hd2, hlt]), B3.out⟩
    · skip
      cases hr2 : refB n.prev
      · rw [hr2] at HR2
        have zcn := X1.out.cn HLC.out
        have zprev := X1.out.prev HLC.out
        go_wp2_with (fail)
        refine (HR2.out _).mono ?_
        rintro e w2 ⟨rfl, hb2⟩
        have X2 := hide (X1.out.later hb2)
        have B2 := hide (B1.out.trans (hb2.mono B1.out.size))
        clear hb2 X1 B1 zcn zprev
        go_wp2_with (fail)
        go_ret
        exact ⟨ret_n (a := headE n) (b := 6) (by simp [headE, hE, hr1, hcn, hr2]), B2.out⟩
      · rw [hr2] at HR2
        have zcn := X1.out.cn HLC.out
        have zprev := X1.out.prev HLC.out
        go_wp2_with (fail)
        refine (HR2.out _).mono ?_
        rintro e w2 ⟨rfl, hb2⟩
        have X2 := hide (X1.out.later hb2)
        have B2 := hide (B1.out.trans (hb2.mono B1.out.size))
        clear hb2 X1 B1 zcn zprev
        cases hd1 : dayB n.tr
        · rw [hd1] at HD1
          have zcn := X2.out.cn HLC.out
          have ztr := X2.out.tr HLC.out
          go_wp2_with (fail)
          refine (HD1.out _).mono ?_
          rintro e w3 ⟨rfl, hb3⟩
          have X3 := hide (X2.out.later hb3)
          have B3 := hide (B2.out.trans (hb3.mono B2.out.size))
          clear hb3 X2 B2 zcn ztr
          go_wp2_with (fail)
          go_ret
          exact ⟨ret_n (a := headE n) (b := 8) (by simp [headE, hE, hr1, hcn, hr2, hd1]), B3.out⟩
        · rw [hd1] at HD1
          have zcn := X2.out.cn HLC.out
          have ztr := X2.out.tr HLC.out
          go_wp2_with (fail)
          refine (HD1.out _).mono ?_
          rintro e w3 ⟨rfl, hb3⟩
          have X3 := hide (X2.out.later hb3)
          have B3 := hide (B2.out.trans (hb3.mono B2.out.size))
          clear hb3 X2 B2 zcn ztr
          cases hd2 : dayB n.st
          · rw [hd2] at HD2
            have zst := X3.out.st HLC.out
            go_wp2_with (fail)
            refine (HD2.out _).mono ?_
            rintro e w4 ⟨rfl, hb4⟩
            have X4 := hide (X3.out.later hb4)
            have B4 := hide (B3.out.trans (hb4.mono B3.out.size))
            clear hb4 X3 B3 zst
            go_wp2_with (fail)
            go_ret
            exact ⟨ret_n (a := headE n) (b := 8) (by simp [headE, hE, hr1, hcn, hr2, hd1, hd2]), B4.out⟩
          · rw [hd2] at HD2
            have zst := X3.out.st HLC.out
            go_wp2_with (fail)
            refine (HD2.out _).mono ?_
            rintro e w4 ⟨rfl, hb4⟩
            have X4 := hide (X3.out.later hb4)
            have B4 := hide (B3.out.trans (hb4.mono B3.out.size))
            clear hb4 X3 B3 zst
            cases hlt : decide (n.st < n.tr)
            · skip
              rcases pair_of (LC.isinR n.code) with ⟨hci, pb, hr⟩ | ⟨hci, pa, pb, hr, pz, pn⟩
              · rw [hr] at HCI
                dsimp only at HCI
                clear hr
                have zst := X4.out.st HLC.out
                have ztr := X4.out.tr HLC.out
                have zcode := X4.out.code HLC.out
                go_wp2_with (refine wpList_load_mid rfl 23 (.tmp 47) rfl w.heap.size 7 rfl (LC.cel n.code).toList _ zcode Tryz.underlying23 rfl HSI.out ?_; rw [Array.toArray_toList])
                refine (HCO.out _).mono ?_
                rintro e w5 ⟨rfl, hb5⟩
                have X5 := hide (X4.out.later hb5)
                have B5 := hide (B4.out.trans (hb5.mono B4.out.size))
                clear hb5 X4 B4 zst ztr zcode
                go_wp2_with (fail)
                refine (HCI.out _).mono ?_
                rintro e w6 ⟨rfl, hb6⟩
                have X6 := hide (X5.out.later hb6)
                have B6 := hide (B5.out.trans (hb6.mono B5.out.size))
                clear hb6 X5 B5
                go_wp2_with (fail)
                go_ret
                exact ⟨ret_n (a := headE n) (b := 0) (by simp [headE, hE, hr1, hcn, hr2, hd1, hd2, hlt, hci]), B6.out⟩
              · rw [hr] at HCI
                dsimp only at HCI
                clear hr
                have zst := X4.out.st HLC.out
                have ztr := X4.out.tr HLC.out
                have zcode := X4.out.code HLC.out
                go_wp2_with (refine wpList_load_mid rfl 23 (.tmp 47) rfl w.heap.size 7 rfl (LC.cel n.code).toList _ zcode Tryz.underlying23 rfl HSI.out ?_; rw [Array.toArray_toList])
                refine (HCO.out _).mono ?_
                rintro e w5 ⟨rfl, hb5⟩
                have X5 := hide (X4.out.later hb5)
                have B5 := hide (B4.out.trans (hb5.mono B4.out.size))
                clear hb5 X4 B4 zst ztr zcode
                go_wp2_with (fail)
                refine (HCI.out _).mono ?_
                rintro e w6 ⟨rfl, hb6⟩
                have X6 := hide (X5.out.later hb6)
                have B6 := hide (B5.out.trans (hb6.mono B5.out.size))
                clear hb6 X5 B5
                go_wp2_with (fail)
                go_ret
                exact ⟨ret_n (a := headE n) (b := 4) (by simp [headE, hE, hr1, hcn, hr2, hd1, hd2, hlt, hci]), B6.out⟩
            · skip
              have zst := X4.out.st HLC.out
              have ztr := X4.out.tr HLC.out
              go_wp2_with (fail)
              go_ret
              exact ⟨ret_n (a := headE n) (b := 8) (by simp [headE, hE, hr1, hcn, hr2, hd1, hd2, hlt]), B4.out⟩
set_option maxRecDepth 100000 in
set_option maxHeartbeats 8000000 in
theorem sides_any (n : Ntc) (v : Value) (w : World) (hn : NOk n) :
    Calls Tryz.prog 24 #[.agg (nC n v)] w fun e w' => e = .returned (.int .i64 (sidesE n)) ∧ Below w.heap.size w w' := by
  have HLC := hide hn.code
  have HAC := hide (fun W : World => LC.refAccount_any n.acc W hn.acc)
  have HOT := hide (fun W : World => LC.refAccount_any n.oth W hn.oth)
  have HCU := hide (fun W : World => LC.refCurrency_any n.cur W hn.cur)
  have HBI := hide (fun W : World => LC.refBic_any n.agt W hn.agt)
  have X0 := hide (Bx.new w n v)
  have B0 := hide ((Below.refl w.heap.size w).alloc (Nat.le_refl _) (.cells (nC n v) 26))
  clear hn
  go_enter Tryz.func24, Tryz.ntmps24
  cases hql : decide (n.qty < 1)
  · skip
    rcases pair_of (LC.formR n.acc (LC.accF n.acc)) with ⟨hac, pb, hr⟩ | ⟨hac, pa, pb, hr, pz, pn⟩
    · rw [hr] at HAC
      dsimp only at HAC
      clear hr
      have zqty := X0.out.qty HLC.out
      have zacc := X0.out.acc HLC.out
      go_wp2_with (fail)
      refine (HAC.out _).mono ?_
      rintro e w1 ⟨rfl, hb1⟩
      have X1 := hide (X0.out.later hb1)
      have B1 := hide (B0.out.trans (hb1.mono B0.out.size))
      clear hb1 X0 B0 zqty zacc
      rcases pair_of (LC.formR n.agt (LC.bicF n.agt)) with ⟨hbi, pb, hr⟩ | ⟨hbi, pa, pb, hr, pz, pn⟩
      · rw [hr] at HBI
        dsimp only at HBI
        clear hr
        have zagt := X1.out.agt HLC.out
        go_wp2_with (fail)
        refine (HBI.out _).mono ?_
        rintro e w2 ⟨rfl, hb2⟩
        have X2 := hide (X1.out.later hb2)
        have B2 := hide (B1.out.trans (hb2.mono B1.out.size))
        clear hb2 X1 B1 zagt
        rcases pair_of (LC.formR n.oth (LC.accF n.oth)) with ⟨hot, pb, hr⟩ | ⟨hot, pa, pb, hr, pz, pn⟩
        · rw [hr] at HOT
          dsimp only at HOT
          clear hr
          have zoth := X2.out.oth HLC.out
          go_wp2_with (fail)
          refine (HOT.out _).mono ?_
          rintro e w3 ⟨rfl, hb3⟩
          have X3 := hide (X2.out.later hb3)
          have B3 := hide (B2.out.trans (hb3.mono B2.out.size))
          clear hb3 X2 B2 zoth
          cases hpy : n.py
          · have hce0 : (n.amt == 0) = decide (n.amt = 0) := by rfl
            have hne0 : (n.amt != 0) = !decide (n.amt = 0) := by rfl
            cases haz : decide (n.amt = 0)
            · skip
              have zpy := X3.out.py HLC.out
              have zamt := X3.out.amt HLC.out
              go_wp2_with (fail)
              go_ret
              exact ⟨ret_n (a := sidesE n) (b := 1) (by simp [sidesE, sE, hql, hac, hbi, hot, hpy, haz]), B3.out⟩
            · skip
              cases hce : n.cur.isEmpty
              · have hcb := bytes_nil_f hce
                have zpy := X3.out.py HLC.out
                have zamt := X3.out.amt HLC.out
                have zcur := X3.out.cur HLC.out
                go_wp2_with (fail)
                go_ret
                exact ⟨ret_n (a := sidesE n) (b := 1) (by simp [sidesE, sE, hql, hac, hbi, hot, hpy, haz, hce]), B3.out⟩
              · have hcb := bytes_nil_t hce
                have zpy := X3.out.py HLC.out
                have zamt := X3.out.amt HLC.out
                have zcur := X3.out.cur HLC.out
                go_wp2_with (fail)
                refine (HCU.out _).mono ?_
                rintro e w4 ⟨rfl, hb4⟩
                have X4 := hide (X3.out.later hb4)
                have B4 := hide (B3.out.trans (hb4.mono B3.out.size))
                clear hb4 X3 B3 zpy zamt zcur
                have zpy := X4.out.py HLC.out
                go_wp2_with (fail)
                go_ret
                exact ⟨ret_n (a := sidesE n) (b := 0) (by simp [sidesE, sE, hql, hac, hbi, hot, hpy, haz, hce]), B4.out⟩
          · skip
            cases hal : decide (n.amt < 1)
            · skip
              rcases pair_of (LC.formR n.cur LC.curF) with ⟨hcu, pb, hr⟩ | ⟨hcu, pa, pb, hr, pz, pn⟩
              · rw [hr] at HCU
                dsimp only at HCU
                clear hr
                have zpy := X3.out.py HLC.out
                have zamt := X3.out.amt HLC.out
                have zcur := X3.out.cur HLC.out
                go_wp2_with (fail)
                refine (HCU.out _).mono ?_
                rintro e w4 ⟨rfl, hb4⟩
                have X4 := hide (X3.out.later hb4)
                have B4 := hide (B3.out.trans (hb4.mono B3.out.size))
                clear hb4 X3 B3 zpy zamt zcur
                have zpy := X4.out.py HLC.out
                go_wp2_with (fail)
                go_ret
                exact ⟨ret_n (a := sidesE n) (b := 0) (by simp [sidesE, sE, hql, hac, hbi, hot, hpy, hal, hcu]), B4.out⟩
              · rw [hr] at HCU
                dsimp only at HCU
                clear hr
                have zpy := X3.out.py HLC.out
                have zamt := X3.out.amt HLC.out
                have zcur := X3.out.cur HLC.out
                go_wp2_with (fail)
                refine (HCU.out _).mono ?_
                rintro e w4 ⟨rfl, hb4⟩
                have X4 := hide (X3.out.later hb4)
                have B4 := hide (B3.out.trans (hb4.mono B3.out.size))
                clear hb4 X3 B3 zpy zamt zcur
                have zpy := X4.out.py HLC.out
                go_wp2_with (fail)
                go_ret
                exact ⟨ret_n (a := sidesE n) (b := 4) (by simp [sidesE, sE, hql, hac, hbi, hot, hpy, hal, hcu]), B4.out⟩
            · skip
              have zpy := X3.out.py HLC.out
              have zamt := X3.out.amt HLC.out
              go_wp2_with (fail)
              go_ret
              exact ⟨ret_n (a := sidesE n) (b := 16) (by simp [sidesE, sE, hql, hac, hbi, hot, hpy, hal]), B3.out⟩
        · rw [hr] at HOT
          dsimp only at HOT
          clear hr
          have zoth := X2.out.oth HLC.out
          go_wp2_with (fail)
          refine (HOT.out _).mono ?_
          rintro e w3 ⟨rfl, hb3⟩
          have X3 := hide (X2.out.later hb3)
          have B3 := hide (B2.out.trans (hb3.mono B2.out.size))
          clear hb3 X2 B2 zoth
          go_wp2_with (fail)
          go_ret
          exact ⟨ret_n (a := sidesE n) (b := 14) (by simp [sidesE, sE, hql, hac, hbi, hot]), B3.out⟩
      · rw [hr] at HBI
        dsimp only at HBI
        clear hr
        have zagt := X1.out.agt HLC.out
        go_wp2_with (fail)
        refine (HBI.out _).mono ?_
        rintro e w2 ⟨rfl, hb2⟩
        have X2 := hide (X1.out.later hb2)
        have B2 := hide (B1.out.trans (hb2.mono B1.out.size))
        clear hb2 X1 B1 zagt
        go_wp2_with (fail)
        go_ret
        exact ⟨ret_n (a := sidesE n) (b := 4) (by simp [sidesE, sE, hql, hac, hbi]), B2.out⟩
    · rw [hr] at HAC
      dsimp only at HAC
      clear hr
      have zqty := X0.out.qty HLC.out
      have zacc := X0.out.acc HLC.out
      go_wp2_with (fail)
      refine (HAC.out _).mono ?_
      rintro e w1 ⟨rfl, hb1⟩
      have X1 := hide (X0.out.later hb1)
      have B1 := hide (B0.out.trans (hb1.mono B0.out.size))
      clear hb1 X0 B0 zqty zacc
      go_wp2_with (fail)
      go_ret
      exact ⟨ret_n (a := sidesE n) (b := 14) (by simp [sidesE, sE, hql, hac]), B1.out⟩
  · skip
    have zqty := X0.out.qty HLC.out
    go_wp2_with (fail)
    go_ret
    exact ⟨ret_n (a := sidesE n) (b := 16) (by simp [sidesE, sE, hql]), B0.out⟩
end Go.Proofs.YtbaideeiljeamaaGreatDoor
namespace Go.Proofs.YtbaideeiljeamaaGreatDoor
open Go.RowKit LC

abbrev Lnk := Int × List UInt8
/-- A row of links. -/
def RL (w : World) (v : Value) (ls : List Lnk) : Prop := ∃ a cap, v = .slice a ls.length cap ∧ (ls = [] ∨ ∃ b off, a = some ⟨b, off, none⟩ ∧ b < w.heap.size ∧ ∀ (j : Nat) (p : Lnk), ls[j]? = some p → w.cell? ⟨b, off + j * 2, none⟩ = some (.int .i64 p.1) ∧ w.cell? ⟨b, off + j * 2 + 1, none⟩ = some (.string ⟨p.2.toArray⟩))
theorem RL.later {w w' : World} {v : Value} {ls : List Lnk} (h : RL w v ls) (hb : Below w.heap.size w w') : RL w' v ls := by
  obtain ⟨a, cap, hv, h⟩ := h
  refine ⟨a, cap, hv, ?_⟩
  rcases h with h | ⟨b, off, ha, hlt, hc⟩
  · exact .inl h
  · exact .inr ⟨b, off, ha, Nat.lt_of_lt_of_le hlt hb.size, fun j p hj => ⟨(hb.cell (p := ⟨b, _, none⟩) hlt).trans (hc j p hj).1, (hb.cell (p := ⟨b, _, none⟩) hlt).trans (hc j p hj).2⟩⟩
/-- What is wrong with links. -/
def linkE (ref : List UInt8) : List Lnk → Int
  | [] => 0
  | (k, r) :: t => if decide (k < 1) || decide (3 < k) then 24 else if !refB r then 6 else if decide (r = ref) then 17 else linkE ref t
def linksE (ref : List UInt8) (ls : List Lnk) : Int := if 16 < ls.length then 5 else linkE ref ls
theorem linkE_step {ref r : List UInt8} {k : Int} {ls : List Lnk} {j : Nat} (h : ls[j]? = some (k, r)) : linkE ref (ls.drop j) = (if decide (k < 1) || decide (3 < k) then 24 else if !refB r then 6 else if decide (r = ref) then 17 else linkE ref (ls.drop (j + 1))) := by
  have hj : j < ls.length := (List.getElem?_eq_some_iff.1 h).1
  have he : ls.drop j = (k, r) :: ls.drop (j + 1) := by
    rw [List.drop_eq_getElem_cons hj]; congr 1; exact (List.getElem?_eq_some_iff.1 h).2
  rw [he]; rfl
theorem Tryz.sizeLnk : (Tryz.prog.info? 39).map (·.size) = some 2 := by kernel_rfl
theorem Tryz.sizeNtc : (Tryz.prog.info? 26).map (·.size) = some 27 := by kernel_rfl
theorem ret_e {a : Int} {v : Value} (k : Int) (h : a = k) (hv : v = errV k) : Ending.returned v = .returned (errV a) := by rw [h, hv]
def LOk (ls : List Lnk) : Prop := ∀ p ∈ ls, p.2.length ≤ 140737488355328
theorem pair_cells {w : World} {o : Obj} {a b : Value} {t : TypeId} {g : Nat} (h : w.heap[g]? = some o) (ho : o = .cells #[a, b] t (0, 0)) : w.cell? ⟨g, 0, none⟩ = some a ∧ w.cell? ⟨g, 1, none⟩ = some b := by
  subst ho
  exact ⟨by rw [cell_of_row _ _ 0 _ _ _ h]; rfl, by rw [cell_of_row _ _ 1 _ _ _ h]; rfl⟩
set_option maxRecDepth 100000 in
set_option maxHeartbeats 4000000 in
theorem checkLinks_any (n : Ntc) (v : Value) (ls : List Lnk) (w : World) (hn : NOk n) (hv : RL w v ls) (hL : LOk ls) (hlen : ls.length ≤ 9223372036854775807) :
    Calls Tryz.prog 35 #[.agg (nC n v)] w fun e w' => e = .returned (errV (linksE n.ref ls)) ∧ Below w.heap.size w w' := by
  have HLC := hide hn.code
  have HRL := hide hv
  have X0 := hide (Bx.new w n v)
  have B0 := hide ((Below.refl w.heap.size w).alloc (Nat.le_refl _) (.cells (nC n v) 26))
  have HLO := hide hL
  clear hn hL
  obtain ⟨a, cap, rfl, hr⟩ := hv
  have HR := hide hr
  clear hr
  by_cases h16 : 16 < ls.length
  · have HE : Hid (linksE n.ref ls = 5) := hide (if_pos h16)
    have zlinks := X0.out.links HLC.out
    go_enter Tryz.func35, Tryz.ntmps35
    go_wp2_with fail
    go_ret
    exact ⟨ret_e 5 HE.out rfl, B0.out⟩
  have HE : Hid (linksE n.ref ls = linkE n.ref ls) := hide (if_neg h16)
  have zlinks := X0.out.links HLC.out
  go_enter Tryz.func35, Tryz.ntmps35
  go_wp2_with fail
  go_loopw [13] (fun i wr => ∃ k : Nat, k ≤ ls.length ∧ i = .int .i64 k ∧ Hid (linkE n.ref ls = linkE n.ref (ls.drop k)) ∧ Hid (Bx wr w.heap.size n (.slice a ls.length cap)) ∧ Hid (Below w.heap.size w wr)) (fun i _ => ls.length - (intOf i).toNat)
  case atStart => exact ⟨0, Nat.zero_le _, rfl, hide (by rw [List.drop_zero]), X0, B0⟩
  case round =>
    clear zlinks X0 B0
    obtain ⟨k, hk, rfl, HD, X, B⟩ := hrel
    by_cases hlt : k < ls.length
    · obtain ⟨⟨kd, r⟩, hp⟩ : ∃ p, ls[k]? = some p := ⟨_, List.getElem?_eq_getElem hlt⟩
      have HP := hide hp
      have HST := hide (linkE_step (ref := n.ref) hp)
      have HRF := hide (fun W : World => isRef_any r W (HLO.out (kd, r) (List.mem_of_getElem? hp)))
      obtain ⟨b, off, ha, hbl, hc⟩ := HR.out.resolve_left (fun h => by rw [h] at hlt; simp at hlt)
      have c0 : wr.cell? ⟨b, off + k * 2, none⟩ = some (.int .i64 kd) := (B.out.cell (p := ⟨b, _, none⟩) hbl).trans (hc k _ hp).1
      have c1 : wr.cell? ⟨b, off + k * 2 + 1, none⟩ = some (.string ⟨r.toArray⟩) := (B.out.cell (p := ⟨b, _, none⟩) hbl).trans (hc k _ hp).2
      have c1' : wr.cell? ⟨b, off + (k * 2 + 1), none⟩ = some (.string ⟨r.toArray⟩) := c1
      subst ha
      clear hc hp
      have XA := hide (X.out.alloc (.cells #[.int .i64 kd, .string ⟨r.toArray⟩] 39))
      have BA := hide (B.out.alloc B.out.size (.cells #[.int .i64 kd, .string ⟨r.toArray⟩] 39))
      have NA := hide (LC.alloc_new wr (.cells #[.int .i64 kd, .string ⟨r.toArray⟩] 39))
      cases hk1 : decide (kd < 1)
      · cases hk3 : decide (3 < kd)
        · cases hrf : refB r
          · rw [hrf] at HRF
            go_wp2_with fail
            refine (HRF.out _).mono ?_
            rintro e w1 ⟨rfl, hb1⟩
            have B1 := hide (BA.out.trans (hb1.mono BA.out.size))
            clear hb1
            go_wp2_with fail
            go_ret
            exact ⟨ret_e 6 (by rw [HE.out, HD.out, HST.out]; simp [hk1, hk3, hrf]) rfl, B1.out⟩
          · rw [hrf] at HRF
            go_wp2_with fail
            refine (HRF.out _).mono ?_
            rintro e w1 ⟨rfl, hb1⟩
            have B1 := hide (BA.out.trans (hb1.mono BA.out.size))
            have X1 := hide (XA.out.later hb1)
            have N1 := (hb1.block wr.heap.size (by simp)).trans NA.out
            obtain ⟨d0, d1⟩ := pair_cells N1 rfl
            have zref := X1.out.ref HLC.out
            have hq : (r == n.ref) = decide (r = n.ref) := by rw [Bool.eq_iff_iff]; simp
            clear hb1 N1
            cases hsm : decide (r = n.ref)
            · rw [hsm] at hq
              have HN : Hid (linkE n.ref ls = linkE n.ref (ls.drop (k + 1))) := by show _ = _; rw [HD.out, HST.out]; simp [hk1, hk3, hrf, hsm]
              go_wp2_with fail
              go_roundw
              case rel => exact ⟨k + 1, by omega, by go_num, HN, X1, B1⟩
              case measure => simp [intOf]; omega
            · rw [hsm] at hq
              go_wp2_with fail
              go_ret
              exact ⟨ret_e 17 (by rw [HE.out, HD.out, HST.out]; simp [hk1, hk3, hrf, hsm]) rfl, B1.out⟩
        · go_wp2_with fail
          go_ret
          exact ⟨ret_e 24 (by rw [HE.out, HD.out, HST.out]; simp [hk3]) rfl, BA.out⟩
      · go_wp2_with fail
        go_ret
        exact ⟨ret_e 24 (by rw [HE.out, HD.out, HST.out]; simp [hk1]) rfl, BA.out⟩
    · have hk' : k = ls.length := by omega
      subst hk'
      go_wp2_with fail
      go_ret
      exact ⟨ret_e 0 (by rw [HE.out, HD.out, List.drop_length]; rfl) rfl, B.out⟩
set_option maxRecDepth 100000 in
set_option maxHeartbeats 4000000 in
/-- What is wrong with a notice. -/
theorem nCheck_any (n : Ntc) (v : Value) (ls : List Lnk) (w : World) (hn : NOk n) (hv : RL w v ls) (hL : LOk ls) (hlen : ls.length ≤ 9223372036854775807) (HM : Hid (MDays w)) (HO : Hid (LC.HeadOffice w)) :
    Calls Tryz.prog 14 #[.agg (nC n v)] w fun e w' => e = .returned (errV (if termsE n ≠ 0 then termsE n else linksE n.ref ls)) ∧ Below w.heap.size w w' := by
  have HCT := hide (fun (W : World) (h1 : Hid (MDays W)) (h2 : Hid (LC.HeadOffice W)) => checkTerms_any n v W hn h1 h2)
  have HCL := hide (fun (W : World) (h : RL W v ls) => checkLinks_any n v ls W hn h hL hlen)
  have HSZ : Hid ((Tryz.prog.info? 26).map (·.size) = some (nC n v).size) := by show _ = _; rw [nC_size n v hn.code]; exact Tryz.sizeNtc
  have HRL := hide hv
  have X0 := hide (Bx.new w n v)
  have B0 := hide ((Below.refl w.heap.size w).alloc (Nat.le_refl _) (.cells (nC n v) 26))
  clear hn hL hv hlen
  by_cases h0 : termsE n = 0
  · rw [if_neg (by simp [h0])]
    rw [h0, errV_zero] at HCT
    clear h0
    go_enter Tryz.func14, Tryz.ntmps14
    go_wp2_with (refine wpList_load_row rfl 26 (.tmp 1) rfl w.heap.size rfl _ (nC n v) _ _ X0.out Tryz.underlying26 rfl HSZ.out ?_)
    refine (HCT.out _ (hide (HM.out.below B0.out)) (hide (HO.out.below B0.out))).mono ?_
    rintro e w1 ⟨rfl, hb1⟩
    have X1 := hide (X0.out.later hb1)
    have B1 := hide (B0.out.trans (hb1.mono B0.out.size))
    clear hb1 X0 B0
    go_wp2_with (refine wpList_load_row rfl 26 (.tmp 1) rfl w.heap.size rfl _ (nC n v) _ _ X1.out Tryz.underlying26 rfl HSZ.out ?_)
    refine (HCL.out _ (HRL.out.later B1.out)).mono ?_
    rintro e w2 ⟨rfl, hb2⟩
    have B2 := hide (B1.out.trans (hb2.mono B1.out.size))
    clear hb2 X1 B1
    go_wp2_with fail
    go_ret
    exact ⟨rfl, B2.out⟩
  · rw [if_pos h0]
    obtain ⟨u, hu⟩ : ∃ u, errV (termsE n) = .iface 50 u := ⟨_, by unfold errV; rw [if_neg h0]⟩
    rw [hu] at HCT ⊢
    clear h0 hu
    go_enter Tryz.func14, Tryz.ntmps14
    go_wp2_with (refine wpList_load_row rfl 26 (.tmp 1) rfl w.heap.size rfl _ (nC n v) _ _ X0.out Tryz.underlying26 rfl HSZ.out ?_)
    refine (HCT.out _ (hide (HM.out.below B0.out)) (hide (HO.out.below B0.out))).mono ?_
    rintro e w1 ⟨rfl, hb1⟩
    have B1 := hide (B0.out.trans (hb1.mono B0.out.size))
    clear hb1 X0 B0
    go_wp2_with fail
    go_ret
    exact ⟨rfl, B1.out⟩
end Go.Proofs.YtbaideeiljeamaaGreatDoor
