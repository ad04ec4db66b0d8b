/-
  My own text: N3a, N3 in one.
-/
import Derived.Test.YtbaideeiljeamaaGreatDoorN2
namespace Go.Proofs.YtbaideeiljeamaaGreatDoor
open Go.RowKit LC

/-- A notice without its links. -/
structure Ntc where
  ref : List UInt8
  prev : List UInt8
  cn : Bool
  rc : Bool
  py : Bool
  tr : Int
  st : Int
  code : List UInt8
  qty : Int
  acc : List UInt8
  agt : List UInt8
  oth : List UInt8
  amt : Int
  cur : List UInt8
  pri : Int
/-- Its cells. -/
def nC (n : Ntc) (v : Value) : Array Value := (([.string ⟨n.ref.toArray⟩, .string ⟨n.prev.toArray⟩, .bool n.cn, .bool n.rc, .bool n.py, .int .i64 n.tr, .int .i64 n.st] : List Value) ++ nb n.code ++ ([.int .i64 n.qty, .string ⟨n.acc.toArray⟩, .string ⟨n.agt.toArray⟩, .string ⟨n.oth.toArray⟩, .int .i64 n.amt, .string ⟨n.cur.toArray⟩, .int .i64 n.pri, v] : List Value)).toArray
/-- What a run's notice keeps to. -/
structure NOk (n : Ntc) : Prop where
  code : n.code.length = 12
  ref : n.ref.length ≤ 140737488355328
  prev : n.prev.length ≤ 140737488355328
  acc : n.acc.length ≤ 140737488355328
  agt : n.agt.length ≤ 140737488355328
  oth : n.oth.length ≤ 140737488355328
  cur : n.cur.length ≤ 140737488355328
/-- A notice in a block of its own. -/
def Bx (w : World) (g : Nat) (n : Ntc) (v : Value) : Prop := w.heap[g]? = some (.cells (nC n v) 26 (0, 0))
theorem Bx.lt {w : World} {g : Nat} {n : Ntc} {v : Value} (h : Bx w g n v) : g < w.heap.size := (Array.getElem?_eq_some_iff.1 h).1
theorem Bx.later {w w' : World} {g : Nat} {n : Ntc} {v : Value} (h : Bx w g n v) (hb : Below w.heap.size w w') : Bx w' g n v := (hb.block g h.lt).trans h
theorem Bx.new (w : World) (n : Ntc) (v : Value) : Bx (w.alloc (.cells (nC n v) 26)) w.heap.size n v := LC.alloc_new w _
theorem Bx.alloc {w : World} {g : Nat} {n : Ntc} {v : Value} (h : Bx w g n v) (o : Obj) : Bx (w.alloc o) g n v := LC.alloc_block h
theorem nC_size (n : Ntc) (v : Value) (h : n.code.length = 12) : (nC n v).size = 27 := by simp [nC, nb, h]
theorem nC_one (n : Ntc) (v : Value) (hv : v.oneCell' = true) : (nC n v).all (·.oneCell') = true := by
  simp [nC, nb, Value.oneCell']
  exact hv
theorem nC_cases {n : Ntc} (h : n.code.length = 12) : ∃ c0 c1 c2 c3 c4 c5 c6 c7 c8 c9 c10 c11, n.code = [c0, c1, c2, c3, c4, c5, c6, c7, c8, c9, c10, c11] := LC.len12 h
theorem Bx.ref {w : World} {g : Nat} {n : Ntc} {v : Value} (h : Bx w g n v) (hc : n.code.length = 12) : w.cell? ⟨g, 0, none⟩ = some (.string ⟨n.ref.toArray⟩) := by
  obtain ⟨c0, c1, c2, c3, c4, c5, c6, c7, c8, c9, c10, c11, he⟩ := nC_cases hc
  rw [cell_of_row _ _ 0 _ _ _ h]; unfold nC nb; rw [he]; rfl
theorem Bx.prev {w : World} {g : Nat} {n : Ntc} {v : Value} (h : Bx w g n v) (hc : n.code.length = 12) : w.cell? ⟨g, 1, none⟩ = some (.string ⟨n.prev.toArray⟩) := by
  obtain ⟨c0, c1, c2, c3, c4, c5, c6, c7, c8, c9, c10, c11, he⟩ := nC_cases hc
  rw [cell_of_row _ _ 1 _ _ _ h]; unfold nC nb; rw [he]; rfl
theorem Bx.cn {w : World} {g : Nat} {n : Ntc} {v : Value} (h : Bx w g n v) (hc : n.code.length = 12) : w.cell? ⟨g, 2, none⟩ = some (.bool n.cn) := by
  obtain ⟨c0, c1, c2, c3, c4, c5, c6, c7, c8, c9, c10, c11, he⟩ := nC_cases hc
  rw [cell_of_row _ _ 2 _ _ _ h]; unfold nC nb; rw [he]; rfl
theorem Bx.rc {w : World} {g : Nat} {n : Ntc} {v : Value} (h : Bx w g n v) (hc : n.code.length = 12) : w.cell? ⟨g, 3, none⟩ = some (.bool n.rc) := by
  obtain ⟨c0, c1, c2, c3, c4, c5, c6, c7, c8, c9, c10, c11, he⟩ := nC_cases hc
  rw [cell_of_row _ _ 3 _ _ _ h]; unfold nC nb; rw [he]; rfl
theorem Bx.py {w : World} {g : Nat} {n : Ntc} {v : Value} (h : Bx w g n v) (hc : n.code.length = 12) : w.cell? ⟨g, 4, none⟩ = some (.bool n.py) := by
  obtain ⟨c0, c1, c2, c3, c4, c5, c6, c7, c8, c9, c10, c11, he⟩ := nC_cases hc
  rw [cell_of_row _ _ 4 _ _ _ h]; unfold nC nb; rw [he]; rfl
theorem Bx.tr {w : World} {g : Nat} {n : Ntc} {v : Value} (h : Bx w g n v) (hc : n.code.length = 12) : w.cell? ⟨g, 5, none⟩ = some (.int .i64 n.tr) := by
  obtain ⟨c0, c1, c2, c3, c4, c5, c6, c7, c8, c9, c10, c11, he⟩ := nC_cases hc
  rw [cell_of_row _ _ 5 _ _ _ h]; unfold nC nb; rw [he]; rfl
theorem Bx.st {w : World} {g : Nat} {n : Ntc} {v : Value} (h : Bx w g n v) (hc : n.code.length = 12) : w.cell? ⟨g, 6, none⟩ = some (.int .i64 n.st) := by
  obtain ⟨c0, c1, c2, c3, c4, c5, c6, c7, c8, c9, c10, c11, he⟩ := nC_cases hc
  rw [cell_of_row _ _ 6 _ _ _ h]; unfold nC nb; rw [he]; rfl
theorem Bx.qty {w : World} {g : Nat} {n : Ntc} {v : Value} (h : Bx w g n v) (hc : n.code.length = 12) : w.cell? ⟨g, 19, none⟩ = some (.int .i64 n.qty) := by
  obtain ⟨c0, c1, c2, c3, c4, c5, c6, c7, c8, c9, c10, c11, he⟩ := nC_cases hc
  rw [cell_of_row _ _ 19 _ _ _ h]; unfold nC nb; rw [he]; rfl
theorem Bx.acc {w : World} {g : Nat} {n : Ntc} {v : Value} (h : Bx w g n v) (hc : n.code.length = 12) : w.cell? ⟨g, 20, none⟩ = some (.string ⟨n.acc.toArray⟩) := by
  obtain ⟨c0, c1, c2, c3, c4, c5, c6, c7, c8, c9, c10, c11, he⟩ := nC_cases hc
  rw [cell_of_row _ _ 20 _ _ _ h]; unfold nC nb; rw [he]; rfl
theorem Bx.agt {w : World} {g : Nat} {n : Ntc} {v : Value} (h : Bx w g n v) (hc : n.code.length = 12) : w.cell? ⟨g, 21, none⟩ = some (.string ⟨n.agt.toArray⟩) := by
  obtain ⟨c0, c1, c2, c3, c4, c5, c6, c7, c8, c9, c10, c11, he⟩ := nC_cases hc
  rw [cell_of_row _ _ 21 _ _ _ h]; unfold nC nb; rw [he]; rfl
theorem Bx.oth {w : World} {g : Nat} {n : Ntc} {v : Value} (h : Bx w g n v) (hc : n.code.length = 12) : w.cell? ⟨g, 22, none⟩ = some (.string ⟨n.oth.toArray⟩) := by
  obtain ⟨c0, c1, c2, c3, c4, c5, c6, c7, c8, c9, c10, c11, he⟩ := nC_cases hc
  rw [cell_of_row _ _ 22 _ _ _ h]; unfold nC nb; rw [he]; rfl
theorem Bx.amt {w : World} {g : Nat} {n : Ntc} {v : Value} (h : Bx w g n v) (hc : n.code.length = 12) : w.cell? ⟨g, 23, none⟩ = some (.int .i64 n.amt) := by
  obtain ⟨c0, c1, c2, c3, c4, c5, c6, c7, c8, c9, c10, c11, he⟩ := nC_cases hc
  rw [cell_of_row _ _ 23 _ _ _ h]; unfold nC nb; rw [he]; rfl
theorem Bx.cur {w : World} {g : Nat} {n : Ntc} {v : Value} (h : Bx w g n v) (hc : n.code.length = 12) : w.cell? ⟨g, 24, none⟩ = some (.string ⟨n.cur.toArray⟩) := by
  obtain ⟨c0, c1, c2, c3, c4, c5, c6, c7, c8, c9, c10, c11, he⟩ := nC_cases hc
  rw [cell_of_row _ _ 24 _ _ _ h]; unfold nC nb; rw [he]; rfl
theorem Bx.pri {w : World} {g : Nat} {n : Ntc} {v : Value} (h : Bx w g n v) (hc : n.code.length = 12) : w.cell? ⟨g, 25, none⟩ = some (.int .i64 n.pri) := by
  obtain ⟨c0, c1, c2, c3, c4, c5, c6, c7, c8, c9, c10, c11, he⟩ := nC_cases hc
  rw [cell_of_row _ _ 25 _ _ _ h]; unfold nC nb; rw [he]; rfl
theorem Bx.links {w : World} {g : Nat} {n : Ntc} {v : Value} (h : Bx w g n v) (hc : n.code.length = 12) : w.cell? ⟨g, 26, none⟩ = some v := by
  obtain ⟨c0, c1, c2, c3, c4, c5, c6, c7, c8, c9, c10, c11, he⟩ := nC_cases hc
  rw [cell_of_row _ _ 26 _ _ _ h]; unfold nC nb; rw [he]; rfl
theorem Bx.code {w : World} {g : Nat} {n : Ntc} {v : Value} (h : Bx w g n v) (_ : n.code.length = 12) : w.rangeAt g 7 (LC.cel n.code).toList := fun j u hj => by
  have hjl : j < n.code.length := by have := (List.getElem?_eq_some_iff.1 hj).1; simpa [LC.cel] using this
  rw [cell_of_row _ _ (7 + j) _ _ _ h]
  have e : (nC n v)[7 + j]? = (nb n.code)[j]? := by
    unfold nC
    rw [List.getElem?_toArray, List.append_assoc, List.getElem?_append_right (by simp), List.getElem?_append_left (by simp [nb]; omega)]
    simp
  rw [e]; simpa [LC.cel, nb] using hj
theorem bytes_beq (a b : List UInt8) : ((⟨a.toArray⟩ : ByteArray) == ⟨b.toArray⟩) = decide (a = b) := by
  show (a.toArray == b.toArray) = _
  by_cases h : a = b
  · subst h; simp
  · rw [decide_eq_false h]; simpa using h
theorem bytes_nil_t {l : List UInt8} (h : l.isEmpty = true) : ((⟨l.toArray⟩ : ByteArray) != ⟨#[]⟩) = false := by
  have h2 : l = [] := by simpa using h
  show (!((⟨l.toArray⟩ : ByteArray) == ⟨([] : List UInt8).toArray⟩)) = _
  rw [bytes_beq, decide_eq_true h2]; rfl
theorem bytes_nil_f {l : List UInt8} (h : l.isEmpty = false) : ((⟨l.toArray⟩ : ByteArray) != ⟨#[]⟩) = true := by
  have h2 : ¬ l = [] := by simpa using h
  show (!((⟨l.toArray⟩ : ByteArray) == ⟨([] : List UInt8).toArray⟩)) = _
  rw [bytes_beq, decide_eq_false h2]; rfl
/-- What is wrong, by the tests in their order. -/
def tE (r1 cn r2 pe d1 d2 lt ci ql ac bi ot py al cu az ce pl pg : Bool) : Int :=
  if !r1 then 6 else if cn && !r2 then 6 else if !cn && !pe then 6 else if !d1 then 8 else if !d2 then 8 else if lt then 8 else if !ci then 4 else if ql then 16 else if !ac then 14 else if !bi then 4 else if !ot then 14 else if py && al then 16 else if py && !cu then 4 else if !py && (!az || !ce) then 1 else if pl then 1 else if pg then 1 else 0
def termsE (n : Ntc) : Int := tE (refB n.ref) n.cn (refB n.prev) n.prev.isEmpty (dayB n.tr) (dayB n.st) (decide (n.st < n.tr)) (okE (LC.isinR n.code)) (decide (n.qty < 1)) (okE (LC.formR n.acc (LC.accF n.acc))) (okE (LC.formR n.agt (LC.bicF n.agt))) (okE (LC.formR n.oth (LC.accF n.oth))) n.py (decide (n.amt < 1)) (okE (LC.formR n.cur LC.curF)) (decide (n.amt = 0)) n.cur.isEmpty (decide (n.pri < 0)) (decide (9999 < n.pri))
/-- The error of a look that passed or didn't, as a value. -/
theorem errF_of (r : Int × Int) : (okE r = true ∧ LC.errF r = .nilIface) ∨ (okE r = false ∧ ∃ t u, LC.errF r = .iface t u) := by
  by_cases h : r.1 = 0
  · exact .inl ⟨okE_yes h, errF_nil h⟩
  · exact .inr ⟨okE_no h, LC.errF_iface h⟩
theorem ret_err {a b : Int} (h : a = b) : Ending.returned (errV a) = .returned (errV b) := by rw [h]
end Go.Proofs.YtbaideeiljeamaaGreatDoor
namespace Go.Proofs.YtbaideeiljeamaaGreatDoor
open Go.RowKit LC

theorem ret_tE {n : Ntc} {k : Int} {v : Value} (h : termsE n = k) (hv : v = errV k) : Ending.returned v = .returned (errV (termsE n)) := by rw [h, hv]
set_option maxRecDepth 100000 in
set_option maxHeartbeats 8000000 in
theorem checkTerms_any (n : Ntc) (v : Value) (w : World) (hn : NOk n) (HM : Hid (MDays w)) (HO : Hid (LC.HeadOffice w)) :
    Calls Tryz.prog 34 #[.agg (nC n v)] w fun e w' => e = .returned (errV (termsE n)) ∧ Below w.heap.size w w' := by
  have HLC := hide hn.code
  have HSI : Hid ((Tryz.prog.info? 23).map (·.size) = some (LC.cel n.code).toList.length) := by show _ = _; rw [Array.length_toList, LC.cel_size, HLC.out]; exact LC.Tryz.sizeIsin
  have HR1 := hide (fun W : World => isRef_any n.ref W hn.ref)
  have HR2 := hide (fun W : World => isRef_any n.prev W hn.prev)
  have HD1 := hide (fun (W : World) (h : Hid (MDays W)) => nIsDay_any n.tr W h)
  have HD2 := hide (fun (W : World) (h : Hid (MDays W)) => nIsDay_any n.st W h)
  have HCI := hide (fun W : World => nIsIsin_any n.code W hn.code)
  have HAC := hide (fun W : World => LC.account_any n.acc W hn.acc)
  have HOT := hide (fun W : World => LC.account_any n.oth W hn.oth)
  have HCU := hide (fun W : World => LC.currency_any n.cur W hn.cur)
  have HBI := hide (fun (W : World) (h : LC.HeadOffice W) => nIsBic_any n.agt W h hn.agt)
  have X0 := hide (Bx.new w n v)
  have B0 := hide ((Below.refl w.heap.size w).alloc (Nat.le_refl _) (.cells (nC n v) 26))
  clear hn
  go_enter Tryz.func34, Tryz.ntmps34
  cases hr1 : refB n.ref
  · rw [hr1] at HR1
    have zref := X0.out.ref HLC.out
    go_wp2_with (fail)
    refine (HR1.out _).mono ?_
    rintro e w1 ⟨rfl, hb1⟩
    have X1 := hide (X0.out.later hb1)
    have B1 := hide (B0.out.trans (hb1.mono B0.out.size))
    clear hb1 X0 B0 zref
    go_wp2_with (fail)
    go_ret
    exact ⟨ret_tE (k := 6) (by simp [termsE, tE, hr1]) rfl, B1.out⟩
  · rw [hr1] at HR1
    have zref := X0.out.ref HLC.out
    go_wp2_with (fail)
    refine (HR1.out _).mono ?_
    rintro e w1 ⟨rfl, hb1⟩
    have X1 := hide (X0.out.later hb1)
    have B1 := hide (B0.out.trans (hb1.mono B0.out.size))
    clear hb1 X0 B0 zref
    cases hcn : n.cn
    · cases hpe : n.prev.isEmpty
      · have hpb := bytes_nil_f hpe
        have zcn := X1.out.cn HLC.out
        have zprev := X1.out.prev HLC.out
        go_wp2_with (fail)
        go_ret
        exact ⟨ret_tE (k := 6) (by simp [termsE, tE, hr1, hcn, hpe]) rfl, B1.out⟩
      · have hpb := bytes_nil_t hpe
        cases hd1 : dayB n.tr
        · rw [hd1] at HD1
          have zcn := X1.out.cn HLC.out
          have zprev := X1.out.prev HLC.out
          have ztr := X1.out.tr HLC.out
          go_wp2_with (fail)
          refine (HD1.out _ (hide (HM.out.below B1.out))).mono ?_
          rintro e w2 ⟨rfl, hb2⟩
          have X2 := hide (X1.out.later hb2)
          have B2 := hide (B1.out.trans (hb2.mono B1.out.size))
          clear hb2 X1 B1 zcn zprev ztr
          go_wp2_with (fail)
          go_ret
          exact ⟨ret_tE (k := 8) (by simp [termsE, tE, hr1, hcn, hpe, hd1]) rfl, B2.out⟩
        · rw [hd1] at HD1
          have zcn := X1.out.cn HLC.out
          have zprev := X1.out.prev HLC.out
          have ztr := X1.out.tr HLC.out
          go_wp2_with (fail)
          refine (HD1.out _ (hide (HM.out.below B1.out))).mono ?_
          rintro e w2 ⟨rfl, hb2⟩
          have X2 := hide (X1.out.later hb2)
          have B2 := hide (B1.out.trans (hb2.mono B1.out.size))
          clear hb2 X1 B1 zcn zprev ztr
          cases hd2 : dayB n.st
          · rw [hd2] at HD2
            have zst := X2.out.st HLC.out
            go_wp2_with (fail)
            refine (HD2.out _ (hide (HM.out.below B2.out))).mono ?_
            rintro e w3 ⟨rfl, hb3⟩
            have X3 := hide (X2.out.later hb3)
            have B3 := hide (B2.out.trans (hb3.mono B2.out.size))
            clear hb3 X2 B2 zst
            go_wp2_with (fail)
            go_ret
            exact ⟨ret_tE (k := 8) (by simp [termsE, tE, hr1, hcn, hpe, hd1, hd2]) rfl, B3.out⟩
          · rw [hd2] at HD2
            have zst := X2.out.st HLC.out
            go_wp2_with (fail)
            refine (HD2.out _ (hide (HM.out.below B2.out))).mono ?_
            rintro e w3 ⟨rfl, hb3⟩
            have X3 := hide (X2.out.later hb3)
            have B3 := hide (B2.out.trans (hb3.mono B2.out.size))
            clear hb3 X2 B2 zst
            cases hlt : decide (n.st < n.tr)
            · skip
              cases hci : okE (LC.isinR n.code)
              · rw [hci] at HCI
                have zst := X3.out.st HLC.out
                have ztr := X3.out.tr HLC.out
                have zcode := X3.out.code HLC.out
                go_wp2_with (refine wpList_load_mid rfl 23 (.tmp 41) rfl w.heap.size 7 rfl (LC.cel n.code).toList _ zcode Tryz.underlying23 rfl HSI.out ?_; rw [Array.toArray_toList])
                refine (HCI.out _).mono ?_
                rintro e w4 ⟨rfl, hb4⟩
                have X4 := hide (X3.out.later hb4)
                have B4 := hide (B3.out.trans (hb4.mono B3.out.size))
                clear hb4 X3 B3 zst ztr zcode
                go_wp2_with (fail)
                go_ret
                exact ⟨ret_tE (k := 4) (by simp [termsE, tE, hr1, hcn, hpe, hd1, hd2, hlt, hci]) rfl, B4.out⟩
              · rw [hci] at HCI
                have zst := X3.out.st HLC.out
                have ztr := X3.out.tr HLC.out
                have zcode := X3.out.code HLC.out
                go_wp2_with (refine wpList_load_mid rfl 23 (.tmp 41) rfl w.heap.size 7 rfl (LC.cel n.code).toList _ zcode Tryz.underlying23 rfl HSI.out ?_; rw [Array.toArray_toList])
                refine (HCI.out _).mono ?_
                rintro e w4 ⟨rfl, hb4⟩
                have X4 := hide (X3.out.later hb4)
                have B4 := hide (B3.out.trans (hb4.mono B3.out.size))
                clear hb4 X3 B3 zst ztr zcode
                cases hql : decide (n.qty < 1)
                · skip
                  rcases errF_of (LC.formR n.acc (LC.accF n.acc)) with ⟨hac, he⟩ | ⟨hac, t, u, he⟩
                  · rw [he] at HAC
                    clear he
                    have zqty := X4.out.qty HLC.out
                    have zacc := X4.out.acc HLC.out
                    go_wp2_with (fail)
                    refine (HAC.out _).mono ?_
                    rintro e w5 ⟨rfl, hb5⟩
                    have X5 := hide (X4.out.later hb5)
                    have B5 := hide (B4.out.trans (hb5.mono B4.out.size))
                    clear hb5 X4 B4 zqty zacc
                    cases hbi : okE (LC.formR n.agt (LC.bicF n.agt))
                    · rw [hbi] at HBI
                      have zagt := X5.out.agt HLC.out
                      go_wp2_with (fail)
                      refine (HBI.out _ (HO.out.below B5.out)).mono ?_
                      rintro e w6 ⟨rfl, hb6⟩
                      have X6 := hide (X5.out.later hb6)
                      have B6 := hide (B5.out.trans (hb6.mono B5.out.size))
                      clear hb6 X5 B5 zagt
                      go_wp2_with (fail)
                      go_ret
                      exact ⟨ret_tE (k := 4) (by simp [termsE, tE, hr1, hcn, hpe, hd1, hd2, hlt, hci, hql, hac, hbi]) rfl, B6.out⟩
                    · rw [hbi] at HBI
                      have zagt := X5.out.agt HLC.out
                      go_wp2_with (fail)
                      refine (HBI.out _ (HO.out.below B5.out)).mono ?_
                      rintro e w6 ⟨rfl, hb6⟩
                      have X6 := hide (X5.out.later hb6)
                      have B6 := hide (B5.out.trans (hb6.mono B5.out.size))
                      clear hb6 X5 B5 zagt
                      rcases errF_of (LC.formR n.oth (LC.accF n.oth)) with ⟨hot, he⟩ | ⟨hot, t, u, he⟩
                      · rw [he] at HOT
                        clear he
                        have zoth := X6.out.oth HLC.out
                        go_wp2_with (fail)
                        refine (HOT.out _).mono ?_
                        rintro e w7 ⟨rfl, hb7⟩
                        have X7 := hide (X6.out.later hb7)
                        have B7 := hide (B6.out.trans (hb7.mono B6.out.size))
                        clear hb7 X6 B6 zoth
                        cases hpy : n.py
                        · have hce0 : (n.amt == 0) = decide (n.amt = 0) := by rfl
                          have hne0 : (n.amt != 0) = !decide (n.amt = 0) := by rfl
                          cases haz : decide (n.amt = 0)
                          · skip
                            have zpy := X7.out.py HLC.out
                            have zamt := X7.out.amt HLC.out
                            go_wp2_with (fail)
                            go_ret
                            exact ⟨ret_tE (k := 1) (by simp [termsE, tE, hr1, hcn, hpe, hd1, hd2, hlt, hci, hql, hac, hbi, hot, hpy, haz]) rfl, B7.out⟩
                          · skip
                            cases hce : n.cur.isEmpty
                            · have hcb := bytes_nil_f hce
                              have zpy := X7.out.py HLC.out
                              have zamt := X7.out.amt HLC.out
                              have zcur := X7.out.cur HLC.out
                              go_wp2_with (fail)
                              go_ret
                              exact ⟨ret_tE (k := 1) (by simp [termsE, tE, hr1, hcn, hpe, hd1, hd2, hlt, hci, hql, hac, hbi, hot, hpy, haz, hce]) rfl, B7.out⟩
                            · have hcb := bytes_nil_t hce
                              cases hpl : decide (n.pri < 0)
                              · skip
                                cases hpg : decide (9999 < n.pri)
                                · skip
                                  have zpy := X7.out.py HLC.out
                                  have zamt := X7.out.amt HLC.out
                                  have zcur := X7.out.cur HLC.out
                                  have zpri := X7.out.pri HLC.out
                                  go_wp2_with (fail)
                                  go_ret
                                  exact ⟨ret_tE (k := 0) (by simp [termsE, tE, hr1, hcn, hpe, hd1, hd2, hlt, hci, hql, hac, hbi, hot, hpy, haz, hce, hpl, hpg]) rfl, B7.out⟩
                                · skip
                                  have zpy := X7.out.py HLC.out
                                  have zamt := X7.out.amt HLC.out
                                  have zcur := X7.out.cur HLC.out
                                  have zpri := X7.out.pri HLC.out
                                  go_wp2_with (fail)
                                  go_ret
                                  exact ⟨ret_tE (k := 1) (by simp [termsE, tE, hr1, hcn, hpe, hd1, hd2, hlt, hci, hql, hac, hbi, hot, hpy, haz, hce, hpl, hpg]) rfl, B7.out⟩
                              · skip
                                have zpy := X7.out.py HLC.out
                                have zamt := X7.out.amt HLC.out
                                have zcur := X7.out.cur HLC.out
                                have zpri := X7.out.pri HLC.out
                                go_wp2_with (fail)
                                go_ret
                                exact ⟨ret_tE (k := 1) (by simp [termsE, tE, hr1, hcn, hpe, hd1, hd2, hlt, hci, hql, hac, hbi, hot, hpy, haz, hce, hpl]) rfl, B7.out⟩
                        · skip
                          cases hal : decide (n.amt < 1)
                          · skip
                            rcases errF_of (LC.formR n.cur LC.curF) with ⟨hcu, he⟩ | ⟨hcu, t, u, he⟩
                            · rw [he] at HCU
                              clear he
                              have zpy := X7.out.py HLC.out
                              have zamt := X7.out.amt HLC.out
                              have zcur := X7.out.cur HLC.out
                              go_wp2_with (fail)
                              refine (HCU.out _).mono ?_
                              rintro e w8 ⟨rfl, hb8⟩
                              have X8 := hide (X7.out.later hb8)
                              have B8 := hide (B7.out.trans (hb8.mono B7.out.size))
                              clear hb8 X7 B7 zpy zamt zcur
                              cases hpl : decide (n.pri < 0)
                              · skip
                                cases hpg : decide (9999 < n.pri)
                                · skip
                                  have zpy := X8.out.py HLC.out
                                  have zpri := X8.out.pri HLC.out
                                  go_wp2_with (fail)
                                  go_ret
                                  exact ⟨ret_tE (k := 0) (by simp [termsE, tE, hr1, hcn, hpe, hd1, hd2, hlt, hci, hql, hac, hbi, hot, hpy, hal, hcu, hpl, hpg]) rfl, B8.out⟩
                                · skip
                                  have zpy := X8.out.py HLC.out
                                  have zpri := X8.out.pri HLC.out
                                  go_wp2_with (fail)
                                  go_ret
                                  exact ⟨ret_tE (k := 1) (by simp [termsE, tE, hr1, hcn, hpe, hd1, hd2, hlt, hci, hql, hac, hbi, hot, hpy, hal, hcu, hpl, hpg]) rfl, B8.out⟩
                              · skip
                                have zpy := X8.out.py HLC.out
                                have zpri := X8.out.pri HLC.out
                                go_wp2_with (fail)
                                go_ret
                                exact ⟨ret_tE (k := 1) (by simp [termsE, tE, hr1, hcn, hpe, hd1, hd2, hlt, hci, hql, hac, hbi, hot, hpy, hal, hcu, hpl]) rfl, B8.out⟩
                            · rw [he] at HCU
                              clear he
                              have zpy := X7.out.py HLC.out
                              have zamt := X7.out.amt HLC.out
                              have zcur := X7.out.cur HLC.out
                              go_wp2_with (fail)
                              refine (HCU.out _).mono ?_
                              rintro e w8 ⟨rfl, hb8⟩
                              have X8 := hide (X7.out.later hb8)
                              have B8 := hide (B7.out.trans (hb8.mono B7.out.size))
                              clear hb8 X7 B7 zpy zamt zcur
                              go_wp2_with (fail)
                              go_ret
                              exact ⟨ret_tE (k := 4) (by simp [termsE, tE, hr1, hcn, hpe, hd1, hd2, hlt, hci, hql, hac, hbi, hot, hpy, hal, hcu]) rfl, B8.out⟩
                          · skip
                            have zpy := X7.out.py HLC.out
                            have zamt := X7.out.amt HLC.out
                            go_wp2_with (fail)
                            go_ret
                            exact ⟨ret_tE (k := 16) (by simp [termsE, tE, hr1, hcn, hpe, hd1, hd2, hlt, hci, hql, hac, hbi, hot, hpy, hal]) rfl, B7.out⟩
                      · rw [he] at HOT
                        clear he
                        have zoth := X6.out.oth HLC.out
                        go_wp2_with (fail)
                        refine (HOT.out _).mono ?_
                        rintro e w7 ⟨rfl, hb7⟩
                        have X7 := hide (X6.out.later hb7)
                        have B7 := hide (B6.out.trans (hb7.mono B6.out.size))
                        clear hb7 X6 B6 zoth
                        go_wp2_with (fail)
                        go_ret
                        exact ⟨ret_tE (k := 14) (by simp [termsE, tE, hr1, hcn, hpe, hd1, hd2, hlt, hci, hql, hac, hbi, hot]) rfl, B7.out⟩
                  · rw [he] at HAC
                    clear he
                    have zqty := X4.out.qty HLC.out
                    have zacc := X4.out.acc HLC.out
                    go_wp2_with (fail)
                    refine (HAC.out _).mono ?_
                    rintro e w5 ⟨rfl, hb5⟩
                    have X5 := hide (X4.out.later hb5)
                    have B5 := hide (B4.out.trans (hb5.mono B4.out.size))
                    clear hb5 X4 B4 zqty zacc
                    go_wp2_with (fail)
                    go_ret
                    exact ⟨ret_tE (k := 14) (by simp [termsE, tE, hr1, hcn, hpe, hd1, hd2, hlt, hci, hql, hac]) rfl, B5.out⟩
                · skip
                  have zqty := X4.out.qty HLC.out
                  go_wp2_with (fail)
                  go_ret
                  exact ⟨ret_tE (k := 16) (by simp [termsE, tE, hr1, hcn, hpe, hd1, hd2, hlt, hci, hql]) rfl, B4.out⟩
            · skip
              have zst := X3.out.st HLC.out
              have ztr := X3.out.tr HLC.out
              go_wp2_with (fail)
              go_ret
              exact ⟨ret_tE (k := 8) (by simp [termsE, tE, hr1, hcn, hpe, hd1, hd2, hlt]) rfl, B3.out⟩
    · skip
      cases hr2 : refB n.prev
      · rw [hr2] at HR2
        have zcn := X1.out.cn HLC.out
        have zprev := X1.out.prev HLC.out
        go_wp2_with (fail)
        refine (HR2.out _).mono ?_
        rintro e w2 ⟨rfl, hb2⟩
        have X2 := hide (X1.out.later hb2)
        have B2 := hide (B1.out.trans (hb2.mono B1.out.size))
        clear hb2 X1 B1 zcn zprev
        go_wp2_with (fail)
        go_ret
        exact ⟨ret_tE (k := 6) (by simp [termsE, tE, hr1, hcn, hr2]) rfl, B2.out⟩
      · rw [hr2] at HR2
        have zcn := X1.out.cn HLC.out
        have zprev := X1.out.prev HLC.out
        go_wp2_with (fail)
        refine (HR2.out _).mono ?_
        rintro e w2 ⟨rfl, hb2⟩
        have X2 := hide (X1.out.later hb2)
        have B2 := hide (B1.out.trans (hb2.mono B1.out.size))
        clear hb2 X1 B1 zcn zprev
        cases hd1 : dayB n.tr
        · rw [hd1] at HD1
          have zcn := X2.out.cn HLC.out
          have ztr := X2.out.tr HLC.out
          go_wp2_with (fail)
          refine (HD1.out _ (hide (HM.out.below B2.out))).mono ?_
          rintro e w3 ⟨rfl, hb3⟩
          have X3 := hide (X2.out.later hb3)
          have B3 := hide (B2.out.trans (hb3.mono B2.out.size))
          clear hb3 X2 B2 zcn ztr
          go_wp2_with (fail)
          go_ret
          exact ⟨ret_tE (k := 8) (by simp [termsE, tE, hr1, hcn, hr2, hd1]) rfl, B3.out⟩
        · rw [hd1] at HD1
          have zcn := X2.out.cn HLC.out
          have ztr := X2.out.tr HLC.out
          go_wp2_with (fail)
          refine (HD1.out _ (hide (HM.out.below B2.out))).mono ?_
          rintro e w3 ⟨rfl, hb3⟩
          have X3 := hide (X2.out.later hb3)
          have B3 := hide (B2.out.trans (hb3.mono B2.out.size))
          clear hb3 X2 B2 zcn ztr
          cases hd2 : dayB n.st
          · rw [hd2] at HD2
            have zst := X3.out.st HLC.out
            go_wp2_with (fail)
            refine (HD2.out _ (hide (HM.out.below B3.out))).mono ?_
            rintro e w4 ⟨rfl, hb4⟩
            have X4 := hide (X3.out.later hb4)
            have B4 := hide (B3.out.trans (hb4.mono B3.out.size))
            clear hb4 X3 B3 zst
            go_wp2_with (fail)
            go_ret
            exact ⟨ret_tE (k := 8) (by simp [termsE, tE, hr1, hcn, hr2, hd1, hd2]) rfl, B4.out⟩
          · rw [hd2] at HD2
            have zst := X3.out.st HLC.out
            go_wp2_with (fail)
            refine (HD2.out _ (hide (HM.out.below B3.out))).mono ?_
            rintro e w4 ⟨rfl, hb4⟩
            have X4 := hide (X3.out.later hb4)
            have B4 := hide (B3.out.trans (hb4.mono B3.out.size))
            clear hb4 X3 B3 zst
            cases hlt : decide (n.st < n.tr)
            · skip
              cases hci : okE (LC.isinR n.code)
              · rw [hci] at HCI
                have zst := X4.out.st HLC.out
                have ztr := X4.out.tr HLC.out
                have zcode := X4.out.code HLC.out
                go_wp2_with (refine wpList_load_mid rfl 23 (.tmp 41) rfl w.heap.size 7 rfl (LC.cel n.code).toList _ zcode Tryz.underlying23 rfl HSI.out ?_; rw [Array.toArray_toList])
                refine (HCI.out _).mono ?_
                rintro e w5 ⟨rfl, hb5⟩
                have X5 := hide (X4.out.later hb5)
                have B5 := hide (B4.out.trans (hb5.mono B4.out.size))
                clear hb5 X4 B4 zst ztr zcode
                go_wp2_with (fail)
                go_ret
                exact ⟨ret_tE (k := 4) (by simp [termsE, tE, hr1, hcn, hr2, hd1, hd2, hlt, hci]) rfl, B5.out⟩
              · rw [hci] at HCI
                have zst := X4.out.st HLC.out
                have ztr := X4.out.tr HLC.out
                have zcode := X4.out.code HLC.out
                go_wp2_with (refine wpList_load_mid rfl 23 (.tmp 41) rfl w.heap.size 7 rfl (LC.cel n.code).toList _ zcode Tryz.underlying23 rfl HSI.out ?_; rw [Array.toArray_toList])
                refine (HCI.out _).mono ?_
                rintro e w5 ⟨rfl, hb5⟩
                have X5 := hide (X4.out.later hb5)
                have B5 := hide (B4.out.trans (hb5.mono B4.out.size))
                clear hb5 X4 B4 zst ztr zcode
                cases hql : decide (n.qty < 1)
                · skip
                  rcases errF_of (LC.formR n.acc (LC.accF n.acc)) with ⟨hac, he⟩ | ⟨hac, t, u, he⟩
                  · rw [he] at HAC
                    clear he
                    have zqty := X5.out.qty HLC.out
                    have zacc := X5.out.acc HLC.out
                    go_wp2_with (fail)
                    refine (HAC.out _).mono ?_
                    rintro e w6 ⟨rfl, hb6⟩
                    have X6 := hide (X5.out.later hb6)
                    have B6 := hide (B5.out.trans (hb6.mono B5.out.size))
                    clear hb6 X5 B5 zqty zacc
                    cases hbi : okE (LC.formR n.agt (LC.bicF n.agt))
                    · rw [hbi] at HBI
                      have zagt := X6.out.agt HLC.out
                      go_wp2_with (fail)
                      refine (HBI.out _ (HO.out.below B6.out)).mono ?_
                      rintro e w7 ⟨rfl, hb7⟩
                      have X7 := hide (X6.out.later hb7)
                      have B7 := hide (B6.out.trans (hb7.mono B6.out.size))
                      clear hb7 X6 B6 zagt
                      go_wp2_with (fail)
                      go_ret
                      exact ⟨ret_tE (k := 4) (by simp [termsE, tE, hr1, hcn, hr2, hd1, hd2, hlt, hci, hql, hac, hbi]) rfl, B7.out⟩
                    · rw [hbi] at HBI
                      have zagt := X6.out.agt HLC.out
                      go_wp2_with (fail)
                      refine (HBI.out _ (HO.out.below B6.out)).mono ?_
                      rintro e w7 ⟨rfl, hb7⟩
                      have X7 := hide (X6.out.later hb7)
                      have B7 := hide (B6.out.trans (hb7.mono B6.out.size))
                      clear hb7 X6 B6 zagt
                      rcases errF_of (LC.formR n.oth (LC.accF n.oth)) with ⟨hot, he⟩ | ⟨hot, t, u, he⟩
                      · rw [he] at HOT
                        clear he
                        have zoth := X7.out.oth HLC.out
                        go_wp2_with (fail)
                        refine (HOT.out _).mono ?_
                        rintro e w8 ⟨rfl, hb8⟩
                        have X8 := hide (X7.out.later hb8)
                        have B8 := hide (B7.out.trans (hb8.mono B7.out.size))
                        clear hb8 X7 B7 zoth
                        cases hpy : n.py
                        · have hce0 : (n.amt == 0) = decide (n.amt = 0) := by rfl
                          have hne0 : (n.amt != 0) = !decide (n.amt = 0) := by rfl
                          cases haz : decide (n.amt = 0)
                          · skip
                            have zpy := X8.out.py HLC.out
                            have zamt := X8.out.amt HLC.out
                            go_wp2_with (fail)
                            go_ret
                            exact ⟨ret_tE (k := 1) (by simp [termsE, tE, hr1, hcn, hr2, hd1, hd2, hlt, hci, hql, hac, hbi, hot, hpy, haz]) rfl, B8.out⟩
                          · skip
                            cases hce : n.cur.isEmpty
                            · have hcb := bytes_nil_f hce
                              have zpy := X8.out.py HLC.out
                              have zamt := X8.out.amt HLC.out
                              have zcur := X8.out.cur HLC.out
                              go_wp2_with (fail)
                              go_ret
                              exact ⟨ret_tE (k := 1) (by simp [termsE, tE, hr1, hcn, hr2, hd1, hd2, hlt, hci, hql, hac, hbi, hot, hpy, haz, hce]) rfl, B8.out⟩
                            · have hcb := bytes_nil_t hce
                              cases hpl : decide (n.pri < 0)
                              · skip
                                cases hpg : decide (9999 < n.pri)
                                · skip
                                  have zpy := X8.out.py HLC.out
                                  have zamt := X8.out.amt HLC.out
                                  have zcur := X8.out.cur HLC.out
                                  have zpri := X8.out.pri HLC.out
                                  go_wp2_with (fail)
                                  go_ret
                                  exact ⟨ret_tE (k := 0) (by simp [termsE, tE, hr1, hcn, hr2, hd1, hd2, hlt, hci, hql, hac, hbi, hot, hpy, haz, hce, hpl, hpg]) rfl, B8.out⟩
                                · skip
                                  have zpy := X8.out.py HLC.out
                                  have zamt := X8.out.amt HLC.out
                                  have zcur := X8.out.cur HLC.out
                                  have zpri := X8.out.pri HLC.out
                                  go_wp2_with (fail)
                                  go_ret
                                  exact ⟨ret_tE (k := 1) (by simp [termsE, tE, hr1, hcn, hr2, hd1, hd2, hlt, hci, hql, hac, hbi, hot, hpy, haz, hce, hpl, hpg]) rfl, B8.out⟩
                              · skip
                                have zpy := X8.out.py HLC.out
                                have zamt := X8.out.amt HLC.out
                                have zcur := X8.out.cur HLC.out
                                have zpri := X8.out.pri HLC.out
                                go_wp2_with (fail)
                                go_ret
                                exact ⟨ret_tE (k := 1) (by simp [termsE, tE, hr1, hcn, hr2, hd1, hd2, hlt, hci, hql, hac, hbi, hot, hpy, haz, hce, hpl]) rfl, B8.out⟩
                        · skip
                          cases hal : decide (n.amt < 1)
                          · skip
                            rcases errF_of (LC.formR n.cur LC.curF) with ⟨hcu, he⟩ | ⟨hcu, t, u, he⟩
                            · rw [he] at HCU
                              clear he
                              have zpy := X8.out.py HLC.out
                              have zamt := X8.out.amt HLC.out
                              have zcur := X8.out.cur HLC.out
                              go_wp2_with (fail)
                              refine (HCU.out _).mono ?_
                              rintro e w9 ⟨rfl, hb9⟩
                              have X9 := hide (X8.out.later hb9)
                              have B9 := hide (B8.out.trans (hb9.mono B8.out.size))
                              clear hb9 X8 B8 zpy zamt zcur
                              cases hpl : decide (n.pri < 0)
                              · skip
                                cases hpg : decide (9999 < n.pri)
                                · skip
                                  have zpy := X9.out.py HLC.out
                                  have zpri := X9.out.pri HLC.out
                                  go_wp2_with (fail)
                                  go_ret
                                  exact ⟨ret_tE (k := 0) (by simp [termsE, tE, hr1, hcn, hr2, hd1, hd2, hlt, hci, hql, hac, hbi, hot, hpy, hal, hcu, hpl, hpg]) rfl, B9.out⟩
                                · skip
                                  have zpy := X9.out.py HLC.out
                                  have zpri := X9.out.pri HLC.out
                                  go_wp2_with (fail)
                                  go_ret
                                  exact ⟨ret_tE (k := 1) (by simp [termsE, tE, hr1, hcn, hr2, hd1, hd2, hlt, hci, hql, hac, hbi, hot, hpy, hal, hcu, hpl, hpg]) rfl, B9.out⟩
                              · skip
                                have zpy := X9.out.py HLC.out
                                have zpri := X9.out.pri HLC.out
                                go_wp2_with (fail)
                                go_ret
                                exact ⟨ret_tE (k := 1) (by simp [termsE, tE, hr1, hcn, hr2, hd1, hd2, hlt, hci, hql, hac, hbi, hot, hpy, hal, hcu, hpl]) rfl, B9.out⟩
                            · rw [he] at HCU
                              clear he
                              have zpy := X8.out.py HLC.out
                              have zamt := X8.out.amt HLC.out
                              have zcur := X8.out.cur HLC.out
                              go_wp2_with (fail)
                              refine (HCU.out _).mono ?_
                              rintro e w9 ⟨rfl, hb9⟩
                              have X9 := hide (X8.out.later hb9)
                              have B9 := hide (B8.out.trans (hb9.mono B8.out.size))
                              clear hb9 X8 B8 zpy zamt zcur
                              go_wp2_with (fail)
                              go_ret
                              exact ⟨ret_tE (k := 4) (by simp [termsE, tE, hr1, hcn, hr2, hd1, hd2, hlt, hci, hql, hac, hbi, hot, hpy, hal, hcu]) rfl, B9.out⟩
                          · skip
                            have zpy := X8.out.py HLC.out
                            have zamt := X8.out.amt HLC.out
                            go_wp2_with (fail)
                            go_ret
                            exact ⟨ret_tE (k := 16) (by simp [termsE, tE, hr1, hcn, hr2, hd1, hd2, hlt, hci, hql, hac, hbi, hot, hpy, hal]) rfl, B8.out⟩
                      · rw [he] at HOT
                        clear he
                        have zoth := X7.out.oth HLC.out
                        go_wp2_with (fail)
                        refine (HOT.out _).mono ?_
                        rintro e w8 ⟨rfl, hb8⟩
                        have X8 := hide (X7.out.later hb8)
                        have B8 := hide (B7.out.trans (hb8.mono B7.out.size))
                        clear hb8 X7 B7 zoth
                        go_wp2_with (fail)
                        go_ret
                        exact ⟨ret_tE (k := 14) (by simp [termsE, tE, hr1, hcn, hr2, hd1, hd2, hlt, hci, hql, hac, hbi, hot]) rfl, B8.out⟩
                  · rw [he] at HAC
                    clear he
                    have zqty := X5.out.qty HLC.out
                    have zacc := X5.out.acc HLC.out
                    go_wp2_with (fail)
                    refine (HAC.out _).mono ?_
                    rintro e w6 ⟨rfl, hb6⟩
                    have X6 := hide (X5.out.later hb6)
                    have B6 := hide (B5.out.trans (hb6.mono B5.out.size))
                    clear hb6 X5 B5 zqty zacc
                    go_wp2_with (fail)
                    go_ret
                    exact ⟨ret_tE (k := 14) (by simp [termsE, tE, hr1, hcn, hr2, hd1, hd2, hlt, hci, hql, hac]) rfl, B6.out⟩
                · skip
                  have zqty := X5.out.qty HLC.out
                  go_wp2_with (fail)
                  go_ret
                  exact ⟨ret_tE (k := 16) (by simp [termsE, tE, hr1, hcn, hr2, hd1, hd2, hlt, hci, hql]) rfl, B5.out⟩
            · skip
              have zst := X4.out.st HLC.out
              have ztr := X4.out.tr HLC.out
              go_wp2_with (fail)
              go_ret
              exact ⟨ret_tE (k := 8) (by simp [termsE, tE, hr1, hcn, hr2, hd1, hd2, hlt]) rfl, B4.out⟩
end Go.Proofs.YtbaideeiljeamaaGreatDoor
