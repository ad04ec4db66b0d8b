/-
  My own text: T14, T15 in one.
-/
import Derived.Test.YtpkgaidnpooahaaGreatDoorT13
namespace Go.Proofs.YtpkgaidnpooahaaGreatDoor
open Go.RowKit

theorem wts_take_at {l : List Tr} {k : Nat} {a : Tr} (h : l[k]? = some a) : wts (l.take k) + a.wt ≤ wts l := by
  induction l generalizing k with
  | nil => simp at h
  | cons c r ih =>
    cases k with
    | zero => simp at h; subst h; rw [wts_cons]; simp [wts]
    | succ k =>
      have := ih (k := k) (by simpa using h)
      rw [List.take_succ_cons, wts_cons, wts_cons]; omega
theorem ret_errs {a : Int} {v : Value} (k : Int) (h : a = k) (hv : v = errV k) : Ending.returned v = .returned (errV a) := by rw [h, hv]
theorem errV_iface {k : Int} (h : k ≠ 0) : ∃ u, errV k = .iface 38 u := ⟨_, by unfold errV; rw [if_neg h]⟩
set_option maxRecDepth 100000 in
set_option maxHeartbeats 8000000 in
theorem items_any (w0 : World) (b : Nat) : ∀ (D : Nat) (l : List Tr) (v : Value) (d : Int) (T : List UInt8) (w : World), wts l ≤ D → T.length + 14 * D ≤ 1099511627776 → 0 ≤ d → d ≤ 8 → RT w0 v l → Below w0.heap.size w0 w → ShT w w0.heap.size b T →
    Calls Tryz.prog 20 #[.pointer (some ⟨b, 0, none⟩), v, .int .i64 d] w fun e w' => e = .returned (errV (errL l d)) ∧ (∃ T', ShT w' w0.heap.size b T' ∧ (errL l d = 0 → T' = T ++ txtL l)) ∧ Kp w0.heap.size b w w' := by
  intro D
  induction D using Nat.strongRecOn with
  | ind D ih =>
    intro l v d T w hD hTD hd0 hd8 hv hw hS
    have IH := hide ih
    have HW0 := hide hw
    have HS0 := hide hS
    obtain ⟨a, cap, rfl, hr⟩ := hv
    have HR := hide hr
    clear hr ih hw hS
    have hll : l.length ≤ 1099511627776 := by have := wts_len l; omega
    have HWL : Hid (T.length + 14 * wts l ≤ 1099511627776) := hide (by omega)
    have HDD := hide hD
    clear hD hTD
    go_enter Tryz.func20, Tryz.ntmps20
    go_wp2_with fail
    go_loopw [13] (fun i wr => ∃ k : Nat, k ≤ l.length ∧ i = .int .i64 k ∧ Hid (ShT wr w0.heap.size b (T ++ txtL (l.take k))) ∧ Hid (errL l d = errL (l.drop k) d) ∧ Hid (Kp w0.heap.size b w wr)) (fun i _ => l.length - (intOf i).toNat)
    case atStart => exact ⟨0, Nat.zero_le _, rfl, by simpa [txtL] using HS0, hide (by simp), hide (Kp.refl _ _ _)⟩
    case round =>
      obtain ⟨k, hk, rfl, HS, HEL, HK⟩ := hrel
      have HBW := hide (HW0.out.trans HK.out.1)
      have HBS : Hid (w0.heap.size ≤ wr.heap.size) := hide HBW.out.size
      have HBL : Hid (b < wr.heap.size) := hide HS.out.lt
      by_cases hlt : k < l.length
      · obtain ⟨t, ht⟩ : ∃ t, l[k]? = some t := ⟨_, List.getElem?_eq_getElem hlt⟩
        have HST := hide (errL_step (d := d) ht)
        have HTK := hide (txtL_take ht)
        have HWE := hide (wt_eq t)
        have HWA := hide (wts_at ht)
        have HWT := hide (wts_take_at ht)
        have HTL : Hid ((txtL (l.take k)).length ≤ 14 * wts (l.take k)) := hide (txtL_len _ (l.take k) (Nat.le_refl _))
        have HEI := hide (errI_eq t d)
        have HTI := hide (txtI_eq t)
        obtain ⟨bb, off, kv, ha, hbl, c0, c1, c2, c3, c4, hkv⟩ := RT_at HR.out ht
        have c0 := (HBW.out.cell (p := ⟨bb, _, none⟩) hbl).trans c0
        have c1 := (HBW.out.cell (p := ⟨bb, _, none⟩) hbl).trans c1
        have c2 := (HBW.out.cell (p := ⟨bb, _, none⟩) hbl).trans c2
        have c3 := (HBW.out.cell (p := ⟨bb, _, none⟩) hbl).trans c3
        have c4 := (HBW.out.cell (p := ⟨bb, _, none⟩) hbl).trans c4
        subst ha
        have HIO := hide (iok_of HWA.out (by have := HWL.out; omega))
        obtain ⟨ka, kcap, rfl, hkr⟩ := hkv
        have HKV : Hid (RT w0 (.slice ka t.kids.length kcap) t.kids) := hide ⟨ka, kcap, rfl, hkr⟩
        have HCK := hide (fun W : World => check_any t.itm t.kids.length kcap ka d W HIO.out)
        have HIF := hide (fun W : World => isField_any t.itm (.slice ka t.kids.length kcap) W)
        obtain ⟨U, HU⟩ : ∃ U, Hid (T ++ txtL (l.take k) = U) := ⟨_, hide rfl⟩
        have HUL : Hid (U.length + 14 * t.wt ≤ 1099511627776) := by
          show _ ≤ _
          rw [← HU.out, List.length_append]
          have h1 := HTL.out; have h2 := HWT.out; have h3 := HWL.out
          omega
        have HTN : Hid (T ++ txtL (l.take (k + 1)) = U ++ txtI t) := by show _ = _; rw [HTK.out, ← HU.out, List.append_assoc]
        rw [HU.out] at HS
        have XA := hide (Ix.new wr t.itm (.slice ka t.kids.length kcap))
        have SA := hide (HS.out.alloc (.cells (iC t.itm (.slice ka t.kids.length kcap)) 25))
        have KA := hide (HK.out.alloc HBS.out (.cells (iC t.itm (.slice ka t.kids.length kcap)) 25))
        clear hkr ht HTK HTL HWT HU
        by_cases he : itemE t.itm t.kids.length d = 0
        case neg =>
          have HER : Hid (errL l d = itemE t.itm t.kids.length d) := by
            show _ = _
            have e1 : errI t d = itemE t.itm t.kids.length d := by rw [HEI.out, if_pos he]
            rw [HEL.out, HST.out, e1, if_pos he]
          have HNE : Hid (errL l d ≠ 0) := by show _ ≠ _; rw [HER.out]; exact he
          obtain ⟨u, hu⟩ := errV_iface he
          rw [hu] at HCK
          have HRV : Hid (errV (errL l d) = .iface 38 u) := by show _ = _; rw [HER.out, hu]
          clear he hu HER
          go_wp2_with fail
          refine (HCK.out _).mono ?_
          rintro e w1 ⟨rfl, hb1⟩
          have S1 := hide (SA.out.later hb1)
          have K1 := hide (KA.out.trans (Kp.of_below (by have := HBS.out; simp; omega) hb1))
          clear hb1
          go_wp2_with fail
          go_ret
          exact ⟨by rw [HRV.out]; rfl, ⟨_, S1.out, fun h => absurd h HNE.out⟩, K1.out⟩
        rw [he, errV_zero] at HCK
        cases hte : t.itm.tag.isEmpty
        · rw [hte] at HIF
          try dsimp only [Bool.not_false] at HIF
          have HEN : Hid (errL l d = errL (l.drop (k + 1)) d) := by
            show _ = _
            have e1 : errI t d = 0 := by rw [HEI.out, if_neg (by simp [he]), hte]; rfl
            rw [HEL.out, HST.out, e1]; rfl
          have HTX : Hid (txtI t = fT t.itm) := by show _ = _; rw [HTI.out, hte]; rfl
          rw [HTX.out] at HTN
          clear he HEI HTI HEL HST HTX
          go_wp2_with fail
          refine (HCK.out _).mono ?_
          rintro e w1 ⟨rfl, hb1⟩
          have S1 := hide (SA.out.later hb1)
          have X1 := hide (XA.out.later hb1)
          have K1 := hide (KA.out.trans (Kp.of_below (by have := HBS.out; simp; omega) hb1))
          have HB1 : Hid (w0.heap.size ≤ w1.heap.size) := hide (HW0.out.trans K1.out.1).size
          clear hb1 SA XA KA
          go_wp2_with (refine wpList_load_row rfl 25 (.tmp 8) rfl wr.heap.size rfl _ (iC t.itm (.slice ka t.kids.length kcap)) _ _ X1.out Tryz.underlying25 rfl Tryz.sizeItm ?_)
          refine (HIF.out _).mono ?_
          rintro e w2 ⟨rfl, hb2⟩
          have S2 := hide (S1.out.later hb2)
          have X2 := hide (X1.out.later hb2)
          have K2 := hide (K1.out.trans (Kp.of_below HB1.out hb2))
          have HB2 : Hid (w0.heap.size ≤ w2.heap.size) := hide (HW0.out.trans K2.out.1).size
          clear hb2 S1 X1 K1 HB1
          have HFD := hide (field_any w0.heap.size b U t.itm (.slice ka t.kids.length kcap) w2 S2.out HB2.out (by
            rw [List.length_append]
            have h1 := fT_len t.itm; have h2 := HUL.out; have h3 := HWE.out
            omega))
          go_wp2_with (refine wpList_load_row rfl 25 (.tmp 8) rfl wr.heap.size rfl _ (iC t.itm (.slice ka t.kids.length kcap)) _ _ X2.out Tryz.underlying25 rfl Tryz.sizeItm ?_)
          refine HFD.out.mono ?_
          rintro e w3 ⟨rfl, hs3, hk3⟩
          have S3 : Hid (ShT w3 w0.heap.size b (T ++ txtL (l.take (k + 1)))) := by rw [HTN.out]; exact hide hs3
          have K3 := hide (K2.out.trans hk3)
          clear hs3 hk3
          go_wp2_with fail
          go_roundw
          case rel => exact ⟨k + 1, by omega, by go_num, S3, HEN, K3⟩
          case measure => simp [intOf]; omega
        · rw [hte] at HIF
          try dsimp only [Bool.not_true] at HIF
          have hd7 : d < 8 := by
            have h2 : itemE t.itm t.kids.length d = 0 := he
            unfold itemE at h2
            rw [hte] at h2
            simp only [Bool.not_true, Bool.false_eq_true, if_false] at h2
            split at h2
            · cases h2
            · unfold blockE bE at h2
              by_cases h8 : 8 ≤ d
              · rw [decide_eq_true h8] at h2; simp at h2
              · omega
          have HEE : Hid (errL l d = if errL t.kids (d + 1) ≠ 0 then errL t.kids (d + 1) else errL (l.drop (k + 1)) d) := by
            show _ = _
            have e1 : errI t d = errL t.kids (d + 1) := by rw [HEI.out, if_neg (by simp [he]), hte]; rfl
            rw [HEL.out, HST.out, e1]
          have HTX : Hid (txtI t = bO t.itm.name ++ txtL t.kids ++ bC t.itm.name) := by show _ = _; rw [HTI.out, hte]; rfl
          rw [HTX.out] at HTN
          have HKL := hide (txtL_len _ t.kids (Nat.le_refl _))
          clear he HEI HTI HEL HST HTX
          go_wp2_with fail
          refine (HCK.out _).mono ?_
          rintro e w1 ⟨rfl, hb1⟩
          have S1 := hide (SA.out.later hb1)
          have X1 := hide (XA.out.later hb1)
          have K1 := hide (KA.out.trans (Kp.of_below (by have := HBS.out; simp; omega) hb1))
          have HB1 : Hid (w0.heap.size ≤ w1.heap.size) := hide (HW0.out.trans K1.out.1).size
          clear hb1 SA XA KA
          go_wp2_with (refine wpList_load_row rfl 25 (.tmp 8) rfl wr.heap.size rfl _ (iC t.itm (.slice ka t.kids.length kcap)) _ _ X1.out Tryz.underlying25 rfl Tryz.sizeItm ?_)
          refine (HIF.out _).mono ?_
          rintro e w2 ⟨rfl, hb2⟩
          have S2 := hide (S1.out.later hb2)
          have X2 := hide (X1.out.later hb2)
          have K2 := hide (K1.out.trans (Kp.of_below HB1.out hb2))
          have HB2 : Hid (w0.heap.size ≤ w2.heap.size) := hide (HW0.out.trans K2.out.1).size
          clear hb2 S1 X1 K1 HB1
          have z3 := X2.out.name trivial
          have hb2l : b < w2.heap.size := S2.out.lt
          have HP1 := hide (put_any w0.heap.size b w2.heap.size U [[58], [49, 54, 82], [58], t.itm.name, [10]] (w2.alloc (.cells (strs [[58], [49, 54, 82], [58], t.itm.name, [10]]) 9)) (S2.out.alloc _) (alloc_new w2 _) (by omega) (by have h2 := HUL.out; have h3 := HWE.out; simp; omega) (by simp) (by have := HB2.out; simp; omega))
          have X3 := hide (X2.out.alloc (.cells (strs [[58], [49, 54, 82], [58], t.itm.name, [10]]) 9))
          have K3 := hide (K2.out.alloc HB2.out (.cells (strs [[58], [49, 54, 82], [58], t.itm.name, [10]]) 9))
          go_wp2_with fail
          refine HP1.out.mono ?_
          rintro e w3 ⟨rfl, hs3, hk3⟩
          have S4 : Hid (ShT w3 w0.heap.size b (U ++ bO t.itm.name)) := by
            have e : U ++ bO t.itm.name = U ++ [[58], [49, 54, 82], [58], t.itm.name, [10]].flatten := by unfold bO; simp
            rw [e]; exact hide hs3
          have X4 := hide (X3.out.kp hk3 (by have := HBL.out; omega))
          have K4 := hide (K3.out.trans hk3)
          have HB4 : Hid (Below w0.heap.size w0 w3) := hide (HW0.out.trans K4.out.1)
          clear hs3 hk3 X3 K3 HP1 X2 K2 z3 hb2l S2
          have z4 := X4.out.items trivial
          have HIH := hide (IH.out (wts t.kids) (by have := HWE.out; have := HWA.out; have := HDD.out; omega) t.kids (.slice ka t.kids.length kcap) (d + 1) (U ++ bO t.itm.name) w3 (Nat.le_refl _) (by have h2 := HUL.out; have h3 := HWE.out; unfold bO; simp; omega) (by omega) (by omega) HKV.out HB4.out S4.out)
          by_cases he2 : errL t.kids (d + 1) = 0
          · rw [he2, errV_zero] at HIH
            have HEN : Hid (errL l d = errL (l.drop (k + 1)) d) := by show _ = _; rw [HEE.out, he2]; rfl
            clear he2 HEE
            go_wp2_with fail
            refine HIH.out.mono ?_
            rintro e w5 ⟨rfl, ⟨T', hs5, hT5⟩, hk5⟩
            have hT6 := hT5 trivial
            subst hT6
            have S5 := hide hs5
            have X5 := hide (X4.out.kp hk5 (by have := HBL.out; omega))
            have K5 := hide (K4.out.trans hk5)
            have HB5 : Hid (w0.heap.size ≤ w5.heap.size) := hide (HW0.out.trans K5.out.1).size
            clear hs5 hT5 hk5 X4 K4 S4 z4 HIH
            have z5 := X5.out.name trivial
            have hb5l : b < w5.heap.size := S5.out.lt
            have HP2 := hide (put_any w0.heap.size b w5.heap.size (U ++ bO t.itm.name ++ txtL t.kids) [[58], [49, 54, 83], [58], t.itm.name, [10]] (w5.alloc (.cells (strs [[58], [49, 54, 83], [58], t.itm.name, [10]]) 9)) (S5.out.alloc _) (alloc_new w5 _) (by omega) (by have h2 := HUL.out; have h3 := HWE.out; have h4 := HKL.out; unfold bO; simp; omega) (by simp) (by have := HB5.out; simp; omega))
            have K6 := hide (K5.out.alloc HB5.out (.cells (strs [[58], [49, 54, 83], [58], t.itm.name, [10]]) 9))
            go_wp2_with fail
            refine HP2.out.mono ?_
            rintro e w7 ⟨rfl, hs7, hk7⟩
            have S7 : Hid (ShT w7 w0.heap.size b (T ++ txtL (l.take (k + 1)))) := by
              have e : T ++ txtL (l.take (k + 1)) = U ++ bO t.itm.name ++ txtL t.kids ++ [[58], [49, 54, 83], [58], t.itm.name, [10]].flatten := by rw [HTN.out]; unfold bC; simp
              rw [e]; exact hide hs7
            have K7 := hide (K6.out.trans hk7)
            clear hs7 hk7
            go_wp2_with fail
            go_roundw
            case rel => exact ⟨k + 1, by omega, by go_num, S7, HEN, K7⟩
            case measure => simp [intOf]; omega
          · have HER : Hid (errL l d = errL t.kids (d + 1)) := by show _ = _; rw [HEE.out, if_pos he2]
            have HNE : Hid (errL l d ≠ 0) := by show _ ≠ _; rw [HER.out]; exact he2
            obtain ⟨u, hu⟩ := errV_iface he2
            rw [hu] at HIH
            have HRV : Hid (errV (errL l d) = .iface 38 u) := by show _ = _; rw [HER.out, hu]
            clear he2 hu HER HEE
            go_wp2_with fail
            refine HIH.out.mono ?_
            rintro e w5 ⟨rfl, ⟨T', hs5, _⟩, hk5⟩
            have S5 := hide hs5
            have K5 := hide (K4.out.trans hk5)
            clear hs5 hk5 X4 K4 S4 z4 HIH
            go_wp2_with fail
            go_ret
            exact ⟨by rw [HRV.out]; rfl, ⟨_, S5.out, fun h => absurd h HNE.out⟩, K5.out⟩
      · have hk' : k = l.length := by omega
        subst hk'
        have HER : Hid (errL l d = 0) := by show _ = _; rw [HEL.out, List.drop_length, errL]
        rw [List.take_length] at HS
        go_wp2_with fail
        go_ret
        exact ⟨ret_errs 0 HER.out rfl, ⟨_, HS.out, fun _ => rfl⟩, HK.out⟩
end Go.Proofs.YtpkgaidnpooahaaGreatDoor
namespace Go.Proofs.YtpkgaidnpooahaaGreatDoor
open Go.RowKit

theorem Tryz.cellsBy : Tryz.prog.cellsOf 5 = 1 := by kernel_rfl
set_option maxRecDepth 100000 in
set_option maxHeartbeats 2000000 in
theorem string_any (B b : Nat) (l : List UInt8) (n : Int) (w : World) (h : Sh w B b l n) (hl : l.length ≤ 1048576) :
    Calls Tryz.prog 21 #[.pointer (some ⟨b, 0, none⟩)] w fun e w' => e = .returned (.string ⟨l.toArray⟩) ∧ Below B w w' := by
  obtain ⟨hB, p, v, hp, hnil, hbk, hown⟩ := h
  by_cases h0 : l = []
  · have hv := hnil h0
    subst hv h0
    have c1 : w.drew.cell? ⟨b, 1, none⟩ = some (.slice none 0 0) := by
      have : w.drew.heap[b]? = some (.cells #[p, .slice none 0 0, .int .i64 n] 44 (0, 0)) := hbk
      rw [cell_of_row _ _ 1 _ _ _ this]; rfl
    have c1' : w.cell? ⟨b, 1, none⟩ = some (.slice none 0 0) := c1
    have hSD : (Builtin.unsafeSliceData_ #[34] 78 #[.slice none 0 0]).run Tryz.prog w.drew = .ok (.pointer none) w.drew := rfl
    have hUS := Lib.run_unsafeString_none (P := Tryz.prog) w.drew 78 3 9 none
    have HB := hide (Below.drew (Below.refl B w))
    clear hbk hown hnil hp
    go_enter Tryz.func21, Tryz.ntmps21
    go_wp2_with fail
    go_region
    all_goals (go_wp2_with fail; go_ret; exact ⟨rfl, HB.out⟩)
  · have hl0 : l.length ≠ 0 := by simpa using h0
    obtain ⟨g, cap, cur, rfl, hbg, hg, hnc, hcm, hcs, htake⟩ : ∃ g cap cur, v = .slice (some ⟨g, 0, none⟩) l.length cap ∧ B ≤ g ∧ w.heap[g]? = some (.cells cur 5 (0, 0)) ∧ l.length ≤ cap ∧ cap ≤ maxLen ∧ cur.size = cap * 1 ∧ cur.toList.take (l.length * 1) = Lib.byteCells l := by
      rcases hown.2 with ⟨_, hz⟩ | ⟨g, cap, cur, hv, r⟩
      · exact absurd hz hl0
      · exact ⟨g, cap, cur, hv, r⟩
    have c1 : w.drew.cell? ⟨b, 1, none⟩ = some (.slice (some ⟨g, 0, none⟩) l.length cap) := by
      have : w.drew.heap[b]? = some (.cells #[p, .slice (some ⟨g, 0, none⟩) l.length cap, .int .i64 n] 44 (0, 0)) := hbk
      rw [cell_of_row _ _ 1 _ _ _ this]; rfl
    have c1' : w.cell? ⟨b, 1, none⟩ = some (.slice (some ⟨g, 0, none⟩) l.length cap) := c1
    have hSD : (Builtin.unsafeSliceData_ #[34] 78 #[.slice (some ⟨g, 0, none⟩) l.length cap]).run Tryz.prog w.drew = .ok (.pointer (some ⟨g, 0, none⟩)) w.drew :=
      Lib.run_unsafeSliceData_row _ _ _ _ _ _ (by omega)
    have hUS : (Builtin.unsafeString_ #[78, 3] 9 #[.pointer (some ⟨g, 0, none⟩), .int .i64 l.length]).run Tryz.prog w.drew = .ok (.string ⟨l.toArray⟩) (w.drew.freeze ⟨g, 0, none⟩ l.length) := by
      refine Lib.run_unsafeString_row w.drew 78 3 9 5 Tryz.underlying78 Tryz.cellsBy g cur.size (by have hg' : w.drew.heap[g]? = some (.cells cur 5 (0, 0)) := hg; simp [World.shape?, hg']) l h0 (by omega) (by unfold maxLen at hcm; omega) ?_
      intro j x hx
      have hj : j < l.length := (List.getElem?_eq_some_iff.1 hx).1
      have := hown.cellAt j (by omega)
      have e : w.drew.cell? ((⟨g, 0, none⟩ : Addr).add j) = w.cell? ⟨g, j, none⟩ := by
        have : (⟨g, 0, none⟩ : Addr).add j = ⟨g, j, none⟩ := by rw [Addr.add_mid, Nat.zero_add]
        rw [this]; rfl
      rw [e, this]; simp [Lib.byteCells, hx]
    have HB := hide (Lib.below_freeze (Below.drew (Below.refl B w)) (p := ⟨g, 0, none⟩) hbg l.length)
    clear hbk hown hnil hp hg hcs htake
    go_enter Tryz.func21, Tryz.ntmps21
    go_wp2_with fail
    go_region
    all_goals (go_wp2_with fail; go_ret; exact ⟨rfl, HB.out⟩)
set_option maxRecDepth 100000 in
set_option maxHeartbeats 4000000 in
theorem tPrint_any (l : List Tr) (v : Value) (w : World) (hD : 14 * wts l ≤ 1099511627776) (hv : RT w v l) :
    Calls Tryz.prog 11 #[v] w fun e w' => e = .returned (.tuple #[.string ⟨(prT l).toArray⟩, errV (prE l)]) ∧ Below w.heap.size w w' := by
  have HSN : Hid (ShT (w.alloc (.cells #[.pointer none, .slice none 0 0, .int .i64 0] 44)) w.heap.size w.heap.size []) := hide ⟨[], ⟨Nat.le_refl _, _, _, .inl rfl, fun _ => rfl, alloc_new w _, World.ownsRow_nil _ _ _ _⟩, fun _ => rfl, by simp⟩
  have HB0 := hide ((Below.refl w.heap.size w).alloc (Nat.le_refl _) (.cells #[.pointer none, .slice none 0 0, .int .i64 0] 44))
  have HIT := hide (items_any w w.heap.size (wts l) l v 0 [] _ (Nat.le_refl _) (by simpa using hD) (by omega) (by omega) hv HB0.out HSN.out)
  clear hv
  by_cases he : errL l 0 = 0
  · rw [he, errV_zero] at HIT
    by_cases hm : 1048576 < (txtL l).length
    · have HE : Hid (prE l = 5) := by show _ = _; unfold prE; rw [if_neg (by simp [he]), if_pos hm]
      have HT : Hid (prT l = []) := by show _ = _; unfold prT; rw [HE.out]; rfl
      clear he
      go_enter Tryz.func11, Tryz.ntmps11
      go_wp2_with fail
      refine HIT.out.mono ?_
      rintro e w1 ⟨rfl, ⟨T', hs, hT⟩, hk⟩
      have hT' := hT trivial
      rw [List.nil_append] at hT'
      subst hT'
      obtain ⟨s, ⟨_, p, u, _, _, hb, _⟩, _, _⟩ := hs
      have c2 : w1.cell? ⟨w.heap.size, 2, none⟩ = some (.int .i64 ((txtL l).length : Int)) := by rw [cell_of_row _ _ 2 _ _ _ hb]; rfl
      have HK := hide (HB0.out.trans hk.1)
      clear hb hk hT
      generalize txtL l = X at *
      go_wp2_with fail
      go_ret2
      exact ⟨by rw [HT.out, HE.out]; rfl, HK.out⟩
    · have HE : Hid (prE l = 0) := by show _ = _; unfold prE; rw [if_neg (by simp [he]), if_neg hm]
      have HT : Hid (prT l = txtL l) := by show _ = _; unfold prT; rw [HE.out]; rfl
      clear he
      go_enter Tryz.func11, Tryz.ntmps11
      go_wp2_with fail
      refine HIT.out.mono ?_
      rintro e w1 ⟨rfl, ⟨T', hs, hT⟩, hk⟩
      have hT' := hT trivial
      rw [List.nil_append] at hT'
      subst hT'
      obtain ⟨s, hsh, hsl, hsm⟩ := hs
      have hse := hsl (by omega)
      subst hse
      have HST := hide (string_any _ _ _ _ w1 hsh hsm)
      obtain ⟨_, p, u, _, _, hb, _⟩ := hsh
      have c2 : w1.cell? ⟨w.heap.size, 2, none⟩ = some (.int .i64 ((txtL l).length : Int)) := by rw [cell_of_row _ _ 2 _ _ _ hb]; rfl
      have HK := hide (HB0.out.trans hk.1)
      clear hb hk hT hsl hsm
      generalize txtL l = X at *
      go_wp2_with fail
      refine HST.out.mono ?_
      rintro e w2 ⟨rfl, hb2⟩
      have HK2 := hide (HK.out.trans hb2)
      clear hb2
      go_wp2_with fail
      go_ret2
      exact ⟨by rw [HT.out, HE.out]; rfl, HK2.out⟩
  · have HE : Hid (prE l = errL l 0) := by show _ = _; unfold prE; rw [if_pos he]
    have HT : Hid (prT l = []) := by show _ = _; unfold prT; rw [HE.out, if_neg he]
    obtain ⟨u, hu⟩ := errV_iface he
    rw [hu] at HIT
    have HRV : Hid (errV (prE l) = .iface 38 u) := by show _ = _; rw [HE.out, hu]
    clear he hu
    go_enter Tryz.func11, Tryz.ntmps11
    go_wp2_with fail
    refine HIT.out.mono ?_
    rintro e w1 ⟨rfl, _, hk⟩
    have HK := hide (HB0.out.trans hk.1)
    clear hk
    go_wp2_with fail
    go_ret2
    exact ⟨by rw [HT.out, HRV.out]; rfl, HK.out⟩
end Go.Proofs.YtpkgaidnpooahaaGreatDoor
