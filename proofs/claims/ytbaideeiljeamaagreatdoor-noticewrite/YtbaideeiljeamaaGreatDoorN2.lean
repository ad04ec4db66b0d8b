/-
  My own text: N1, N2 in one.
-/
import Derived.Test.YtbaideeiljeamaaGreatDoorD5
import Derived.Test.YtbaideeiljeamaaGreatDoorC10c
namespace Go.Proofs.YtbaideeiljeamaaGreatDoor
open Go.RowKit LC

/-- Is a text a reference? -/
def refB (l : List UInt8) : Bool := decide (l.length ≤ 16) && decide ((LC.formR l (LC.accF l)).1 = 0)
theorem refB_long {l : List UInt8} (h : 16 < l.length) : refB l = false := by unfold refB; rw [decide_eq_false (by omega)]; rfl
theorem refB_iff {l : List UInt8} (h : l.length ≤ 16) : refB l = decide ((LC.formR l (LC.accF l)).1 = 0) := by unfold refB; rw [decide_eq_true h]; rfl
theorem errF_nil {r : Int × Int} (h : r.1 = 0) : LC.errF r = .nilIface := by unfold LC.errF; rw [if_pos h]
set_option maxHeartbeats 1000000 in
theorem isRef_any (l : List UInt8) (w : World) (hl : l.length ≤ 140737488355328) :
    Calls Tryz.prog 79 #[.string ⟨l.toArray⟩] w fun e w' => e = .returned (.bool (refB l)) ∧ Below w.heap.size w w' := by
  by_cases h16 : l.length ≤ 16
  · have HA := hide (LC.account_any l w hl)
    rw [refB_iff h16]
    by_cases h0 : (LC.formR l (LC.accF l)).1 = 0
    · rw [decide_eq_true h0]
      rw [errF_nil h0] at HA
      clear h0
      go_enter Tryz.func79, Tryz.ntmps79
      go_wp2_with fail
      refine HA.out.mono ?_
      rintro e w1 ⟨rfl, hb1⟩
      go_wp2_with fail
      go_ret
      exact ⟨rfl, hb1⟩
    · rw [decide_eq_false h0]
      obtain ⟨t, u, he⟩ := LC.errF_iface h0
      rw [he] at HA
      clear h0 he
      go_enter Tryz.func79, Tryz.ntmps79
      go_wp2_with fail
      refine HA.out.mono ?_
      rintro e w1 ⟨rfl, hb1⟩
      go_wp2_with fail
      go_ret
      exact ⟨rfl, hb1⟩
  · rw [refB_long (by omega)]
    go_enter Tryz.func79, Tryz.ntmps79
    go_wp2_with fail
    go_ret
    exact ⟨rfl, Below.refl _ _⟩
set_option maxRecDepth 100000 in
set_option maxHeartbeats 1000000 in
theorem reference_any (l : List UInt8) (w : World) (hl : l.length ≤ 140737488355328) :
    Calls Tryz.prog 25 #[.string ⟨l.toArray⟩] w fun e w' => e = .returned (.bool (refB l)) ∧ Below w.heap.size w w' := by
  by_cases h0 : l.length < 1
  · have hb : refB l = false := by
      rw [refB_iff (by omega), LC.form_short (by unfold LC.accF; rw [List.length_replicate]; omega)]; rfl
    rw [hb]
    clear hb
    go_enter Tryz.func25, Tryz.ntmps25
    go_wp2_with fail
    go_ret
    exact ⟨rfl, Below.refl _ _⟩
  by_cases h16 : 16 < l.length
  · rw [refB_long h16]
    go_enter Tryz.func25, Tryz.ntmps25
    go_wp2_with fail
    go_ret
    exact ⟨rfl, Below.refl _ _⟩
  have HI := hide (refB_iff (l := l) (by omega))
  have HA : Hid (LC.accF l = List.replicate l.length 83) := by show LC.accF l = _; unfold LC.accF; congr 1; omega
  have HL : Hid (l.length = (LC.accF l).length) := by show _ = _; rw [HA.out, List.length_replicate]
  go_enter Tryz.func25, Tryz.ntmps25
  go_wp2_with fail
  go_loop [3] (fun i => ∃ k : Nat, k ≤ l.length ∧ i = .int .i64 k ∧ Hid (LC.Fits l (LC.accF l) k)) (fun i => l.length - (intOf i).toNat)
  case atStart => exact ⟨0, Nat.zero_le _, rfl, hide (LC.fits_zero _ _)⟩
  case round =>
    obtain ⟨k, hk, rfl, HF⟩ := hrel
    by_cases hlt : k < l.length
    · have hs1 : k < (⟨l.toArray⟩ : ByteArray).size := by rw [LC.bytes_size]; exact hlt
      obtain ⟨c, hc, Hc⟩ : ∃ c, (⟨l.toArray⟩ : ByteArray)[k]'hs1 = c ∧ Hid (l.getD k 0 = c) := ⟨_, rfl, by rw [LC.getD_at hlt]; exact hide rfl⟩
      have HP : Hid ((LC.accF l).getD k 0 = 83) := by show _ = _; rw [HA.out]; exact LC.acc_at hlt
      have HFB : Hid (LC.fitB c 83 = (LC.isDg c || LC.isCp c)) := hide (LC.fitB_s (by decide) (by decide))
      have HSG := hide (fun W : World => LC.refIsSign_any c W)
      cases hfit : (LC.isDg c || LC.isCp c)
      · have H := hide (LC.form_bad HL.out HF.out hlt (by rw [Hc.out, HP.out, HFB.out]; exact hfit))
        have HR : Hid (refB l = false) := by show _ = _; rw [HI.out, H.out]; rfl
        rw [hfit] at HSG
        clear hfit
        go_wp2_with fail
        refine (HSG.out _).mono ?_
        rintro e w' ⟨rfl, rfl⟩
        go_wp2_with fail
        go_ret
        exact ⟨LC.ret_b HR.out.symm, Below.refl _ _⟩
      · have H := hide (LC.fits_next HF.out (by rw [Hc.out, HP.out, HFB.out]; exact hfit))
        rw [hfit] at HSG
        clear hfit
        go_wp2_with fail
        refine (HSG.out _).mono ?_
        rintro e w' ⟨rfl, rfl⟩
        go_wp2_with fail
        go_round
        case rel => exact ⟨k + 1, by omega, by go_num, H⟩
        case measure => simp [intOf]; omega
    · have hk' : k = l.length := by omega
      subst hk'
      have HR : Hid (refB l = true) := by
        show _ = _
        rw [HI.out, LC.form_eq ⟨HL.out, HF.out⟩]; rfl
      go_wp2_with fail
      go_ret
      exact ⟨LC.ret_b HR.out.symm, Below.refl _ _⟩
set_option maxRecDepth 100000 in
set_option maxHeartbeats 1000000 in
theorem nIsDay_any (n : Int) (w : World) (HM : Hid (MDays w)) :
    Calls Tryz.prog 80 #[.int .i64 n] w fun e w' => e = .returned (.bool (dayB n)) ∧ Below w.heap.size w w' := by
  have HO := hide (Of_any n w HM)
  cases hd : dayB n
  · rw [(of_bad hd).1, (of_bad hd).2] at HO
    clear hd
    unfold dateV errV at HO
    go_enter Tryz.func80, Tryz.ntmps80
    go_wp2_with fail
    refine HO.out.mono ?_
    rintro e w1 ⟨rfl, hb1⟩
    have HB := hide hb1
    clear hb1
    go_wp2_with fail
    go_ret
    exact ⟨rfl, HB.out.alloc HB.out.size _⟩
  · rw [(of_ok hd).1, (of_ok hd).2] at HO
    clear hd
    unfold dateV errV at HO
    generalize yearI n = a at *
    generalize monthI n = b at *
    generalize dayI n = c at *
    go_enter Tryz.func80, Tryz.ntmps80
    go_wp2_with fail
    refine HO.out.mono ?_
    rintro e w1 ⟨rfl, hb1⟩
    have HB := hide hb1
    clear hb1
    go_wp2_with fail
    go_ret
    exact ⟨rfl, HB.out.alloc HB.out.size _⟩
end Go.Proofs.YtbaideeiljeamaaGreatDoor
namespace Go.Proofs.YtbaideeiljeamaaGreatDoor
open Go.RowKit LC

def okE (r : Int × Int) : Bool := decide (r.1 = 0)
theorem okE_yes {r : Int × Int} (h : r.1 = 0) : okE r = true := decide_eq_true h
theorem okE_no {r : Int × Int} (h : ¬ r.1 = 0) : okE r = false := decide_eq_false h
set_option maxRecDepth 100000 in
set_option maxHeartbeats 1000000 in
theorem nIsIsin_any (l : List UInt8) (w : World) (hl : l.length = 12) :
    Calls Tryz.prog 81 #[.agg (LC.cel l)] w fun e w' => e = .returned (.bool (okE (LC.isinR l))) ∧ Below w.heap.size w w' := by
  have HSI : Hid ((Tryz.prog.info? 23).map (·.size) = some (LC.cel l).size) := by show _ = _; rw [LC.cel_size, hl]; exact LC.Tryz.sizeIsin
  have HTX := hide (fun W : World => LC.textIsin_any l W hl)
  have HIS := hide (fun W : World => LC.isin_any l W (by omega))
  have HB0 := hide ((Below.refl w.heap.size w).alloc (Nat.le_refl _) (.cells (LC.cel l) 23))
  obtain ⟨a, HA, HA12⟩ : ∃ a, Hid ((if (LC.isinR l).1 = 0 then l else LC.zer 12) = a) ∧ Hid (a.length = 12) := ⟨_, hide rfl, hide (by split <;> simp [hl, LC.zer])⟩
  rw [HA.out] at HIS
  unfold LC.arr at HIS
  by_cases h0 : (LC.isinR l).1 = 0
  · rw [okE_yes h0]
    rw [errF_nil h0] at HIS
    clear h0 HA hl
    go_enter Tryz.func81, Tryz.ntmps81
    go_wp2_with (refine wpList_load_row rfl 23 (.tmp 1) rfl w.heap.size rfl _ (LC.cel l) _ _ (LC.alloc_new w _) Tryz.underlying23 rfl HSI.out ?_)
    refine (HTX.out _).mono ?_
    rintro e w1 ⟨rfl, hb1⟩
    have HB1 := hide (HB0.out.trans (hb1.mono HB0.out.size))
    clear hb1 HB0
    go_wp2_with fail
    refine (HIS.out _).mono ?_
    rintro e w2 ⟨rfl, hb2⟩
    have HB2 := hide (HB1.out.trans (hb2.mono HB1.out.size))
    clear hb2 HB1
    go_wp2_with (refine wpList_store_row rfl 23 (.tmp 3) _ rfl w2.heap.size (LC.cel a) rfl rfl _ (LC.cel (LC.zer 12)) (LC.alloc_new w2 _) (by rw [LC.cel_size, HA12.out]; exact LC.Tryz.sizeIsin) (by have := HA12.out; simp [LC.cel_size, LC.zer, this]) (LC.cel_one _) ?_; rw [World.setRow_alloc_new])
    go_ret
    exact ⟨rfl, HB2.out.alloc HB2.out.size _⟩
  · rw [okE_no h0]
    obtain ⟨t, u, he⟩ := LC.errF_iface h0
    rw [he] at HIS
    clear h0 he HA hl
    go_enter Tryz.func81, Tryz.ntmps81
    go_wp2_with (refine wpList_load_row rfl 23 (.tmp 1) rfl w.heap.size rfl _ (LC.cel l) _ _ (LC.alloc_new w _) Tryz.underlying23 rfl HSI.out ?_)
    refine (HTX.out _).mono ?_
    rintro e w1 ⟨rfl, hb1⟩
    have HB1 := hide (HB0.out.trans (hb1.mono HB0.out.size))
    clear hb1 HB0
    go_wp2_with fail
    refine (HIS.out _).mono ?_
    rintro e w2 ⟨rfl, hb2⟩
    have HB2 := hide (HB1.out.trans (hb2.mono HB1.out.size))
    clear hb2 HB1
    go_wp2_with (refine wpList_store_row rfl 23 (.tmp 3) _ rfl w2.heap.size (LC.cel a) rfl rfl _ (LC.cel (LC.zer 12)) (LC.alloc_new w2 _) (by rw [LC.cel_size, HA12.out]; exact LC.Tryz.sizeIsin) (by have := HA12.out; simp [LC.cel_size, LC.zer, this]) (LC.cel_one _) ?_; rw [World.setRow_alloc_new])
    go_ret
    exact ⟨rfl, HB2.out.alloc HB2.out.size _⟩
theorem bicV_size (l : List UInt8) : (LC.bicV l).size = 4 := by unfold LC.bicV LC.bicP LC.bicZ; split <;> rfl
theorem bicV_one (l : List UInt8) : (LC.bicV l).all (·.oneCell') = true := by unfold LC.bicV LC.bicP LC.bicZ LC.str; split <;> simp [Value.oneCell']
set_option maxRecDepth 100000 in
set_option maxHeartbeats 1000000 in
theorem nIsBic_any (l : List UInt8) (w : World) (hO : LC.HeadOffice w) (hl : l.length ≤ 140737488355328) :
    Calls Tryz.prog 83 #[.string ⟨l.toArray⟩] w fun e w' => e = .returned (.bool (okE (LC.formR l (LC.bicF l)))) ∧ Below w.heap.size w w' := by
  have HBI := hide (LC.bic_any l w hO hl)
  obtain ⟨V, HV, HV4, HVO⟩ : ∃ V, Hid (LC.bicV l = V) ∧ Hid (V.size = 4) ∧ Hid (V.all (·.oneCell') = true) := ⟨_, hide rfl, hide (bicV_size l), hide (bicV_one l)⟩
  rw [HV.out] at HBI
  clear hO HV
  by_cases h0 : (LC.formR l (LC.bicF l)).1 = 0
  · rw [okE_yes h0]
    rw [errF_nil h0] at HBI
    clear h0
    go_enter Tryz.func83, Tryz.ntmps83
    go_wp2_with fail
    refine HBI.out.mono ?_
    rintro e w1 ⟨rfl, hb1⟩
    have HB1 := hide hb1
    clear hb1
    go_wp2_with (refine wpList_store_row rfl 103 (.tmp 3) _ rfl w1.heap.size V rfl rfl _ LC.bicZ (LC.alloc_new w1 _) (by rw [HV4.out]; exact LC.Tryz.size4) (by rw [HV4.out]; rfl) HVO.out ?_; rw [World.setRow_alloc_new])
    go_ret
    exact ⟨rfl, HB1.out.alloc HB1.out.size _⟩
  · rw [okE_no h0]
    obtain ⟨t, u, he⟩ := LC.errF_iface h0
    rw [he] at HBI
    clear h0 he
    go_enter Tryz.func83, Tryz.ntmps83
    go_wp2_with fail
    refine HBI.out.mono ?_
    rintro e w1 ⟨rfl, hb1⟩
    have HB1 := hide hb1
    clear hb1
    go_wp2_with (refine wpList_store_row rfl 103 (.tmp 3) _ rfl w1.heap.size V rfl rfl _ LC.bicZ (LC.alloc_new w1 _) (by rw [HV4.out]; exact LC.Tryz.size4) (by rw [HV4.out]; rfl) HVO.out ?_; rw [World.setRow_alloc_new])
    go_ret
    exact ⟨rfl, HB1.out.alloc HB1.out.size _⟩
/-- Bytes as values. -/
def nb (l : List UInt8) : List Value := l.map fun c => Value.int .u8 (c.toNat : Int)
theorem nb_take {l : List UInt8} {k : Nat} {c : UInt8} (h : l[k]? = some c) : nb (l.take (k + 1)) = nb (l.take k) ++ [.int .u8 (c.toNat : Int)] := by
  unfold nb; rw [List.take_add_one, h]; simp
theorem Tryz.infoBn : (Tryz.prog.info? 5).map (fun i => (i.zero, i.size, i.bytes)) = some (some (.int .u8 0), 1, 1) := by kernel_rfl
set_option maxRecDepth 100000 in
set_option maxHeartbeats 1000000 in
theorem refCode_any (l : List UInt8) (w : World) (hl : l.length = 12) :
    Calls Tryz.prog 30 #[.agg (LC.cel l)] w fun e w' => e = .returned (.string ⟨l.toArray⟩) ∧ Below w.heap.size w w' := by
  obtain ⟨i0, hi, hz0, hz1, hz2⟩ := info_parts Tryz.infoBn
  have hb0 := (Below.refl w.heap.size w).alloc (Nat.le_refl _) (.cells (LC.cel l) 23)
  have HG0 := hide (LC.alloc_new w (.cells (LC.cel l) 23))
  go_enter Tryz.func30, Tryz.ntmps30
  go_wp2_with fail
  go_loopw [3, 4] (fun o i wr => ∃ k : Nat, k ≤ 12 ∧ i = .int .i64 k ∧ wr.ownsRow (w.heap.size + 1) 5 1 o k (nb (l.take k)) ∧ Hid (wr.heap[w.heap.size]? = some (.cells (LC.cel l) 23 (0, 0))) ∧ Below w.heap.size w wr) (fun _ i _ => 12 - (intOf i).toNat)
  case atStart => exact ⟨0, Nat.zero_le _, rfl, World.ownsRow_nil _ _ 5 1, HG0, hb0⟩
  case round =>
    clear hb0 HG0
    obtain ⟨k, hk, rfl, hown, HG, hB⟩ := hrel
    have HSZ : Hid (w.heap.size < wr.heap.size) := hide (Array.getElem?_eq_some_iff.1 HG.out).1
    by_cases hlt : k < 12
    · obtain ⟨c, hc⟩ : ∃ c, l[k]? = some c := ⟨_, List.getElem?_eq_getElem (by omega)⟩
      have cL : wr.cell? ⟨w.heap.size, k, none⟩ = some (.int .u8 (c.toNat : Int)) := by
        rw [cell_of_row _ _ k _ _ _ HG.out]; simp [LC.cel, hc]
      have HT := hide (nb_take hc)
      clear hc
      go_wp2_with (first
        | (at_builtin; refine wpList_append_own _ rfl _ _ 99 rfl (w.heap.size + 1) 5 i0 (.int .u8 0) 1 1 Tryz.underlying99 hi hz0 hz1 hz2 rfl (by decide) _ _ _ rfl (hown.alloc _) ⟨_, 0, none⟩ 1 1 [.int .u8 (c.toNat : Int)] rfl rfl ?c1 ?c2 ?c3 ?c4 ?c5 ?_)
        | go_in)
      case c1 =>
        intro j u hj
        match j, hj with
        | 0, hj => simp at hj; subst hj; simp [Addr.add]
      case c2 => intro u hu; simp at hu; subst hu; rfl
      case c3 => unfold maxLen; omega
      case c4 => omega
      case c5 => have := HSZ.out; simp; omega
      intro v' w1 hown' hgrow _
      have hB1 : Below w.heap.size w w1 := (hB.alloc hB.size _).grown hgrow (by have := hB.size; simp; omega) (fun k hk => by have := (hown.lt k hk).1; omega)
      have HG1 : Hid (w1.heap[w.heap.size]? = some (.cells (LC.cel l) 23 (0, 0))) := by
        show _ = _
        rw [hgrow.block w.heap.size (by have := HSZ.out; simp; omega) (fun h => by have := (hown.lt _ h.symm).1; omega)]
        exact LC.alloc_block HG.out
      clear hown hgrow HG
      go_wp2_with fail
      go_roundw
      case rel => exact ⟨k + 1, by omega, by go_num, by rw [HT.out]; exact hown', HG1, hB1⟩
      case measure => simp [intOf]; omega
    · have hk' : k = 12 := by omega
      subst hk'
      rw [List.take_of_length_le (by omega)] at hown
      obtain ⟨g, cap, hv, hgb, hglt⟩ := World.ownsRow.form hown (by omega)
      subst hv
      have hr : wr.rangeAt g 0 (LC.cel l).toList := fun j v hj => by
        have hjl : j < l.length := by have := (List.getElem?_eq_some_iff.1 hj).1; simpa [LC.cel] using this
        rw [Nat.zero_add, hown.cellAt j (by omega)]
        simpa [LC.cel, nb] using hj
      have hcv := LC.conv_mid (a := 0) (n := 12) hr (by omega) cap
      rw [List.drop_zero, List.take_of_length_le (by omega)] at hcv
      have HB := hide hB
      clear hr hown hB
      go_wp2_with fail
      go_ret
      exact ⟨rfl, HB.out⟩
end Go.Proofs.YtbaideeiljeamaaGreatDoor
