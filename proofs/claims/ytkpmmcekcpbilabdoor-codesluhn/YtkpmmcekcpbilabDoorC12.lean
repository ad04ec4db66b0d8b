/-
  My own text: the law on slips in numbers of securities: its walk.
-/
import Derived.Test.YtkpmmcekcpbilabDoorTurn
namespace Go.Proofs.YtkpmmcekcpbilabDoor
open Go.RowKit

set_option maxRecDepth 100000 in
set_option maxHeartbeats 8000000 in
theorem luhn_law (l : List UInt8) (a c : Int) (w : World) (hE : ErrType w) (hl : l.length ≤ 140737488355320) (c0 : 0 ≤ c) (c1 : c ≤ 255) :
    Calls Tryd.prog 3 #[.string ⟨l.toArray⟩, .int .i64 a, .int .u8 c] w fun e w' => e = .returned (.bool true) ∧ Below w.heap.size w w' := by
  have HE := hide hE
  have HWK := hide (works_any w hE)
  have HID := hide (fun W : World => isinDigit_any l W (by omega))
  clear hE
  by_cases h : Form l isinH
  · rw [form_eq h, errF_ok, digV_ok h] at HID
    have hlen : l.length = 11 := h.1
    have HCB := hide (chk_b (spr l))
    obtain ⟨m, Hm⟩ : ∃ m : Nat, Hid (chk (spr l) = (m : Int)) := ⟨(chk (spr l)).toNat, hide (by have := HCB.out; omega)⟩
    rw [Hm.out] at HID HCB
    have hm9 : m ≤ 9 := by have := HCB.out; omega
    obtain ⟨hdg, hsp⟩ := dg_of hm9
    have HF : Hid (Form (l ++ [UInt8.ofNat (48 + m)]) isinF) := hide ((isin_head hdg).2 h)
    have HS0 : Hid (lsum (spr (l ++ [UInt8.ofNat (48 + m)])) % 10 = 0) := by
      show _ = _
      rw [spr_app, show spr [UInt8.ofNat (48 + m)] = [(m : Int)] by rw [← hsp]; simp [spr]]
      exact (chk_iff (spr l) (by omega) (by omega)).2 Hm.out.symm
    have hzn : (UInt8.ofNat (48 + m)).toNat = 48 + m := by rw [UInt8.toNat_ofNat']; omega
    clear hdg hsp Hm HCB h
    generalize UInt8.ofNat (48 + m) = z at HF HS0 hzn
    have happ : (⟨l.toArray⟩ : ByteArray) ++ ⟨#[z]⟩ = ⟨(l ++ [z]).toArray⟩ := bytes_app l [z]
    have HSL : Hid ((l ++ [z]).length = 12) := by show _ = _; rw [List.length_append, hlen]; rfl
    have HLEN := hide hlen
    clear hlen
    obtain ⟨s, hs⟩ : ∃ s, l ++ [z] = s := ⟨_, rfl⟩
    rw [hs] at HF HS0 happ HSL
    clear hs
    obtain ⟨cn, hcn⟩ := Int.eq_ofNat_of_zero_le c0
    subst hcn
    obtain ⟨hcd, _⟩ := dg_of (k := cn % 10) (by omega)
    have hcx : (UInt8.ofNat (48 + cn % 10)).toNat = 48 + cn % 10 := by rw [UInt8.toNat_ofNat']; omega
    generalize UInt8.ofNat (48 + cn % 10) = cc at hcd hcx
    have HCD := hide hcd
    clear hcd
    have hccv : (48 + (cn : Int) % 10) = (cc.toNat : Int) := by omega
    have HCV := hide hccv
    clear hccv
    go_enter Tryd.func3, Tryd.ntmps3
    go_wp2_with fail
    refine HWK.out.mono ?_
    rintro e w0 ⟨rfl, hb0⟩
    go_wp2_with fail
    refine (HID.out _).mono ?_
    rintro e w1 ⟨rfl, hb1⟩
    have hB1 := hb0.trans (hb1.mono hb0.size)
    have hcv : (convert 27 9 (.slice (some ⟨w1.heap.size, 0, none⟩) 1 1)).run Tryd.prog (w1.alloc (.cells #[.int .u8 (48 + (m : Int))] 5)) = .ok (.string ⟨#[z]⟩) (w1.alloc (.cells #[.int .u8 (48 + (m : Int))] 5)) :=
      run_convert_bytes_back (P := Tryd.prog) (w1.alloc (.cells #[.int .u8 (48 + (m : Int))] 5)) 27 9 5 ⟨w1.heap.size, 0, none⟩ 1 [z] Tryd.underlying27 Tryd.underlying5 Tryd.underlying9 (fun j hj => by
        match j, hj with
        | 0, _ => simp [Addr.add]; omega)
    have HBA := hide (hB1.alloc hB1.size (.cells #[.int .u8 (48 + (m : Int))] 5))
    clear hb0 hb1 hB1 HWK HID
    have hsl12 : s.length = 12 := HSL.out
    go_wp2_with fail
    clear hsl12
    refine (pick_any a 12 _ (by decide) (by decide)).mono ?_
    rintro e w2 ⟨k, hk12, rfl, rfl⟩
    have hk : k < s.length := by rw [HSL.out]; exact hk12
    obtain ⟨x, hx, Hx⟩ : ∃ x, (⟨s.toArray⟩ : ByteArray)[k]'(by rw [bytes_size]; exact hk) = x ∧ Hid (s.getD k 0 = x) := ⟨_, rfl, by rw [getD_at hk]; exact hide rfl⟩
    have HDX := hide (fun W : World => lawDigit_any x W)
    go_wp2_with fail
    rw [HCV.out]
    clear hcx
    cases hdx : isDg x
    · rw [hdx] at HDX
      clear hdx
      refine (HDX.out _).mono ?_
      rintro e w' ⟨rfl, rfl⟩
      go_wp2_with fail
      have HBQ := HBA
      by_cases hk1 : k + 1 < s.length
      · have hgd : decide ((s.length : Int) ≤ (k : Int) + 1) = false := by simp; omega
        go_quiet (first | (go_at_call_of 8 x; exact Calls.quiet_of_same (HDX.out _)))
        go_wp2_with fail
        go_ret
        exact ⟨rfl, below_drewN HBQ.out _⟩
      · have hgd : decide ((s.length : Int) ≤ (k : Int) + 1) = true := by simp; omega
        go_quiet (fail)
        go_wp2_with fail
        go_ret
        exact ⟨rfl, below_drewN HBQ.out _⟩
    · rw [hdx] at HDX
      have Hdx := hide hdx
      have hxb := dg_bounds hdx
      clear hdx
      by_cases hxc : x = cc
      · subst hxc
        have hqc : (((x.toNat : Int)) != (x.toNat : Int)) = false := by simp
        refine (HDX.out _).mono ?_
        rintro e w' ⟨rfl, rfl⟩
        go_wp2_with fail
        have HBQ := HBA
        clear hqc
        by_cases hk1 : k + 1 < s.length
        · have hgd : decide ((s.length : Int) ≤ (k : Int) + 1) = false := by simp; omega
          obtain ⟨y, hy, Hy⟩ : ∃ y, (⟨s.toArray⟩ : ByteArray)[k + 1]'(by rw [bytes_size]; exact hk1) = y ∧ Hid (s.getD (k + 1) 0 = y) := ⟨_, rfl, by rw [getD_at hk1]; exact hide rfl⟩
          have HDY := hide (fun W : World => lawDigit_any y W)
          have HDYB := hide (fun h : isDg y = true => dg_bounds h)
          cases hdy : isDg y
          · rw [hdy] at HDY
            go_quiet (first | (go_at_call_of 8 x; exact Calls.quiet_of_same (HDX.out _)) | (go_at_call_of 8 y; exact Calls.quiet_of_same (HDY.out _)))
            go_wp2_with fail
            go_ret
            exact ⟨rfl, below_drewN HBQ.out _⟩
          · rw [hdy] at HDY
            have hyb := HDYB.out hdy
            by_cases hxy : x = y
            · subst hxy
              have hq : (((x.toNat : Int)) == (x.toNat : Int)) = true := by simp
              go_quiet (first | (go_at_call_of 8 x; exact Calls.quiet_of_same (HDX.out _)) | (go_at_call_of 8 y; exact Calls.quiet_of_same (HDY.out _)))
              go_wp2_with fail
              go_ret
              exact ⟨rfl, below_drewN HBQ.out _⟩
            · have hq : (((x.toNat : Int)) == (y.toNat : Int)) = false := u8_ne hxy
              have HTN := hide (fun h9 h90 => turn_isin HF.out HS0.out hk1 (by rw [Hx.out]; exact Hdx.out) (by rw [Hy.out]; exact hdy) (by rw [Hx.out, Hy.out]; exact hxy) h9 h90)
              rw [Hx.out, Hy.out] at HTN
              have HTU := hide (fun (W : World) (hW : ErrType W) => turned_any s k W hW hk1 (by rw [HSL.out]; decide))
              have HIT0 := hide (fun W : World => isin_any (turnL s k) W (by unfold turnL; rw [putL_len (by rw [putL_len hk]; exact hk1), putL_len hk, HSL.out]; decide))
              by_cases hsum : x.toNat + y.toNat = 105
              · have hq1 : (((x.toNat : Int) + (y.toNat : Int)) == 105) = true := by simp; omega
                by_cases h48 : x.toNat = 48
                · have hq2 : ((x.toNat : Int) == 48) = true := by simp; omega
                  clear h48 hsum HTN
                  go_quiet (first | (go_at_call_of 8 x; exact Calls.quiet_of_same (HDX.out _)) | (go_at_call_of 8 y; exact Calls.quiet_of_same (HDY.out _)))
                  go_wp2_with fail
                  go_ret
                  exact ⟨rfl, below_drewN HBQ.out _⟩
                · have hq2 : ((x.toNat : Int) == 48) = false := by simp; omega
                  by_cases h57 : x.toNat = 57
                  · have hq3 : ((x.toNat : Int) == 57) = true := by simp; omega
                    clear h57 hsum HTN h48
                    go_quiet (first | (go_at_call_of 8 x; exact Calls.quiet_of_same (HDX.out _)) | (go_at_call_of 8 y; exact Calls.quiet_of_same (HDY.out _)))
                    go_wp2_with fail
                    go_ret
                    exact ⟨rfl, below_drewN HBQ.out _⟩
                  · have hq3 : ((x.toNat : Int) == 57) = false := by simp; omega
                    have HIT := HIT0
                    rw [HTN.out (by omega) (by omega), if_neg (by decide), errF_no (by decide) (by decide)] at HIT
                    clear HIT0 HTN hsum h48 h57
                    go_quiet (first | (go_at_call_of 8 x; exact Calls.quiet_of_same (HDX.out _)) | (go_at_call_of 8 y; exact Calls.quiet_of_same (HDY.out _)))
                    go_wp2_with fail
                    refine (HTU.out _ (HE.out.below (below_drewN HBQ.out _))).mono ?_
                    rintro e w6 ⟨rfl, hb6⟩
                    have HB6 := hide ((below_drewN HBQ.out _).trans (hb6.mono (below_drewN HBQ.out _).size))
                    clear hb6
                    go_wp2_with fail
                    refine (HIT.out _).mono ?_
                    rintro e w7 ⟨rfl, hb7⟩
                    have HB7 := hide (HB6.out.trans (hb7.mono HB6.out.size))
                    clear hb7
                    go_wp2_with fail
                    refine (plain_errno 7 7 _ (by decide) (by decide) (HE.out.below HB7.out)).mono ?_
                    rintro e w8 ⟨rfl, hb8⟩
                    go_wp2_with fail
                    go_ret
                    exact ⟨rfl, HB7.out.trans (hb8.mono HB7.out.size)⟩
              · have hq1 : (((x.toNat : Int) + (y.toNat : Int)) == 105) = false := by simp; omega
                have HIT := HIT0
                rw [HTN.out (by omega) (by omega), if_neg (by decide), errF_no (by decide) (by decide)] at HIT
                clear HIT0 HTN hsum
                go_quiet (first | (go_at_call_of 8 x; exact Calls.quiet_of_same (HDX.out _)) | (go_at_call_of 8 y; exact Calls.quiet_of_same (HDY.out _)))
                go_wp2_with fail
                refine (HTU.out _ (HE.out.below (below_drewN HBQ.out _))).mono ?_
                rintro e w6 ⟨rfl, hb6⟩
                have HB6 := hide ((below_drewN HBQ.out _).trans (hb6.mono (below_drewN HBQ.out _).size))
                clear hb6
                go_wp2_with fail
                refine (HIT.out _).mono ?_
                rintro e w7 ⟨rfl, hb7⟩
                have HB7 := hide (HB6.out.trans (hb7.mono HB6.out.size))
                clear hb7
                go_wp2_with fail
                refine (plain_errno 7 7 _ (by decide) (by decide) (HE.out.below HB7.out)).mono ?_
                rintro e w8 ⟨rfl, hb8⟩
                go_wp2_with fail
                go_ret
                exact ⟨rfl, HB7.out.trans (hb8.mono HB7.out.size)⟩
        · have hgd : decide ((s.length : Int) ≤ (k : Int) + 1) = true := by simp; omega
          go_quiet (fail)
          go_wp2_with fail
          go_ret
          exact ⟨rfl, below_drewN HBQ.out _⟩
      · have hqc : (((x.toNat : Int)) != (cc.toNat : Int)) = true := by have := u8_ne hxc; simp [bne, this]
        have HPU := hide (fun W : World => put_any s k cc W hk (by rw [HSL.out]; decide))
        have HIP := hide (fun W : World => isin_any (putL s k cc) W (by rw [putL_len hk, HSL.out]; decide))
        rw [slip_isin HF.out HS0.out hk (by rw [Hx.out]; exact Hdx.out) HCD.out (by rw [Hx.out]; exact hxc), if_neg (by decide), errF_no (by decide) (by decide)] at HIP
        refine (HDX.out _).mono ?_
        rintro e w' ⟨rfl, rfl⟩
        go_wp2_with fail
        refine (HPU.out _).mono ?_
        rintro e w3 ⟨rfl, hb3⟩
        have HB3 := hide (HBA.out.trans (hb3.mono HBA.out.size))
        clear hb3
        go_wp2_with fail
        refine (HIP.out _).mono ?_
        rintro e w4 ⟨rfl, hb4⟩
        have HB4 := hide (HB3.out.trans (hb4.mono HB3.out.size))
        clear hb4
        go_wp2_with fail
        refine (plain_errno 7 7 _ (by decide) (by decide) (HE.out.below HB4.out)).mono ?_
        rintro e w5 ⟨rfl, hb5⟩
        have HBQ := hide (HB4.out.trans (hb5.mono HB4.out.size))
        clear hb5 hqc
        go_wp2_with fail
        by_cases hk1 : k + 1 < s.length
        · have hgd : decide ((s.length : Int) ≤ (k : Int) + 1) = false := by simp; omega
          obtain ⟨y, hy, Hy⟩ : ∃ y, (⟨s.toArray⟩ : ByteArray)[k + 1]'(by rw [bytes_size]; exact hk1) = y ∧ Hid (s.getD (k + 1) 0 = y) := ⟨_, rfl, by rw [getD_at hk1]; exact hide rfl⟩
          have HDY := hide (fun W : World => lawDigit_any y W)
          have HDYB := hide (fun h : isDg y = true => dg_bounds h)
          cases hdy : isDg y
          · rw [hdy] at HDY
            go_quiet (first | (go_at_call_of 8 x; exact Calls.quiet_of_same (HDX.out _)) | (go_at_call_of 8 y; exact Calls.quiet_of_same (HDY.out _)))
            go_wp2_with fail
            go_ret
            exact ⟨rfl, below_drewN HBQ.out _⟩
          · rw [hdy] at HDY
            have hyb := HDYB.out hdy
            by_cases hxy : x = y
            · subst hxy
              have hq : (((x.toNat : Int)) == (x.toNat : Int)) = true := by simp
              go_quiet (first | (go_at_call_of 8 x; exact Calls.quiet_of_same (HDX.out _)) | (go_at_call_of 8 y; exact Calls.quiet_of_same (HDY.out _)))
              go_wp2_with fail
              go_ret
              exact ⟨rfl, below_drewN HBQ.out _⟩
            · have hq : (((x.toNat : Int)) == (y.toNat : Int)) = false := u8_ne hxy
              have HTN := hide (fun h9 h90 => turn_isin HF.out HS0.out hk1 (by rw [Hx.out]; exact Hdx.out) (by rw [Hy.out]; exact hdy) (by rw [Hx.out, Hy.out]; exact hxy) h9 h90)
              rw [Hx.out, Hy.out] at HTN
              have HTU := hide (fun (W : World) (hW : ErrType W) => turned_any s k W hW hk1 (by rw [HSL.out]; decide))
              have HIT0 := hide (fun W : World => isin_any (turnL s k) W (by unfold turnL; rw [putL_len (by rw [putL_len hk]; exact hk1), putL_len hk, HSL.out]; decide))
              by_cases hsum : x.toNat + y.toNat = 105
              · have hq1 : (((x.toNat : Int) + (y.toNat : Int)) == 105) = true := by simp; omega
                by_cases h48 : x.toNat = 48
                · have hq2 : ((x.toNat : Int) == 48) = true := by simp; omega
                  clear h48 hsum HTN
                  go_quiet (first | (go_at_call_of 8 x; exact Calls.quiet_of_same (HDX.out _)) | (go_at_call_of 8 y; exact Calls.quiet_of_same (HDY.out _)))
                  go_wp2_with fail
                  go_ret
                  exact ⟨rfl, below_drewN HBQ.out _⟩
                · have hq2 : ((x.toNat : Int) == 48) = false := by simp; omega
                  by_cases h57 : x.toNat = 57
                  · have hq3 : ((x.toNat : Int) == 57) = true := by simp; omega
                    clear h57 hsum HTN h48
                    go_quiet (first | (go_at_call_of 8 x; exact Calls.quiet_of_same (HDX.out _)) | (go_at_call_of 8 y; exact Calls.quiet_of_same (HDY.out _)))
                    go_wp2_with fail
                    go_ret
                    exact ⟨rfl, below_drewN HBQ.out _⟩
                  · have hq3 : ((x.toNat : Int) == 57) = false := by simp; omega
                    have HIT := HIT0
                    rw [HTN.out (by omega) (by omega), if_neg (by decide), errF_no (by decide) (by decide)] at HIT
                    clear HIT0 HTN hsum h48 h57
                    go_quiet (first | (go_at_call_of 8 x; exact Calls.quiet_of_same (HDX.out _)) | (go_at_call_of 8 y; exact Calls.quiet_of_same (HDY.out _)))
                    go_wp2_with fail
                    refine (HTU.out _ (HE.out.below (below_drewN HBQ.out _))).mono ?_
                    rintro e w6 ⟨rfl, hb6⟩
                    have HB6 := hide ((below_drewN HBQ.out _).trans (hb6.mono (below_drewN HBQ.out _).size))
                    clear hb6
                    go_wp2_with fail
                    refine (HIT.out _).mono ?_
                    rintro e w7 ⟨rfl, hb7⟩
                    have HB7 := hide (HB6.out.trans (hb7.mono HB6.out.size))
                    clear hb7
                    go_wp2_with fail
                    refine (plain_errno 7 7 _ (by decide) (by decide) (HE.out.below HB7.out)).mono ?_
                    rintro e w8 ⟨rfl, hb8⟩
                    go_wp2_with fail
                    go_ret
                    exact ⟨rfl, HB7.out.trans (hb8.mono HB7.out.size)⟩
              · have hq1 : (((x.toNat : Int) + (y.toNat : Int)) == 105) = false := by simp; omega
                have HIT := HIT0
                rw [HTN.out (by omega) (by omega), if_neg (by decide), errF_no (by decide) (by decide)] at HIT
                clear HIT0 HTN hsum
                go_quiet (first | (go_at_call_of 8 x; exact Calls.quiet_of_same (HDX.out _)) | (go_at_call_of 8 y; exact Calls.quiet_of_same (HDY.out _)))
                go_wp2_with fail
                refine (HTU.out _ (HE.out.below (below_drewN HBQ.out _))).mono ?_
                rintro e w6 ⟨rfl, hb6⟩
                have HB6 := hide ((below_drewN HBQ.out _).trans (hb6.mono (below_drewN HBQ.out _).size))
                clear hb6
                go_wp2_with fail
                refine (HIT.out _).mono ?_
                rintro e w7 ⟨rfl, hb7⟩
                have HB7 := hide (HB6.out.trans (hb7.mono HB6.out.size))
                clear hb7
                go_wp2_with fail
                refine (plain_errno 7 7 _ (by decide) (by decide) (HE.out.below HB7.out)).mono ?_
                rintro e w8 ⟨rfl, hb8⟩
                go_wp2_with fail
                go_ret
                exact ⟨rfl, HB7.out.trans (hb8.mono HB7.out.size)⟩
        · have hgd : decide ((s.length : Int) ≤ (k : Int) + 1) = true := by simp; omega
          go_quiet (fail)
          go_wp2_with fail
          go_ret
          exact ⟨rfl, below_drewN HBQ.out _⟩
  · obtain ⟨t, u, hev⟩ := errF_iface (form_ne h)
    rw [hev] at HID
    clear hev h
    go_enter Tryd.func3, Tryd.ntmps3
    go_wp2_with fail
    refine HWK.out.mono ?_
    rintro e w0 ⟨rfl, hb0⟩
    go_wp2_with fail
    refine (HID.out _).mono ?_
    rintro e w1 ⟨rfl, hb1⟩
    go_wp2_with fail
    go_ret
    exact ⟨rfl, hb0.trans (hb1.mono hb0.size)⟩
end Go.Proofs.YtkpmmcekcpbilabDoor
