/-
  My own text: the law on slips in identifiers of legal entities: its walk.
-/
import Derived.Test.YtkpmmcekcpbilabDoorTurn
namespace Go.Proofs.YtkpmmcekcpbilabDoor
open Go.RowKit

theorem cp_of {k : Nat} (h : k ≤ 25) : isCp (UInt8.ofNat (65 + k)) = true ∧ (UInt8.ofNat (65 + k)).toNat = 65 + k := by
  have e : (UInt8.ofNat (65 + k)).toNat = 65 + k := by rw [UInt8.toNat_ofNat']; omega
  exact ⟨isCp_yes e (by omega) (by omega), e⟩
set_option maxRecDepth 100000 in
set_option maxHeartbeats 8000000 in
theorem mod97_law (l : List UInt8) (a c : Int) (w : World) (hE : ErrType w) (hl : l.length ≤ 140737488355320) (c0 : 0 ≤ c) (c1 : c ≤ 255) :
    Calls Tryd.prog 4 #[.string ⟨l.toArray⟩, .int .i64 a, .int .u8 c] w fun e w' => e = .returned (.bool true) ∧ Below w.heap.size w w' := by
  have HE := hide hE
  have HWK := hide (works_any w hE)
  have HID := hide (fun W : World => leiDigits_any l W (by omega))
  clear hE
  by_cases h : Form l leiH
  · rw [form_eq h, errF_ok, twoV_ok h] at HID
    have hlen : l.length = 18 := h.1
    have HF : Hid (Form (l ++ two (spr l)) leiF) := hide (by
      have h2 := two_dg (spr l)
      unfold two at h2 ⊢
      exact (lei_head (h2 _ (by simp)) (h2 _ (by simp))).2 h)
    have HR1 := hide (taken_one l)
    obtain ⟨T, HT, hT2⟩ : ∃ T, Hid (two (spr l) = T) ∧ T.length ≤ 2 := ⟨_, hide rfl, Nat.le_refl _⟩
    rw [HT.out] at HF HR1 HID
    have happ : (⟨l.toArray⟩ : ByteArray) ++ ⟨T.toArray⟩ = ⟨(l ++ T).toArray⟩ := bytes_app l T
    have HSL : Hid ((l ++ T).length = 20) := hide HF.out.1
    have HLEN := hide hlen
    clear hlen HT h
    obtain ⟨s, hs⟩ : ∃ s, l ++ T = s := ⟨_, rfl⟩
    rw [hs] at HF HR1 happ HSL
    clear hs
    obtain ⟨cn, hcn⟩ := Int.eq_ofNat_of_zero_le c0
    subst hcn
    go_enter Tryd.func4, Tryd.ntmps4
    go_wp2_with fail
    refine HWK.out.mono ?_
    rintro e w0 ⟨rfl, hb0⟩
    go_wp2_with fail
    refine (HID.out _).mono ?_
    rintro e w1 ⟨rfl, hb1⟩
    have HBA := hide (hb0.trans (hb1.mono hb0.size))
    clear hb0 hb1 HWK HID
    have hsl20 : s.length = 20 := HSL.out
    go_wp2_with fail
    clear hsl20
    refine (pick_any a 20 _ (by decide) (by decide)).mono ?_
    rintro e w2 ⟨k, hk20, rfl, rfl⟩
    have hk : k < s.length := by rw [HSL.out]; exact hk20
    obtain ⟨x, hx, Hx⟩ : ∃ x, (⟨s.toArray⟩ : ByteArray)[k]'(by rw [bytes_size]; exact hk) = x ∧ Hid (s.getD k 0 = x) := ⟨_, rfl, by rw [getD_at hk]; exact hide rfl⟩
    have HDX := hide (fun W : World => lawDigit_any x W)
    have HCX := hide (fun W : World => lawCapital_any x W)
    have hsg : Sign x := by have := sign_at (form_signs HF.out) hk; rw [Hx.out] at this; exact this
    go_wp2_with fail
    cases hcp : isCp x
    · have hdx : isDg x = true := by
        rcases hsg with h | h
        · exact h
        · rw [hcp] at h; cases h
      rw [hcp] at HCX
      rw [hdx] at HDX
      have Hdx := hide hdx
      have hxb := dg_bounds hdx
      clear hdx hcp hsg
      obtain ⟨hcd, _⟩ := dg_of (k := cn % 10) (by omega)
      have hcx : (UInt8.ofNat (48 + cn % 10)).toNat = 48 + cn % 10 := by rw [UInt8.toNat_ofNat']; omega
      generalize UInt8.ofNat (48 + cn % 10) = cc at hcd hcx
      have HCD := hide hcd
      have HCV : Hid ((48 + (cn : Int) % 10) = (cc.toNat : Int)) := hide (by omega)
      clear hcd hcx
      rw [HCV.out]
      refine (HCX.out _).mono ?_
      rintro e w' ⟨rfl, rfl⟩
      by_cases hxc : x = cc
      · subst hxc
        have hqc : (((x.toNat : Int)) != (x.toNat : Int)) = false := by simp
        go_wp2_with fail
        have HBQ := HBA
        clear hqc
        by_cases hk1 : k + 1 < s.length
        · have hgd : decide ((s.length : Int) ≤ (k : Int) + 1) = false := by simp; omega
          obtain ⟨y, hy, Hy⟩ : ∃ y, (⟨s.toArray⟩ : ByteArray)[k + 1]'(by rw [bytes_size]; exact hk1) = y ∧ Hid (s.getD (k + 1) 0 = y) := ⟨_, rfl, by rw [getD_at hk1]; exact hide rfl⟩
          have HDY := hide (fun W : World => lawDigit_any y W)
          have HYC : Hid (isDg y = false → isCp y = true) := hide (fun h => by
            rcases sign_at (form_signs HF.out) hk1 with h1 | h1
            · rw [Hy.out, h] at h1; cases h1
            · rw [Hy.out] at h1; exact h1)
          cases hdy0 : isDg y
          · rw [hdy0] at HDY
            have hdy := hide hdy0
            clear hdy0
            go_quiet (first | (go_at_call_of 8 x; exact Calls.quiet_of_same (HDX.out _)) | (go_at_call_of 8 y; exact Calls.quiet_of_same (HDY.out _)))
            go_wp2_with fail
            go_ret
            exact ⟨rfl, below_drewN HBQ.out _⟩
          · rw [hdy0] at HDY
            have hdy := hide hdy0
            clear hdy0
            by_cases hxy : x = y
            · subst hxy
              have hq : (((x.toNat : Int)) == (x.toNat : Int)) = true := by simp
              go_quiet (first | (go_at_call_of 8 x; exact Calls.quiet_of_same (HDX.out _)) | (go_at_call_of 8 y; exact Calls.quiet_of_same (HDY.out _)))
              go_wp2_with fail
              go_ret
              exact ⟨rfl, below_drewN HBQ.out _⟩
            · have hq : (((x.toNat : Int)) == (y.toNat : Int)) = false := u8_ne hxy
              have HTN := hide (turn_lei HF.out HR1.out hk1 (by rw [Hx.out, Hy.out]; exact .inl ⟨Hdx.out, hdy.out⟩) (by rw [Hx.out, Hy.out]; exact hxy))
              have HTU := hide (fun (W : World) (hW : ErrType W) => turned_any s k W hW hk1 (by rw [HSL.out]; decide))
              have HIT := hide (fun (W : World) (hW : ErrType W) => lei_any (turnL s k) W hW (by unfold turnL; rw [putL_len (by rw [putL_len hk]; exact hk1), putL_len hk, HSL.out]; decide))
              rw [HTN.out, if_neg (by decide), errF_no (by decide) (by decide)] at HIT
              clear HTN hxy
              go_quiet (first | (go_at_call_of 8 x; exact Calls.quiet_of_same (HDX.out _)) | (go_at_call_of 8 y; exact Calls.quiet_of_same (HDY.out _)))
              go_wp2_with fail
              refine (HTU.out _ (HE.out.below (below_drewN HBQ.out _))).mono ?_
              rintro e w6 ⟨rfl, hb6⟩
              have HB6 := hide ((below_drewN HBQ.out _).trans (hb6.mono (below_drewN HBQ.out _).size))
              clear hb6
              go_wp2_with fail
              refine (HIT.out _ (HE.out.below HB6.out)).mono ?_
              rintro e w7 ⟨rfl, hb7⟩
              have HB7 := hide (HB6.out.trans (hb7.mono HB6.out.size))
              clear hb7
              go_wp2_with fail
              refine (plain_errno 7 7 _ (by decide) (by decide) (HE.out.below HB7.out)).mono ?_
              rintro e w8 ⟨rfl, hb8⟩
              go_wp2_with fail
              go_ret
              exact ⟨rfl, HB7.out.trans (hb8.mono HB7.out.size)⟩
        · have hgd : decide ((s.length : Int) ≤ (k : Int) + 1) = true := by simp; omega
          go_quiet (fail)
          go_wp2_with fail
          go_ret
          exact ⟨rfl, below_drewN HBQ.out _⟩
      · have hqc : (((x.toNat : Int)) != (cc.toNat : Int)) = true := by have := u8_ne hxc; simp [bne, this]
        have HPU := hide (fun W : World => put_any s k cc W hk (by rw [HSL.out]; decide))
        have HIP := hide (fun (W : World) (hW : ErrType W) => lei_any (putL s k cc) W hW (by rw [putL_len hk, HSL.out]; decide))
        rw [slip_lei HF.out HR1.out hk (by rw [Hx.out]; exact .inl ⟨Hdx.out, HCD.out⟩) (by rw [Hx.out]; exact hxc), if_neg (by decide), errF_no (by decide) (by decide)] at HIP
        clear hxc
        go_wp2_with fail
        refine (HPU.out _).mono ?_
        rintro e w3 ⟨rfl, hb3⟩
        have HB3 := hide (HBA.out.trans (hb3.mono HBA.out.size))
        clear hb3
        go_wp2_with fail
        refine (HIP.out _ (HE.out.below HB3.out)).mono ?_
        rintro e w4 ⟨rfl, hb4⟩
        have HB4 := hide (HB3.out.trans (hb4.mono HB3.out.size))
        clear hb4
        go_wp2_with fail
        refine (plain_errno 7 7 _ (by decide) (by decide) (HE.out.below HB4.out)).mono ?_
        rintro e w5 ⟨rfl, hb5⟩
        have HBQ := hide (HB4.out.trans (hb5.mono HB4.out.size))
        clear hb5 hqc
        go_wp2_with fail
        by_cases hk1 : k + 1 < s.length
        · have hgd : decide ((s.length : Int) ≤ (k : Int) + 1) = false := by simp; omega
          obtain ⟨y, hy, Hy⟩ : ∃ y, (⟨s.toArray⟩ : ByteArray)[k + 1]'(by rw [bytes_size]; exact hk1) = y ∧ Hid (s.getD (k + 1) 0 = y) := ⟨_, rfl, by rw [getD_at hk1]; exact hide rfl⟩
          have HDY := hide (fun W : World => lawDigit_any y W)
          have HYC : Hid (isDg y = false → isCp y = true) := hide (fun h => by
            rcases sign_at (form_signs HF.out) hk1 with h1 | h1
            · rw [Hy.out, h] at h1; cases h1
            · rw [Hy.out] at h1; exact h1)
          cases hdy0 : isDg y
          · rw [hdy0] at HDY
            have hdy := hide hdy0
            clear hdy0
            go_quiet (first | (go_at_call_of 8 x; exact Calls.quiet_of_same (HDX.out _)) | (go_at_call_of 8 y; exact Calls.quiet_of_same (HDY.out _)))
            go_wp2_with fail
            go_ret
            exact ⟨rfl, below_drewN HBQ.out _⟩
          · rw [hdy0] at HDY
            have hdy := hide hdy0
            clear hdy0
            by_cases hxy : x = y
            · subst hxy
              have hq : (((x.toNat : Int)) == (x.toNat : Int)) = true := by simp
              go_quiet (first | (go_at_call_of 8 x; exact Calls.quiet_of_same (HDX.out _)) | (go_at_call_of 8 y; exact Calls.quiet_of_same (HDY.out _)))
              go_wp2_with fail
              go_ret
              exact ⟨rfl, below_drewN HBQ.out _⟩
            · have hq : (((x.toNat : Int)) == (y.toNat : Int)) = false := u8_ne hxy
              have HTN := hide (turn_lei HF.out HR1.out hk1 (by rw [Hx.out, Hy.out]; exact .inl ⟨Hdx.out, hdy.out⟩) (by rw [Hx.out, Hy.out]; exact hxy))
              have HTU := hide (fun (W : World) (hW : ErrType W) => turned_any s k W hW hk1 (by rw [HSL.out]; decide))
              have HIT := hide (fun (W : World) (hW : ErrType W) => lei_any (turnL s k) W hW (by unfold turnL; rw [putL_len (by rw [putL_len hk]; exact hk1), putL_len hk, HSL.out]; decide))
              rw [HTN.out, if_neg (by decide), errF_no (by decide) (by decide)] at HIT
              clear HTN hxy
              go_quiet (first | (go_at_call_of 8 x; exact Calls.quiet_of_same (HDX.out _)) | (go_at_call_of 8 y; exact Calls.quiet_of_same (HDY.out _)))
              go_wp2_with fail
              refine (HTU.out _ (HE.out.below (below_drewN HBQ.out _))).mono ?_
              rintro e w6 ⟨rfl, hb6⟩
              have HB6 := hide ((below_drewN HBQ.out _).trans (hb6.mono (below_drewN HBQ.out _).size))
              clear hb6
              go_wp2_with fail
              refine (HIT.out _ (HE.out.below HB6.out)).mono ?_
              rintro e w7 ⟨rfl, hb7⟩
              have HB7 := hide (HB6.out.trans (hb7.mono HB6.out.size))
              clear hb7
              go_wp2_with fail
              refine (plain_errno 7 7 _ (by decide) (by decide) (HE.out.below HB7.out)).mono ?_
              rintro e w8 ⟨rfl, hb8⟩
              go_wp2_with fail
              go_ret
              exact ⟨rfl, HB7.out.trans (hb8.mono HB7.out.size)⟩
        · have hgd : decide ((s.length : Int) ≤ (k : Int) + 1) = true := by simp; omega
          go_quiet (fail)
          go_wp2_with fail
          go_ret
          exact ⟨rfl, below_drewN HBQ.out _⟩
    · have hdx : isDg x = false := by
        cases hd : isDg x
        · rfl
        · exact absurd hd (cp_not_dg hcp)
      rw [hcp] at HCX
      rw [hdx] at HDX
      have Hcx := hide hcp
      have hxb := cp_bounds hcp
      clear hdx hcp hsg
      obtain ⟨hcd, hcx⟩ := cp_of (k := cn % 26) (by omega)
      generalize UInt8.ofNat (65 + cn % 26) = cc at hcd hcx
      have HCD := hide hcd
      have HCV : Hid ((65 + (cn : Int) % 26) = (cc.toNat : Int)) := hide (by omega)
      clear hcd hcx
      refine (HCX.out _).mono ?_
      rintro e w' ⟨rfl, rfl⟩
      by_cases hxc : x = cc
      · subst hxc
        have hqc : (((x.toNat : Int)) != (65 + (cn : Int) % 26)) = false := by rw [HCV.out]; simp
        go_wp2_with fail
        have HBQ := HBA
        clear hqc
        by_cases hk1 : k + 1 < s.length
        · have hgd : decide ((s.length : Int) ≤ (k : Int) + 1) = false := by simp; omega
          obtain ⟨y, hy, Hy⟩ : ∃ y, (⟨s.toArray⟩ : ByteArray)[k + 1]'(by rw [bytes_size]; exact hk1) = y ∧ Hid (s.getD (k + 1) 0 = y) := ⟨_, rfl, by rw [getD_at hk1]; exact hide rfl⟩
          have HDY := hide (fun W : World => lawDigit_any y W)
          have HYC : Hid (isDg y = false → isCp y = true) := hide (fun h => by
            rcases sign_at (form_signs HF.out) hk1 with h1 | h1
            · rw [Hy.out, h] at h1; cases h1
            · rw [Hy.out] at h1; exact h1)
          cases hdy0 : isDg y
          · rw [hdy0] at HDY
            have hdy := hide hdy0
            clear hdy0
            by_cases hxy : x = y
            · subst hxy
              have hq : (((x.toNat : Int)) == (x.toNat : Int)) = true := by simp
              go_quiet (first | (go_at_call_of 8 x; exact Calls.quiet_of_same (HDX.out _)) | (go_at_call_of 8 y; exact Calls.quiet_of_same (HDY.out _)))
              go_wp2_with fail
              go_ret
              exact ⟨rfl, below_drewN HBQ.out _⟩
            · have hq : (((x.toNat : Int)) == (y.toNat : Int)) = false := u8_ne hxy
              have HTN := hide (turn_lei HF.out HR1.out hk1 (by rw [Hx.out, Hy.out]; exact .inr ⟨Hcx.out, (HYC.out hdy.out)⟩) (by rw [Hx.out, Hy.out]; exact hxy))
              have HTU := hide (fun (W : World) (hW : ErrType W) => turned_any s k W hW hk1 (by rw [HSL.out]; decide))
              have HIT := hide (fun (W : World) (hW : ErrType W) => lei_any (turnL s k) W hW (by unfold turnL; rw [putL_len (by rw [putL_len hk]; exact hk1), putL_len hk, HSL.out]; decide))
              rw [HTN.out, if_neg (by decide), errF_no (by decide) (by decide)] at HIT
              clear HTN hxy
              go_quiet (first | (go_at_call_of 8 x; exact Calls.quiet_of_same (HDX.out _)) | (go_at_call_of 8 y; exact Calls.quiet_of_same (HDY.out _)))
              go_wp2_with fail
              refine (HTU.out _ (HE.out.below (below_drewN HBQ.out _))).mono ?_
              rintro e w6 ⟨rfl, hb6⟩
              have HB6 := hide ((below_drewN HBQ.out _).trans (hb6.mono (below_drewN HBQ.out _).size))
              clear hb6
              go_wp2_with fail
              refine (HIT.out _ (HE.out.below HB6.out)).mono ?_
              rintro e w7 ⟨rfl, hb7⟩
              have HB7 := hide (HB6.out.trans (hb7.mono HB6.out.size))
              clear hb7
              go_wp2_with fail
              refine (plain_errno 7 7 _ (by decide) (by decide) (HE.out.below HB7.out)).mono ?_
              rintro e w8 ⟨rfl, hb8⟩
              go_wp2_with fail
              go_ret
              exact ⟨rfl, HB7.out.trans (hb8.mono HB7.out.size)⟩
          · rw [hdy0] at HDY
            have hdy := hide hdy0
            clear hdy0
            go_quiet (first | (go_at_call_of 8 x; exact Calls.quiet_of_same (HDX.out _)) | (go_at_call_of 8 y; exact Calls.quiet_of_same (HDY.out _)))
            go_wp2_with fail
            go_ret
            exact ⟨rfl, below_drewN HBQ.out _⟩
        · have hgd : decide ((s.length : Int) ≤ (k : Int) + 1) = true := by simp; omega
          go_quiet (fail)
          go_wp2_with fail
          go_ret
          exact ⟨rfl, below_drewN HBQ.out _⟩
      · have hqc : (((x.toNat : Int)) != (65 + (cn : Int) % 26)) = true := by rw [HCV.out]; have := u8_ne hxc; simp [bne, this]
        have HPU := hide (fun W : World => put_any s k cc W hk (by rw [HSL.out]; decide))
        rw [← HCV.out] at HPU
        have HIP := hide (fun (W : World) (hW : ErrType W) => lei_any (putL s k cc) W hW (by rw [putL_len hk, HSL.out]; decide))
        rw [slip_lei HF.out HR1.out hk (by rw [Hx.out]; exact .inr ⟨Hcx.out, HCD.out⟩) (by rw [Hx.out]; exact hxc), if_neg (by decide), errF_no (by decide) (by decide)] at HIP
        clear hxc
        go_wp2_with fail
        refine (HPU.out _).mono ?_
        rintro e w3 ⟨rfl, hb3⟩
        have HB3 := hide (HBA.out.trans (hb3.mono HBA.out.size))
        clear hb3
        go_wp2_with fail
        refine (HIP.out _ (HE.out.below HB3.out)).mono ?_
        rintro e w4 ⟨rfl, hb4⟩
        have HB4 := hide (HB3.out.trans (hb4.mono HB3.out.size))
        clear hb4
        go_wp2_with fail
        refine (plain_errno 7 7 _ (by decide) (by decide) (HE.out.below HB4.out)).mono ?_
        rintro e w5 ⟨rfl, hb5⟩
        have HBQ := hide (HB4.out.trans (hb5.mono HB4.out.size))
        clear hb5 hqc
        go_wp2_with fail
        by_cases hk1 : k + 1 < s.length
        · have hgd : decide ((s.length : Int) ≤ (k : Int) + 1) = false := by simp; omega
          obtain ⟨y, hy, Hy⟩ : ∃ y, (⟨s.toArray⟩ : ByteArray)[k + 1]'(by rw [bytes_size]; exact hk1) = y ∧ Hid (s.getD (k + 1) 0 = y) := ⟨_, rfl, by rw [getD_at hk1]; exact hide rfl⟩
          have HDY := hide (fun W : World => lawDigit_any y W)
          have HYC : Hid (isDg y = false → isCp y = true) := hide (fun h => by
            rcases sign_at (form_signs HF.out) hk1 with h1 | h1
            · rw [Hy.out, h] at h1; cases h1
            · rw [Hy.out] at h1; exact h1)
          cases hdy0 : isDg y
          · rw [hdy0] at HDY
            have hdy := hide hdy0
            clear hdy0
            by_cases hxy : x = y
            · subst hxy
              have hq : (((x.toNat : Int)) == (x.toNat : Int)) = true := by simp
              go_quiet (first | (go_at_call_of 8 x; exact Calls.quiet_of_same (HDX.out _)) | (go_at_call_of 8 y; exact Calls.quiet_of_same (HDY.out _)))
              go_wp2_with fail
              go_ret
              exact ⟨rfl, below_drewN HBQ.out _⟩
            · have hq : (((x.toNat : Int)) == (y.toNat : Int)) = false := u8_ne hxy
              have HTN := hide (turn_lei HF.out HR1.out hk1 (by rw [Hx.out, Hy.out]; exact .inr ⟨Hcx.out, (HYC.out hdy.out)⟩) (by rw [Hx.out, Hy.out]; exact hxy))
              have HTU := hide (fun (W : World) (hW : ErrType W) => turned_any s k W hW hk1 (by rw [HSL.out]; decide))
              have HIT := hide (fun (W : World) (hW : ErrType W) => lei_any (turnL s k) W hW (by unfold turnL; rw [putL_len (by rw [putL_len hk]; exact hk1), putL_len hk, HSL.out]; decide))
              rw [HTN.out, if_neg (by decide), errF_no (by decide) (by decide)] at HIT
              clear HTN hxy
              go_quiet (first | (go_at_call_of 8 x; exact Calls.quiet_of_same (HDX.out _)) | (go_at_call_of 8 y; exact Calls.quiet_of_same (HDY.out _)))
              go_wp2_with fail
              refine (HTU.out _ (HE.out.below (below_drewN HBQ.out _))).mono ?_
              rintro e w6 ⟨rfl, hb6⟩
              have HB6 := hide ((below_drewN HBQ.out _).trans (hb6.mono (below_drewN HBQ.out _).size))
              clear hb6
              go_wp2_with fail
              refine (HIT.out _ (HE.out.below HB6.out)).mono ?_
              rintro e w7 ⟨rfl, hb7⟩
              have HB7 := hide (HB6.out.trans (hb7.mono HB6.out.size))
              clear hb7
              go_wp2_with fail
              refine (plain_errno 7 7 _ (by decide) (by decide) (HE.out.below HB7.out)).mono ?_
              rintro e w8 ⟨rfl, hb8⟩
              go_wp2_with fail
              go_ret
              exact ⟨rfl, HB7.out.trans (hb8.mono HB7.out.size)⟩
          · rw [hdy0] at HDY
            have hdy := hide hdy0
            clear hdy0
            go_quiet (first | (go_at_call_of 8 x; exact Calls.quiet_of_same (HDX.out _)) | (go_at_call_of 8 y; exact Calls.quiet_of_same (HDY.out _)))
            go_wp2_with fail
            go_ret
            exact ⟨rfl, below_drewN HBQ.out _⟩
        · have hgd : decide ((s.length : Int) ≤ (k : Int) + 1) = true := by simp; omega
          go_quiet (fail)
          go_wp2_with fail
          go_ret
          exact ⟨rfl, below_drewN HBQ.out _⟩
  · obtain ⟨t, u, hev⟩ := errF_iface (form_ne h)
    rw [hev] at HID
    clear hev h
    go_enter Tryd.func4, Tryd.ntmps4
    go_wp2_with fail
    refine HWK.out.mono ?_
    rintro e w0 ⟨rfl, hb0⟩
    go_wp2_with fail
    refine (HID.out _).mono ?_
    rintro e w1 ⟨rfl, hb1⟩
    go_wp2_with fail
    go_ret
    exact ⟨rfl, hb0.trans (hb1.mono hb0.size)⟩
end Go.Proofs.YtkpmmcekcpbilabDoor
