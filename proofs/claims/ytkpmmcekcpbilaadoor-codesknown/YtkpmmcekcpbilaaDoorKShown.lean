/-
  My own text: the examples.
-/
import Derived.Test.YtkpmmcekcpbilaaDoorKEdge
namespace Go.Proofs.YtkpmmcekcpbilaaDoor
open Go.RowKit

def x_gb : List UInt8 := [71, 66, 48, 48, 48, 50, 54, 51, 52, 57, 52, 54]
def x_u1 : List UInt8 := [117, 115, 48, 51, 55, 56, 51, 51, 49, 48, 48, 53]
def x_u2 : List UInt8 := [85, 83, 48, 51, 55, 56, 51, 51, 49, 48, 48, 88]
def x_u3 : List UInt8 := [85, 83, 48, 51, 55, 56, 51, 51, 49, 48, 48]
def x_u4 : List UInt8 := [85, 83, 48, 51, 55, 56, 51, 51, 49, 48, 48, 53, 53]
def x_dc : List UInt8 := [65, 65, 48, 48, 48, 48, 48, 67, 48, 48, 48]
def x_dk : List UInt8 := [65, 65, 48, 48, 48, 48, 48, 75, 48, 48, 48]
def x_l1 : List UInt8 := [55, 76, 84, 87, 70, 90, 89, 73, 67, 78, 83, 88, 56, 68, 54, 50, 49, 75, 56, 54]
def x_l2 : List UInt8 := [48, 48, 48, 48, 48, 48, 48, 48, 48, 48, 48, 48, 48, 48, 48, 48, 48, 48, 48, 49]
def x_ld : List UInt8 := [48, 48, 48, 48, 48, 48, 48, 48, 48, 48, 48, 48, 48, 48, 48, 48, 51, 50]
def x_b1 : List UInt8 := [68, 69, 85, 84, 68, 69, 70, 70, 88, 88, 88]
def x_b2 : List UInt8 := [68, 69, 85, 84, 68, 69, 70, 70, 53, 48]
def x_eu : List UInt8 := [69, 85, 82]
def x_ac : List UInt8 := [65, 45, 49]
theorem r_gb : isinR x_gb = (0, 0) := by decide
theorem r_u1 : isinR x_u1 = (6, 0) := by decide
theorem r_u2 : isinR x_u2 = (6, 11) := by decide
theorem r_u3 : isinR x_u3 = (2, 0) := by decide
theorem r_u4 : isinR x_u4 = (3, 0) := by decide
theorem r_dc : digV x_dc = 52 ∧ formR x_dc isinH = (0, 0) := by decide
theorem r_dk : digV x_dk = 52 ∧ formR x_dk isinH = (0, 0) := by decide
set_option maxRecDepth 100000 in
theorem r_l1 : leiR x_l1 = (0, 0) := by decide
set_option maxRecDepth 100000 in
theorem r_l2 : leiR x_l2 = (7, 0) := by decide
set_option maxRecDepth 100000 in
theorem r_ld : twoV x_ld = [48, 50] ∧ formR x_ld leiH = (0, 0) := by decide
theorem r_b1 : formR x_b1 (bicF x_b1) = (0, 0) ∧ bicB x_b1 = [] := by decide
theorem v_b1 : bicV x_b1 = #[.string ⟨#[68, 69, 85, 84]⟩, .string ⟨#[68, 69]⟩, .string ⟨#[70, 70]⟩, .string ⟨#[]⟩] := by
  unfold bicV bicP str; rw [r_b1.1, r_b1.2]; rfl
theorem r_b2 : formR x_b2 (bicF x_b2) = (2, 0) := by decide
theorem v_b2 : bicV x_b2 = bicZ := by unfold bicV; rw [r_b2]; rfl
theorem r_eu : formR x_eu curF = (0, 0) := by decide
theorem r_ac : formR x_ac (accF x_ac) = (6, 1) := by decide
set_option maxRecDepth 100000 in
set_option maxHeartbeats 8000000 in
theorem shown_any (w : World) (hE : ErrType w) (hO : HeadOffice w) :
    Calls Tryd.prog 26 #[] w fun e w' => e = .returned (.bool true) ∧ Below w.heap.size w w' := by
  have HE := hide hE
  have HO := hide hO
  clear hE hO
  have Hgb := hide (fun W : World => isin_any x_gb W (by decide))
  rw [r_gb] at Hgb
  have Hu1 := hide (fun W : World => isin_any x_u1 W (by decide))
  rw [r_u1] at Hu1
  have Hu2 := hide (fun W : World => isin_any x_u2 W (by decide))
  rw [r_u2] at Hu2
  have Hu3 := hide (fun W : World => isin_any x_u3 W (by decide))
  rw [r_u3] at Hu3
  have Hu4 := hide (fun W : World => isin_any x_u4 W (by decide))
  rw [r_u4] at Hu4
  rw [if_pos rfl, errF_ok] at Hgb
  rw [if_neg (by decide), errF_fault] at Hu1 Hu2
  rw [if_neg (by decide), errF_no (by decide) (by decide)] at Hu3 Hu4
  unfold arr at Hgb Hu1 Hu2 Hu3 Hu4
  have Hdc := hide (fun W : World => isinDigit_any x_dc W (by decide))
  rw [r_dc.1, r_dc.2, errF_ok] at Hdc
  have Hdk := hide (fun W : World => isinDigit_any x_dk W (by decide))
  rw [r_dk.1, r_dk.2, errF_ok] at Hdk
  have Hl1 := hide (fun (W : World) (hW : ErrType W) => lei_any x_l1 W hW (by decide))
  rw [r_l1] at Hl1
  have Hl2 := hide (fun (W : World) (hW : ErrType W) => lei_any x_l2 W hW (by decide))
  rw [r_l2] at Hl2
  rw [if_pos rfl, errF_ok] at Hl1
  rw [if_neg (by decide), errF_no (by decide) (by decide)] at Hl2
  unfold arr at Hl1 Hl2
  have Hld := hide (fun W : World => leiDigits_any x_ld W (by decide))
  rw [r_ld.1, r_ld.2, errF_ok] at Hld
  have Hb1 := hide (fun (W : World) (hW : HeadOffice W) => bic_any x_b1 W hW (by decide))
  rw [v_b1, r_b1.1, errF_ok] at Hb1
  have Hb2 := hide (fun (W : World) (hW : HeadOffice W) => bic_any x_b2 W hW (by decide))
  rw [v_b2, r_b2, errF_no (by decide) (by decide)] at Hb2
  have Heu := hide (fun W : World => currency_any x_eu W (by decide))
  rw [r_eu, errF_ok] at Heu
  have Hac := hide (fun W : World => account_any x_ac W (by decide))
  rw [r_ac, errF_fault] at Hac
  have hneq := run_neq_four ⟨#[68, 69, 85, 84]⟩ ⟨#[68, 69]⟩ ⟨#[70, 70]⟩ ⟨#[]⟩
  obtain ⟨V1, HV, HV4, HVO⟩ : ∃ V : Array Value, Hid (#[.string ⟨#[68, 69, 85, 84]⟩, .string ⟨#[68, 69]⟩, .string ⟨#[70, 70]⟩, .string ⟨#[]⟩] = V) ∧ Hid (V.size = 4) ∧ Hid (V.all (·.oneCell') = true) := ⟨_, hide rfl, hide rfl, hide (by simp [Value.oneCell'])⟩
  have hneq1 : ∀ W : World, (binOp .neq 46 (.agg V1) (.agg #[.string ⟨#[68, 69, 85, 84]⟩, .string ⟨#[68, 69]⟩, .string ⟨#[70, 70]⟩, .string ⟨#[]⟩])).run Tryd.prog W = .ok (.bool false) W := fun W => by rw [← HV.out]; exact hneq W
  rw [HV.out] at Hb1
  clear hneq HV
  have HB0 := hide (Below.refl w.heap.size w)
  go_enter Tryd.func26, Tryd.ntmps26
  go_wp2_with fail
  refine (Hgb.out _).mono ?_
  rintro e w1 ⟨rfl, hbn⟩
  have HB1 := hide (HB0.out.trans (hbn.mono HB0.out.size))
  clear hbn
  have HW1 := hide (HB1.out.alloc HB1.out.size (.cells (cel x_gb) 25))
  have HN1 := hide (alloc_new w1 (.cells (cel x_gb) 25))
  go_wp2_with (first
    | (refine wpList_store_row rfl 25 (.tmp 1) _ rfl w1.heap.size (cel x_gb) rfl rfl _ (cel (zer 12)) (alloc_new w1 _) (by rw [cel_size]; exact Tryd.sizeIsin) rfl (cel_one _) ?_; rw [World.setRow_alloc_new])
    | (refine wpList_load_want rfl 25 (.tmp 1) rfl w1.heap.size rfl _ (cel x_gb) _ _ HN1.out Tryd.underlying25 rfl (by rw [cel_size]; exact Tryd.sizeIsin) ?_))
  refine (textIsin_any x_gb _ rfl).mono ?_
  rintro e w2 ⟨rfl, hbn⟩
  have HB2 := hide (HW1.out.trans (hbn.mono HW1.out.size))
  clear hbn
  go_wp2_with fail
  refine (works_any _ (HE.out.below HB2.out)).mono ?_
  rintro e w3 ⟨rfl, hbn⟩
  have HB3 := hide (HB2.out.trans (hbn.mono HB2.out.size))
  clear hbn
  go_wp2_with fail
  refine (Hu1.out _).mono ?_
  rintro e w4 ⟨rfl, hbn⟩
  have HB4 := hide (HB3.out.trans (hbn.mono HB3.out.size))
  clear hbn
  have HW4 := hide (HB4.out.alloc HB4.out.size (.cells (cel (zer 12)) 25))
  have HN4 := hide (alloc_new w4 (.cells (cel (zer 12)) 25))
  go_wp2_with (refine wpList_store_row rfl 25 (.tmp 3) _ rfl w4.heap.size (cel (zer 12)) rfl rfl _ (cel (zer 12)) (alloc_new w4 _) (by rw [cel_size]; exact Tryd.sizeIsin) rfl (cel_one _) ?_; rw [World.setRow_alloc_new])
  refine (Hu2.out _).mono ?_
  rintro e w5 ⟨rfl, hbn⟩
  have HB5 := hide (HW4.out.trans (hbn.mono HW4.out.size))
  clear hbn
  have HW5 := hide (HB5.out.alloc HB5.out.size (.cells (cel (zer 12)) 25))
  have HN5 := hide (alloc_new w5 (.cells (cel (zer 12)) 25))
  go_wp2_with (refine wpList_store_row rfl 25 (.tmp 5) _ rfl w5.heap.size (cel (zer 12)) rfl rfl _ (cel (zer 12)) (alloc_new w5 _) (by rw [cel_size]; exact Tryd.sizeIsin) rfl (cel_one _) ?_; rw [World.setRow_alloc_new])
  refine (Hu3.out _).mono ?_
  rintro e w6 ⟨rfl, hbn⟩
  have HB6 := hide (HW5.out.trans (hbn.mono HW5.out.size))
  clear hbn
  have HW6 := hide (HB6.out.alloc HB6.out.size (.cells (cel (zer 12)) 25))
  have HN6 := hide (alloc_new w6 (.cells (cel (zer 12)) 25))
  go_wp2_with (refine wpList_store_row rfl 25 (.tmp 7) _ rfl w6.heap.size (cel (zer 12)) rfl rfl _ (cel (zer 12)) (alloc_new w6 _) (by rw [cel_size]; exact Tryd.sizeIsin) rfl (cel_one _) ?_; rw [World.setRow_alloc_new])
  refine (Hu4.out _).mono ?_
  rintro e w7 ⟨rfl, hbn⟩
  have HB7 := hide (HW6.out.trans (hbn.mono HW6.out.size))
  clear hbn
  have HW7 := hide (HB7.out.alloc HB7.out.size (.cells (cel (zer 12)) 25))
  have HN7 := hide (alloc_new w7 (.cells (cel (zer 12)) 25))
  go_wp2_with (refine wpList_store_row rfl 25 (.tmp 9) _ rfl w7.heap.size (cel (zer 12)) rfl rfl _ (cel (zer 12)) (alloc_new w7 _) (by rw [cel_size]; exact Tryd.sizeIsin) rfl (cel_one _) ?_; rw [World.setRow_alloc_new])
  refine (at_fault 0 _ (HE.out.below HW7.out)).mono ?_
  rintro e w8 ⟨rfl, hbn⟩
  have HB8 := hide (HW7.out.trans (hbn.mono HW7.out.size))
  clear hbn
  go_wp2_with fail
  refine (at_fault 11 _ (HE.out.below HB8.out)).mono ?_
  rintro e w9 ⟨rfl, hbn⟩
  have HB9 := hide (HB8.out.trans (hbn.mono HB8.out.size))
  clear hbn
  go_wp2_with fail
  refine (plain_errno 2 2 _ (by decide) (by decide) (HE.out.below HB9.out)).mono ?_
  rintro e w10 ⟨rfl, hbn⟩
  have HB10 := hide (HB9.out.trans (hbn.mono HB9.out.size))
  clear hbn
  go_wp2_with fail
  refine (plain_errno 3 3 _ (by decide) (by decide) (HE.out.below HB10.out)).mono ?_
  rintro e w11 ⟨rfl, hbn⟩
  have HB11 := hide (HB10.out.trans (hbn.mono HB10.out.size))
  clear hbn
  go_wp2_with fail
  refine (Hdc.out _).mono ?_
  rintro e w12 ⟨rfl, hbn⟩
  have HB12 := hide (HB11.out.trans (hbn.mono HB11.out.size))
  clear hbn
  go_wp2_with fail
  refine (Hdk.out _).mono ?_
  rintro e w13 ⟨rfl, hbn⟩
  have HB13 := hide (HB12.out.trans (hbn.mono HB12.out.size))
  clear hbn
  go_wp2_with fail
  refine (Hl1.out _ (HE.out.below HB13.out)).mono ?_
  rintro e w14 ⟨rfl, hbn⟩
  have HB14 := hide (HB13.out.trans (hbn.mono HB13.out.size))
  clear hbn
  have HW14 := hide (HB14.out.alloc HB14.out.size (.cells (cel x_l1) 38))
  have HN14 := hide (alloc_new w14 (.cells (cel x_l1) 38))
  go_wp2_with (refine wpList_store_row rfl 38 (.tmp 15) _ rfl w14.heap.size (cel x_l1) rfl rfl _ (cel (zer 20)) (alloc_new w14 _) (by rw [cel_size]; exact Tryd.sizeLei) rfl (cel_one _) ?_; rw [World.setRow_alloc_new])
  refine (Hl2.out _ (HE.out.below HW14.out)).mono ?_
  rintro e w15 ⟨rfl, hbn⟩
  have hbl := hide hbn
  have HB15 := hide (HW14.out.trans (hbn.mono HW14.out.size))
  clear hbn
  have HNL := hide (alloc_block (o := .cells (cel (zer 20)) 38) ((hbl.out.block w14.heap.size (by simp)).trans HN14.out))
  have HW15 := hide (HB15.out.alloc HB15.out.size (.cells (cel (zer 20)) 38))
  have HN15 := hide (alloc_new w15 (.cells (cel (zer 20)) 38))
  go_wp2_with (first
    | (refine wpList_store_row rfl 38 (.tmp 17) _ rfl w15.heap.size (cel (zer 20)) rfl rfl _ (cel (zer 20)) (alloc_new w15 _) (by rw [cel_size]; exact Tryd.sizeLei) rfl (cel_one _) ?_; rw [World.setRow_alloc_new])
    | (refine wpList_load_want rfl 38 (.tmp 15) rfl w14.heap.size rfl _ (cel x_l1) _ _ HNL.out Tryd.underlying38 rfl (by rw [cel_size]; exact Tryd.sizeLei) ?_))
  refine (textLei_any x_l1 _ rfl).mono ?_
  rintro e w16 ⟨rfl, hbn⟩
  have HB16 := hide (HW15.out.trans (hbn.mono HW15.out.size))
  clear hbn
  go_wp2_with fail
  refine (plain_errno 7 7 _ (by decide) (by decide) (HE.out.below HB16.out)).mono ?_
  rintro e w17 ⟨rfl, hbn⟩
  have HB17 := hide (HB16.out.trans (hbn.mono HB16.out.size))
  clear hbn
  go_wp2_with fail
  refine (Hld.out _).mono ?_
  rintro e w18 ⟨rfl, hbn⟩
  have HB18 := hide (HB17.out.trans (hbn.mono HB17.out.size))
  clear hbn
  go_wp2_with fail
  refine (Hb1.out _ (HO.out.below HB18.out)).mono ?_
  rintro e w19 ⟨rfl, hbn⟩
  have HB19 := hide (HB18.out.trans (hbn.mono HB18.out.size))
  clear hbn
  have HW19 := hide (HB19.out.alloc HB19.out.size (.cells V1 46))
  have HN19 := hide (alloc_new w19 (.cells V1 46))
  go_wp2_with (refine wpList_store_row rfl 46 (.tmp 21) _ rfl w19.heap.size V1 rfl rfl _ bicZ (alloc_new w19 _) (by rw [HV4.out]; exact Tryd.size4) (by rw [HV4.out]; rfl) HVO.out ?_; rw [World.setRow_alloc_new])
  refine (Hb2.out _ (HO.out.below HW19.out)).mono ?_
  rintro e w20 ⟨rfl, hbn⟩
  have hbb := hide hbn
  have HB20 := hide (HW19.out.trans (hbn.mono HW19.out.size))
  clear hbn
  have HNB := hide (alloc_block (o := .cells bicZ 46) ((hbb.out.block w19.heap.size (by simp)).trans HN19.out))
  have HW20 := hide (HB20.out.alloc HB20.out.size (.cells bicZ 46))
  have HN20 := hide (alloc_new w20 (.cells bicZ 46))
  go_wp2_with (first
    | (refine wpList_store_row rfl 46 (.tmp 23) _ rfl w20.heap.size bicZ rfl rfl _ bicZ (alloc_new w20 _) Tryd.size4 rfl (by simp [bicZ, str, Value.oneCell']) ?_; rw [World.setRow_alloc_new])
    | (refine wpList_load_want rfl 46 (.tmp 21) rfl w19.heap.size rfl _ V1 _ _ HNB.out Tryd.underlying46 rfl (by rw [HV4.out]; exact Tryd.size4) ?_))
  refine (plain_errno 2 2 _ (by decide) (by decide) (HE.out.below HW20.out)).mono ?_
  rintro e w21 ⟨rfl, hbn⟩
  have HB21 := hide (HW20.out.trans (hbn.mono HW20.out.size))
  clear hbn
  go_wp2_with fail
  refine (Heu.out _).mono ?_
  rintro e w22 ⟨rfl, hbn⟩
  have HB22 := hide (HB21.out.trans (hbn.mono HB21.out.size))
  clear hbn
  go_wp2_with fail
  refine (Hac.out _).mono ?_
  rintro e w23 ⟨rfl, hbn⟩
  have HB23 := hide (HB22.out.trans (hbn.mono HB22.out.size))
  clear hbn
  go_wp2_with fail
  refine (at_fault 1 _ (HE.out.below HB23.out)).mono ?_
  rintro e w24 ⟨rfl, hbn⟩
  have HB24 := hide (HB23.out.trans (hbn.mono HB23.out.size))
  clear hbn
  go_wp2_with fail
  go_ret
  exact ⟨rfl, HB24.out⟩
set_option maxHeartbeats 1000000 in
theorem known_law (w : World) (hE : ErrType w) (hO : HeadOffice w) :
    Calls Tryd.prog 6 #[] w fun e w' => e = .returned (.bool true) ∧ Below w.heap.size w w' := by
  have HE := hide hE
  have HO := hide hO
  clear hE hO
  go_enter Tryd.func6, Tryd.ntmps6
  go_wp2_with fail
  refine (shown_any _ HE.out HO.out).mono ?_
  rintro e w1 ⟨rfl, hb1⟩
  go_wp2_with fail
  refine (edged_any _ (HE.out.below hb1) (HO.out.below hb1)).mono ?_
  rintro e w2 ⟨rfl, hb2⟩
  go_wp2_with fail
  go_ret
  exact ⟨rfl, hb1.trans (hb2.mono hb1.size)⟩
end Go.Proofs.YtkpmmcekcpbilaaDoor
