/-
  My own text: message() makes the places of a message (printed by mknp10.py).
-/
import Derived.Test.YtbaideeiljeamaaGreatDoorNP9
namespace Go.Proofs.YtbaideeiljeamaaGreatDoor
open Go.RowKit

set_option maxRecDepth 100000 in
set_option maxHeartbeats 16000000 in
theorem message_any (w : World) :
    Calls Tryz.prog 16 #[] w fun e w' => ∃ bM, e = .returned (.slice (some ⟨bM, 0, none⟩) 4 4) ∧ MsgM w' bM ∧ Below w.heap.size w w' := by
  have HA := hide (fun (fid : FuncId) (W : World) => anyText_any fid W)
  have HD := hide (fun (fid : FuncId) (W : World) => dateForm_any fid W)
  go_enter Tryz.func16, Tryz.ntmps16
  go_wp2_with fail
  refine (HA.out 39 w).mono ?_
  rintro e w1 ⟨rfl, hk, hb⟩
  have Kc1 := hide hk
  have HB := hide hb
  clear hk hb
  go_wp2_with fail
  refine (HA.out 44 w1).mono ?_
  rintro e w2 ⟨rfl, hk, hb⟩
  have Kc1 := hide (cell_later hb Kc1.out)
  have Kc2 := hide hk
  have HB := hide (HB.out.trans (hb.mono HB.out.size))
  clear hk hb
  go_wp2_with fail
  refine (HA.out 48 w2).mono ?_
  rintro e w3 ⟨rfl, hk, hb⟩
  have Kc1 := hide (cell_later hb Kc1.out)
  have Kc2 := hide (cell_later hb Kc2.out)
  have Kc4 := hide hk
  have HB := hide (HB.out.trans (hb.mono HB.out.size))
  clear hk hb
  have hb : Below w3.heap.size w3 (w3.alloc (.cells (fl8 (rowL w2.heap.size)).toArray 74)) := (Below.refl _ _).alloc (Nat.le_refl _) _
  have Kc1 := hide (cell_later hb Kc1.out)
  have Kc2 := hide (cell_later hb Kc2.out)
  have Kc4 := hide (cell_later hb Kc4.out)
  have HB := hide (HB.out.trans (hb.mono HB.out.size))
  have RL := hide (PR8.lit w3 (rowL w2.heap.size) _ rfl (rowL_8 w2.heap.size))
  clear hb
  have hb : Below (w3.alloc (.cells (fl8 (rowL w2.heap.size)).toArray 74)).heap.size (w3.alloc (.cells (fl8 (rowL w2.heap.size)).toArray 74)) ((w3.alloc (.cells (fl8 (rowL w2.heap.size)).toArray 74)).alloc (.cells (fl8 (rowG w.heap.size w1.heap.size w3.heap.size)).toArray 74)) := (Below.refl _ _).alloc (Nat.le_refl _) _
  have Kc1 := hide (cell_later hb Kc1.out)
  have Kc2 := hide (cell_later hb Kc2.out)
  have Kc4 := hide (cell_later hb Kc4.out)
  have RL := hide (RL.out.low hb)
  have HB := hide (HB.out.trans (hb.mono HB.out.size))
  have hz : (w3.alloc (.cells (fl8 (rowL w2.heap.size)).toArray 74)).heap.size = w3.heap.size + 1 := by simp
  have RG := hide (PR8.lit (w3.alloc (.cells (fl8 (rowL w2.heap.size)).toArray 74)) (rowG w.heap.size w1.heap.size w3.heap.size) _ rfl (rowG_8 w.heap.size w1.heap.size w3.heap.size))
  rw [hz] at RG
  clear hz
  clear hb
  go_wp2_with fail
  refine (HD.out 51 _).mono ?_
  rintro e w5 ⟨rfl, hk, hb⟩
  have Kc1 := hide (cell_later hb Kc1.out)
  have Kc2 := hide (cell_later hb Kc2.out)
  have Kc4 := hide (cell_later hb Kc4.out)
  have RL := hide (RL.out.low hb)
  have RG := hide (RG.out.low hb)
  have Kc5 : Hid (w5.cell? ⟨w3.heap.size + 1 + 1, 0, none⟩ = some (.func (Fn.func 51) #[] #[])) := hide (by simpa using hk)
  have HB := hide (HB.out.trans (hb.mono HB.out.size))
  clear hk hb
  go_wp2_with fail
  refine (HD.out 52 w5).mono ?_
  rintro e w6 ⟨rfl, hk, hb⟩
  have Kc1 := hide (cell_later hb Kc1.out)
  have Kc2 := hide (cell_later hb Kc2.out)
  have Kc4 := hide (cell_later hb Kc4.out)
  have Kc5 := hide (cell_later hb Kc5.out)
  have RL := hide (RL.out.low hb)
  have RG := hide (RG.out.low hb)
  have Kc6 := hide hk
  have HB := hide (HB.out.trans (hb.mono HB.out.size))
  clear hk hb
  have hb : Below w6.heap.size w6 (w6.alloc (.cells (fl8 (rowT (w3.heap.size + 1 + 1) w5.heap.size)).toArray 74)) := (Below.refl _ _).alloc (Nat.le_refl _) _
  have Kc1 := hide (cell_later hb Kc1.out)
  have Kc2 := hide (cell_later hb Kc2.out)
  have Kc4 := hide (cell_later hb Kc4.out)
  have Kc5 := hide (cell_later hb Kc5.out)
  have Kc6 := hide (cell_later hb Kc6.out)
  have RL := hide (RL.out.low hb)
  have RG := hide (RG.out.low hb)
  have HB := hide (HB.out.trans (hb.mono HB.out.size))
  have RT := hide (PR8.lit w6 (rowT (w3.heap.size + 1 + 1) w5.heap.size) _ rfl (rowT_8 (w3.heap.size + 1 + 1) w5.heap.size))
  clear hb
  go_wp2_with fail
  refine (HA.out 59 _).mono ?_
  rintro e w8 ⟨rfl, hk, hb⟩
  have Kc1 := hide (cell_later hb Kc1.out)
  have Kc2 := hide (cell_later hb Kc2.out)
  have Kc4 := hide (cell_later hb Kc4.out)
  have Kc5 := hide (cell_later hb Kc5.out)
  have Kc6 := hide (cell_later hb Kc6.out)
  have RL := hide (RL.out.low hb)
  have RG := hide (RG.out.low hb)
  have RT := hide (RT.out.low hb)
  have Kc7 : Hid (w8.cell? ⟨w6.heap.size + 1, 0, none⟩ = some (.func (Fn.func 59) #[] #[])) := hide (by simpa using hk)
  have HB := hide (HB.out.trans (hb.mono HB.out.size))
  clear hk hb
  have hb : Below w8.heap.size w8 (w8.alloc (.cells (fl8 (rowF (w6.heap.size + 1))).toArray 74)) := (Below.refl _ _).alloc (Nat.le_refl _) _
  have Kc1 := hide (cell_later hb Kc1.out)
  have Kc2 := hide (cell_later hb Kc2.out)
  have Kc4 := hide (cell_later hb Kc4.out)
  have Kc5 := hide (cell_later hb Kc5.out)
  have Kc6 := hide (cell_later hb Kc6.out)
  have Kc7 := hide (cell_later hb Kc7.out)
  have RL := hide (RL.out.low hb)
  have RG := hide (RG.out.low hb)
  have RT := hide (RT.out.low hb)
  have HB := hide (HB.out.trans (hb.mono HB.out.size))
  have RF := hide (PR8.lit w8 (rowF (w6.heap.size + 1)) _ rfl (rowF_8 (w6.heap.size + 1)))
  clear hb
  go_wp2_with fail
  refine (HA.out 60 _).mono ?_
  rintro e w10 ⟨rfl, hk, hb⟩
  have Kc1 := hide (cell_later hb Kc1.out)
  have Kc2 := hide (cell_later hb Kc2.out)
  have Kc4 := hide (cell_later hb Kc4.out)
  have Kc5 := hide (cell_later hb Kc5.out)
  have Kc6 := hide (cell_later hb Kc6.out)
  have Kc7 := hide (cell_later hb Kc7.out)
  have RL := hide (RL.out.low hb)
  have RG := hide (RG.out.low hb)
  have RT := hide (RT.out.low hb)
  have RF := hide (RF.out.low hb)
  have Kc8 : Hid (w10.cell? ⟨w8.heap.size + 1, 0, none⟩ = some (.func (Fn.func 60) #[] #[])) := hide (by simpa using hk)
  have HB := hide (HB.out.trans (hb.mono HB.out.size))
  clear hk hb
  go_wp2_with fail
  refine (HA.out 60 w10).mono ?_
  rintro e w11 ⟨rfl, hk, hb⟩
  have Kc1 := hide (cell_later hb Kc1.out)
  have Kc2 := hide (cell_later hb Kc2.out)
  have Kc4 := hide (cell_later hb Kc4.out)
  have Kc5 := hide (cell_later hb Kc5.out)
  have Kc6 := hide (cell_later hb Kc6.out)
  have Kc7 := hide (cell_later hb Kc7.out)
  have Kc8 := hide (cell_later hb Kc8.out)
  have RL := hide (RL.out.low hb)
  have RG := hide (RG.out.low hb)
  have RT := hide (RT.out.low hb)
  have RF := hide (RF.out.low hb)
  have Kc9 := hide hk
  have HB := hide (HB.out.trans (hb.mono HB.out.size))
  clear hk hb
  go_wp2_with fail
  refine (HA.out 63 w11).mono ?_
  rintro e w12 ⟨rfl, hk, hb⟩
  have Kc1 := hide (cell_later hb Kc1.out)
  have Kc2 := hide (cell_later hb Kc2.out)
  have Kc4 := hide (cell_later hb Kc4.out)
  have Kc5 := hide (cell_later hb Kc5.out)
  have Kc6 := hide (cell_later hb Kc6.out)
  have Kc7 := hide (cell_later hb Kc7.out)
  have Kc8 := hide (cell_later hb Kc8.out)
  have Kc9 := hide (cell_later hb Kc9.out)
  have RL := hide (RL.out.low hb)
  have RG := hide (RG.out.low hb)
  have RT := hide (RT.out.low hb)
  have RF := hide (RF.out.low hb)
  have Kc10 := hide hk
  have HB := hide (HB.out.trans (hb.mono HB.out.size))
  clear hk hb
  have hb : Below w12.heap.size w12 (w12.alloc (.cells (fl8 (rowS (w8.heap.size + 1) w10.heap.size w11.heap.size)).toArray 74)) := (Below.refl _ _).alloc (Nat.le_refl _) _
  have Kc1 := hide (cell_later hb Kc1.out)
  have Kc2 := hide (cell_later hb Kc2.out)
  have Kc4 := hide (cell_later hb Kc4.out)
  have Kc5 := hide (cell_later hb Kc5.out)
  have Kc6 := hide (cell_later hb Kc6.out)
  have Kc7 := hide (cell_later hb Kc7.out)
  have Kc8 := hide (cell_later hb Kc8.out)
  have Kc9 := hide (cell_later hb Kc9.out)
  have Kc10 := hide (cell_later hb Kc10.out)
  have RL := hide (RL.out.low hb)
  have RG := hide (RG.out.low hb)
  have RT := hide (RT.out.low hb)
  have RF := hide (RF.out.low hb)
  have HB := hide (HB.out.trans (hb.mono HB.out.size))
  have RS := hide (PR8.lit w12 (rowS (w8.heap.size + 1) w10.heap.size w11.heap.size) _ rfl (rowS_8 (w8.heap.size + 1) w10.heap.size w11.heap.size))
  clear hb
  have hb : Below (w12.alloc (.cells (fl8 (rowS (w8.heap.size + 1) w10.heap.size w11.heap.size)).toArray 74)).heap.size (w12.alloc (.cells (fl8 (rowS (w8.heap.size + 1) w10.heap.size w11.heap.size)).toArray 74)) ((w12.alloc (.cells (fl8 (rowS (w8.heap.size + 1) w10.heap.size w11.heap.size)).toArray 74)).alloc (.cells (fl8 (rowA )).toArray 74)) := (Below.refl _ _).alloc (Nat.le_refl _) _
  have Kc1 := hide (cell_later hb Kc1.out)
  have Kc2 := hide (cell_later hb Kc2.out)
  have Kc4 := hide (cell_later hb Kc4.out)
  have Kc5 := hide (cell_later hb Kc5.out)
  have Kc6 := hide (cell_later hb Kc6.out)
  have Kc7 := hide (cell_later hb Kc7.out)
  have Kc8 := hide (cell_later hb Kc8.out)
  have Kc9 := hide (cell_later hb Kc9.out)
  have Kc10 := hide (cell_later hb Kc10.out)
  have RL := hide (RL.out.low hb)
  have RG := hide (RG.out.low hb)
  have RT := hide (RT.out.low hb)
  have RF := hide (RF.out.low hb)
  have RS := hide (RS.out.low hb)
  have HB := hide (HB.out.trans (hb.mono HB.out.size))
  have hz : (w12.alloc (.cells (fl8 (rowS (w8.heap.size + 1) w10.heap.size w11.heap.size)).toArray 74)).heap.size = w12.heap.size + 1 := by simp
  have RA := hide (PR8.lit (w12.alloc (.cells (fl8 (rowS (w8.heap.size + 1) w10.heap.size w11.heap.size)).toArray 74)) (rowA ) _ rfl (rowA_8 ))
  rw [hz] at RA
  clear hz
  clear hb
  have hb : Below ((w12.alloc (.cells (fl8 (rowS (w8.heap.size + 1) w10.heap.size w11.heap.size)).toArray 74)).alloc (.cells (fl8 (rowA )).toArray 74)).heap.size ((w12.alloc (.cells (fl8 (rowS (w8.heap.size + 1) w10.heap.size w11.heap.size)).toArray 74)).alloc (.cells (fl8 (rowA )).toArray 74)) (((w12.alloc (.cells (fl8 (rowS (w8.heap.size + 1) w10.heap.size w11.heap.size)).toArray 74)).alloc (.cells (fl8 (rowA )).toArray 74)).alloc (.cells (fl8 (rowD w12.heap.size (w12.heap.size + 1))).toArray 74)) := (Below.refl _ _).alloc (Nat.le_refl _) _
  have Kc1 := hide (cell_later hb Kc1.out)
  have Kc2 := hide (cell_later hb Kc2.out)
  have Kc4 := hide (cell_later hb Kc4.out)
  have Kc5 := hide (cell_later hb Kc5.out)
  have Kc6 := hide (cell_later hb Kc6.out)
  have Kc7 := hide (cell_later hb Kc7.out)
  have Kc8 := hide (cell_later hb Kc8.out)
  have Kc9 := hide (cell_later hb Kc9.out)
  have Kc10 := hide (cell_later hb Kc10.out)
  have RL := hide (RL.out.low hb)
  have RG := hide (RG.out.low hb)
  have RT := hide (RT.out.low hb)
  have RF := hide (RF.out.low hb)
  have RS := hide (RS.out.low hb)
  have RA := hide (RA.out.low hb)
  have HB := hide (HB.out.trans (hb.mono HB.out.size))
  have hz : ((w12.alloc (.cells (fl8 (rowS (w8.heap.size + 1) w10.heap.size w11.heap.size)).toArray 74)).alloc (.cells (fl8 (rowA )).toArray 74)).heap.size = w12.heap.size + 1 + 1 := by simp
  have RD := hide (PR8.lit ((w12.alloc (.cells (fl8 (rowS (w8.heap.size + 1) w10.heap.size w11.heap.size)).toArray 74)).alloc (.cells (fl8 (rowA )).toArray 74)) (rowD w12.heap.size (w12.heap.size + 1)) _ rfl (rowD_8 w12.heap.size (w12.heap.size + 1)))
  rw [hz] at RD
  clear hz
  clear hb
  have hb : Below (((w12.alloc (.cells (fl8 (rowS (w8.heap.size + 1) w10.heap.size w11.heap.size)).toArray 74)).alloc (.cells (fl8 (rowA )).toArray 74)).alloc (.cells (fl8 (rowD w12.heap.size (w12.heap.size + 1))).toArray 74)).heap.size (((w12.alloc (.cells (fl8 (rowS (w8.heap.size + 1) w10.heap.size w11.heap.size)).toArray 74)).alloc (.cells (fl8 (rowA )).toArray 74)).alloc (.cells (fl8 (rowD w12.heap.size (w12.heap.size + 1))).toArray 74)) ((((w12.alloc (.cells (fl8 (rowS (w8.heap.size + 1) w10.heap.size w11.heap.size)).toArray 74)).alloc (.cells (fl8 (rowA )).toArray 74)).alloc (.cells (fl8 (rowD w12.heap.size (w12.heap.size + 1))).toArray 74)).alloc (.cells (fl8 (rowM (w3.heap.size + 1) w6.heap.size w8.heap.size (w12.heap.size + 1 + 1))).toArray 74)) := (Below.refl _ _).alloc (Nat.le_refl _) _
  have Kc1 := hide (cell_later hb Kc1.out)
  have Kc2 := hide (cell_later hb Kc2.out)
  have Kc4 := hide (cell_later hb Kc4.out)
  have Kc5 := hide (cell_later hb Kc5.out)
  have Kc6 := hide (cell_later hb Kc6.out)
  have Kc7 := hide (cell_later hb Kc7.out)
  have Kc8 := hide (cell_later hb Kc8.out)
  have Kc9 := hide (cell_later hb Kc9.out)
  have Kc10 := hide (cell_later hb Kc10.out)
  have RL := hide (RL.out.low hb)
  have RG := hide (RG.out.low hb)
  have RT := hide (RT.out.low hb)
  have RF := hide (RF.out.low hb)
  have RS := hide (RS.out.low hb)
  have RA := hide (RA.out.low hb)
  have RD := hide (RD.out.low hb)
  have HB := hide (HB.out.trans (hb.mono HB.out.size))
  have hz : (((w12.alloc (.cells (fl8 (rowS (w8.heap.size + 1) w10.heap.size w11.heap.size)).toArray 74)).alloc (.cells (fl8 (rowA )).toArray 74)).alloc (.cells (fl8 (rowD w12.heap.size (w12.heap.size + 1))).toArray 74)).heap.size = w12.heap.size + 1 + 1 + 1 := by simp
  have RM := hide (PR8.lit (((w12.alloc (.cells (fl8 (rowS (w8.heap.size + 1) w10.heap.size w11.heap.size)).toArray 74)).alloc (.cells (fl8 (rowA )).toArray 74)).alloc (.cells (fl8 (rowD w12.heap.size (w12.heap.size + 1))).toArray 74)) (rowM (w3.heap.size + 1) w6.heap.size w8.heap.size (w12.heap.size + 1 + 1)) _ rfl (rowM_8 (w3.heap.size + 1) w6.heap.size w8.heap.size (w12.heap.size + 1 + 1)))
  rw [hz] at RM
  clear hz
  clear hb
  go_wp2_with fail
  go_ret
  exact ⟨_, rfl, ⟨_, _, _, _, _, _, _, _, _, _, _, _, _, _, _, _, Kc1.out, Kc2.out, Kc4.out, Kc5.out, Kc6.out, Kc7.out, Kc8.out, Kc9.out, Kc10.out, RL.out, RG.out, RT.out, RF.out, RS.out, RA.out, RD.out, RM.out⟩, HB.out⟩
end Go.Proofs.YtbaideeiljeamaaGreatDoor
