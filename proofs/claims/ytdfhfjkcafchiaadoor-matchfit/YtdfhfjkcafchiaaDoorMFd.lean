/-
  My own text: layer 22: Fit by the program (printed by mkmfd.py).
-/
import Derived.Test.YtdfhfjkcafchiaaDoorMFd0
import Derived.Test.YtdfhfjkcafchiaaDoorQRz
import Derived.Deep.CutRange
namespace Go.Proofs.YtdfhfjkcafchiaaDoor
open Go.RowKit LC

set_option maxRecDepth 100000 in
set_option maxHeartbeats 4000000 in
theorem matchFit_any (p q : Int) (n m : Ntc) (v u bv : Value) (bs : List (List UInt8)) (t : Int) (w : World) (hn : NOk n) (hm : NOk m) (ha : I64 n.amt) (hb : I64 m.amt) (ht : I64 t) (hvo : v.oneCell' = true) (huo : u.oneCell' = true)
    (hv : RT w bv bs) (hs : ∀ s ∈ bs, s.length ≤ 140737488355328) (hO : LC.HeadOffice w) (hni : I64 n.tr ∧ I64 n.st ∧ I64 n.qty) (hmi : I64 m.tr ∧ I64 m.st ∧ I64 m.qty) :
    Calls Tryd.prog 7 #[.agg (sC p n v), .agg (sC q m u), bv, .int .i64 t] w fun e w' => e = .returned (.tuple #[.int .i64 (mfV p n q m bs t).1, .bool (mfV p n q m bs t).2]) ∧ Below w.heap.size w w' := by
  obtain ⟨W1, hW1⟩ : ∃ W, w.alloc (.cells (sC p n v) 28) = W := ⟨_, rfl⟩
  have s1 : SB W1 w.heap.size p n v := by rw [← hW1]; exact LC.alloc_new w _
  obtain ⟨W2, hW2⟩ : ∃ W, W1.alloc (.cells (sC q m u) 28) = W := ⟨_, rfl⟩
  have s2 : SB W2 w.heap.size p n v := by rw [← hW2]; exact LC.alloc_block s1
  have r2 : SB W2 W1.heap.size q m u := by rw [← hW2]; exact LC.alloc_new W1 _
  have b2 : Below w.heap.size w W2 := by rw [← hW2, ← hW1]; exact ((Below.refl _ _).alloc (Nat.le_refl _) _).alloc (by simp) _
  have hlt : w.heap.size < W1.heap.size ∧ W1.heap.size < W2.heap.size := ⟨(Array.getElem?_eq_some_iff.1 s1).1, (Array.getElem?_eq_some_iff.1 r2).1⟩
  obtain ⟨B1, hB1⟩ : ∃ B, W1.heap.size = B := ⟨_, rfl⟩
  rw [hB1] at r2 hlt
  have HS2 := hide s2
  have HR2 := hide r2
  have HB2 := hide b2
  have HLT := hide hlt
  have HI1 : Hid ((Tryd.prog.info? 26).map (·.size) = some (nC n v).size) := by show _ = _; rw [nC_size _ v hn.code]; exact Tryd.sizeNtc6
  have HI2 : Hid ((Tryd.prog.info? 26).map (·.size) = some (nC m u).size) := by show _ = _; rw [nC_size _ u hm.code]; exact Tryd.sizeNtc6
  have HZ1 : Hid ((nC ⟨[], [], false, false, false, 0, 0, [0, 0, 0, 0, 0, 0, 0, 0, 0, 0, 0, 0], 0, [], [], [], 0, [], 0⟩ (.slice none 0 0)).size = (nC n v).size) := hide (by rw [nC_size _ _ rfl, nC_size _ v hn.code])
  have HZ2 : Hid ((nC ⟨[], [], false, false, false, 0, 0, [0, 0, 0, 0, 0, 0, 0, 0, 0, 0, 0, 0], 0, [], [], [], 0, [], 0⟩ (.slice none 0 0)).size = (nC m u).size) := hide (by rw [nC_size _ _ rfl, nC_size _ u hm.code])
  have HO1 := hide (nC_one n v hvo)
  have HO2 := hide (nC_one m u huo)
  have HN := hide hn
  have HNI := hide hni
  have HMI := hide hmi
  have HM := hide hm
  have HA := hide ha
  have HBb := hide hb
  have HT := hide ht
  have HV := hide hv
  have HSS := hide hs
  have HO := hide hO
  have HIS : Hid ((Tryd.prog.info? 26).map (·.size) = some 27) := hide Tryd.sizeNtc6
  obtain ⟨SN, hSN⟩ : ∃ x, sC p n v = x := ⟨_, rfl⟩
  obtain ⟨SM, hSM⟩ : ∃ x, sC q m u = x := ⟨_, rfl⟩
  rw [hSN] at hW1 ⊢
  rw [hSM] at hW2 ⊢
  obtain ⟨ANS, hANS⟩ : ∃ x, mfV p n q m bs t = x := ⟨_, rfl⟩
  rw [hANS]
  have HANS := hide hANS
  clear hni hmi hANS hSN hSM hn hm ha hb ht hv hs hO hvo huo s1 s2 r2 b2 hlt
  go_enter Tryd.func7, Tryd.ntmps7
  go_upto_region 1 with fail
  try rw [hB1]
  clear hW1 hW2 hB1
  go_cut [10, 11] from 13 to 59 (fun xv yv wx => ∃ gx gy : Nat, xv = .pointer (some ⟨gx, 0, none⟩) ∧ yv = .pointer (some ⟨gy, 0, none⟩) ∧ Hid (Bx wx gx n v ∧ Bx wx gy m u ∧ SB wx w.heap.size p n v ∧ SB wx B1 q m u ∧ Below w.heap.size w wx ∧ w.heap.size < gx ∧ w.heap.size < gy))
  case first =>
    refine begins_held (S := fun W : World => SB W w.heap.size p n v ∧ SB W B1 q m u) 8 #[false, false, false, false, false, false, false, false] (by kernel_rfl) (by kernel_rfl) (by kernel_rfl) ?hS0 (fun hHeld => ?_)
    case hS0 => exact ⟨HS2.out, HR2.out⟩
    refine tk (v := ?_) 0 13 #[true, false, false, false, false, false, false, false] rfl rfl (by kernel_rfl) (by kernel_rfl) (by kernel_rfl) (fun _ _ _ h => h) (by kernel_rfl) (by rfl) ?hy hHeld ?_
    case hy => rintro W ⟨hSa, hSb⟩; first | (go_simp; done) | (go_simp; with_reducible rfl)
    simp only [List.setIfInBounds_toArray, List.set_cons_zero, List.set_cons_succ]
    refine tk (v := ?_) 1 14 #[true, true, false, false, false, false, false, false] rfl rfl (by kernel_rfl) (by kernel_rfl) (by kernel_rfl) (fun _ _ _ h => h) (by kernel_rfl) (by rfl) ?hy hHeld ?_
    case hy => rintro W ⟨hSa, hSb⟩; refine exec_row 26 (.tmp 13) ?_ w.heap.size 1 ?_ (nC n v) _ (sC_range hSa) Tryd.underlying26 rfl HI1.out <;> rfl
    simp only [List.setIfInBounds_toArray, List.set_cons_zero, List.set_cons_succ]
    refine tk (v := ?_) 2 15 #[true, true, true, false, false, false, false, false] rfl rfl (by kernel_rfl) (by kernel_rfl) (by kernel_rfl) (fun _ _ _ h => h) (by kernel_rfl) (by rfl) ?hy hHeld ?_
    case hy => rintro W ⟨hSa, hSb⟩; first | (go_simp; done) | (go_simp; with_reducible rfl)
    simp only [List.setIfInBounds_toArray, List.set_cons_zero, List.set_cons_succ]
    refine tk (v := ?_) 3 16 #[true, true, true, true, false, false, false, false] rfl rfl (by kernel_rfl) (by kernel_rfl) (by kernel_rfl) (fun _ _ _ h => h) (by kernel_rfl) (by rfl) ?hy hHeld ?_
    case hy => rintro W ⟨hSa, hSb⟩; refine exec_row 26 (.tmp 15) ?_ B1 1 ?_ (nC m u) _ (sC_range hSb) Tryd.underlying26 rfl HI2.out <;> rfl
    simp only [List.setIfInBounds_toArray, List.set_cons_zero, List.set_cons_succ]
    refine two_ready 4 5 #[true, true, true, true, true, false, false, false] #[true, true, true, true, false, true, false, false] rfl rfl (by kernel_rfl) (by kernel_rfl) (by kernel_rfl) (by rfl) (by rfl) (fun K hK => ?_) (fun K hK => ?_)
    · go_simp
      refine hK.out _ _ ⟨LC.alloc_block hHeld.1, LC.alloc_block hHeld.2⟩ (fun hHeld => ?_)
      clear hK K
      refine one_ready 5 #[true, true, true, true, true, true, false, false] rfl (by kernel_rfl) (by kernel_rfl) (by rfl) (fun K hK => ?_)
      go_simp
      refine hK.out _ _ ⟨LC.alloc_block hHeld.1, LC.alloc_block hHeld.2⟩ (fun hHeld => ?_)
      clear hK K
      have x6 : Bx (((W2.alloc (.cells #[.string ⟨#[]⟩, .string ⟨#[]⟩, .bool false, .bool false, .bool false, .int .i64 0, .int .i64 0, .int .u8 0, .int .u8 0, .int .u8 0, .int .u8 0, .int .u8 0, .int .u8 0, .int .u8 0, .int .u8 0, .int .u8 0, .int .u8 0, .int .u8 0, .int .u8 0, .int .i64 0, .string ⟨#[]⟩, .string ⟨#[]⟩, .string ⟨#[]⟩, .int .i64 0, .string ⟨#[]⟩, .int .i64 0, .slice none 0 0] 26)).alloc (.cells #[.string ⟨#[]⟩, .string ⟨#[]⟩, .bool false, .bool false, .bool false, .int .i64 0, .int .i64 0, .int .u8 0, .int .u8 0, .int .u8 0, .int .u8 0, .int .u8 0, .int .u8 0, .int .u8 0, .int .u8 0, .int .u8 0, .int .u8 0, .int .u8 0, .int .u8 0, .int .i64 0, .string ⟨#[]⟩, .string ⟨#[]⟩, .string ⟨#[]⟩, .int .i64 0, .string ⟨#[]⟩, .int .i64 0, .slice none 0 0] 26)).drew) W2.heap.size ⟨[], [], false, false, false, 0, 0, [0, 0, 0, 0, 0, 0, 0, 0, 0, 0, 0, 0], 0, [], [], [], 0, [], 0⟩ (.slice none 0 0) := LC.alloc_block (LC.alloc_new W2.drew _)
      have y6 : Bx (((W2.alloc (.cells #[.string ⟨#[]⟩, .string ⟨#[]⟩, .bool false, .bool false, .bool false, .int .i64 0, .int .i64 0, .int .u8 0, .int .u8 0, .int .u8 0, .int .u8 0, .int .u8 0, .int .u8 0, .int .u8 0, .int .u8 0, .int .u8 0, .int .u8 0, .int .u8 0, .int .u8 0, .int .i64 0, .string ⟨#[]⟩, .string ⟨#[]⟩, .string ⟨#[]⟩, .int .i64 0, .string ⟨#[]⟩, .int .i64 0, .slice none 0 0] 26)).alloc (.cells #[.string ⟨#[]⟩, .string ⟨#[]⟩, .bool false, .bool false, .bool false, .int .i64 0, .int .i64 0, .int .u8 0, .int .u8 0, .int .u8 0, .int .u8 0, .int .u8 0, .int .u8 0, .int .u8 0, .int .u8 0, .int .u8 0, .int .u8 0, .int .u8 0, .int .u8 0, .int .i64 0, .string ⟨#[]⟩, .string ⟨#[]⟩, .string ⟨#[]⟩, .int .i64 0, .string ⟨#[]⟩, .int .i64 0, .slice none 0 0] 26)).drew) (W2.heap.size + 1) ⟨[], [], false, false, false, 0, 0, [0, 0, 0, 0, 0, 0, 0, 0, 0, 0, 0, 0], 0, [], [], [], 0, [], 0⟩ (.slice none 0 0) := alloc2_newM W2 _ _
      have b6 : Below w.heap.size w (((W2.alloc (.cells #[.string ⟨#[]⟩, .string ⟨#[]⟩, .bool false, .bool false, .bool false, .int .i64 0, .int .i64 0, .int .u8 0, .int .u8 0, .int .u8 0, .int .u8 0, .int .u8 0, .int .u8 0, .int .u8 0, .int .u8 0, .int .u8 0, .int .u8 0, .int .u8 0, .int .u8 0, .int .i64 0, .string ⟨#[]⟩, .string ⟨#[]⟩, .string ⟨#[]⟩, .int .i64 0, .string ⟨#[]⟩, .int .i64 0, .slice none 0 0] 26)).alloc (.cells #[.string ⟨#[]⟩, .string ⟨#[]⟩, .bool false, .bool false, .bool false, .int .i64 0, .int .i64 0, .int .u8 0, .int .u8 0, .int .u8 0, .int .u8 0, .int .u8 0, .int .u8 0, .int .u8 0, .int .u8 0, .int .u8 0, .int .u8 0, .int .u8 0, .int .u8 0, .int .i64 0, .string ⟨#[]⟩, .string ⟨#[]⟩, .string ⟨#[]⟩, .int .i64 0, .string ⟨#[]⟩, .int .i64 0, .slice none 0 0] 26)).drew) := ((HB2.out.drew).alloc (show w.heap.size ≤ W2.drew.heap.size from HB2.out.size) _).alloc (by have := HB2.out.size; simp; omega) _
      have hlt := HLT.out
      obtain ⟨E, hE⟩ : ∃ E, (((W2.alloc (.cells #[.string ⟨#[]⟩, .string ⟨#[]⟩, .bool false, .bool false, .bool false, .int .i64 0, .int .i64 0, .int .u8 0, .int .u8 0, .int .u8 0, .int .u8 0, .int .u8 0, .int .u8 0, .int .u8 0, .int .u8 0, .int .u8 0, .int .u8 0, .int .u8 0, .int .u8 0, .int .i64 0, .string ⟨#[]⟩, .string ⟨#[]⟩, .string ⟨#[]⟩, .int .i64 0, .string ⟨#[]⟩, .int .i64 0, .slice none 0 0] 26)).alloc (.cells #[.string ⟨#[]⟩, .string ⟨#[]⟩, .bool false, .bool false, .bool false, .int .i64 0, .int .i64 0, .int .u8 0, .int .u8 0, .int .u8 0, .int .u8 0, .int .u8 0, .int .u8 0, .int .u8 0, .int .u8 0, .int .u8 0, .int .u8 0, .int .u8 0, .int .u8 0, .int .i64 0, .string ⟨#[]⟩, .string ⟨#[]⟩, .string ⟨#[]⟩, .int .i64 0, .string ⟨#[]⟩, .int .i64 0, .slice none 0 0] 26)).drew) = E := ⟨_, rfl⟩
      rw [hE] at x6 y6 b6 hHeld ⊢
      clear hE
      refine one_ready 6 #[true, true, true, true, true, true, true, false] rfl (by kernel_rfl) (by kernel_rfl) (by rfl) (fun K hK => ?_)
      refine wp_store_row 26 (.tmp 10) (.tmp 14) rfl W2.heap.size (nC n v) rfl rfl 26 _ x6 HI1.out HZ1.out HO1.out ?_
      refine hK.out _ _ ⟨(setRow_other _ _ _ _ (by omega)).trans hHeld.1, (setRow_other _ _ _ _ (by omega)).trans hHeld.2⟩ (fun hHeld => ?_)
      clear hK K
      have x7 : Bx (E.setRow W2.heap.size (nC n v)) W2.heap.size n v := setRow_heap _ _ _ _ _ _ x6
      have y7 : Bx (E.setRow W2.heap.size (nC n v)) (W2.heap.size + 1) ⟨[], [], false, false, false, 0, 0, [0, 0, 0, 0, 0, 0, 0, 0, 0, 0, 0, 0], 0, [], [], [], 0, [], 0⟩ (.slice none 0 0) := (setRow_other _ _ _ _ (by omega)).trans y6
      have b7 : Below w.heap.size w (E.setRow W2.heap.size (nC n v)) := below_setRow b6 (by omega) _
      obtain ⟨E7, hE7⟩ : ∃ E7, E.setRow W2.heap.size (nC n v) = E7 := ⟨_, rfl⟩
      rw [hE7] at x7 y7 b7 hHeld ⊢
      clear hE7
      refine one_ready 7 #[true, true, true, true, true, true, true, true] rfl (by kernel_rfl) (by kernel_rfl) (by rfl) (fun K hK => ?_)
      refine wp_store_row 26 (.tmp 11) (.tmp 16) rfl (W2.heap.size + 1) (nC m u) rfl rfl 26 _ y7 HI2.out HZ2.out HO2.out ?_
      refine hK.out _ _ ⟨(setRow_other _ _ _ _ (by omega)).trans hHeld.1, (setRow_other _ _ _ _ (by omega)).trans hHeld.2⟩ (fun hHeld => ?_)
      clear hK K
      refine wpAnyH_done (by kernel_rfl) ?_ _
      go_wp2_with fail
      go_meet
      exact ⟨W2.heap.size, (W2.heap.size + 1), rfl, rfl, hide ⟨(setRow_other _ _ _ _ (by omega)).trans x7, setRow_heap _ _ _ _ _ _ y7, hHeld.1, hHeld.2, below_setRow b7 (by omega) _, by omega, by omega⟩⟩
    · go_simp
      refine hK.out _ _ ⟨LC.alloc_block hHeld.1, LC.alloc_block hHeld.2⟩ (fun hHeld => ?_)
      clear hK K
      refine one_ready 4 #[true, true, true, true, true, true, false, false] rfl (by kernel_rfl) (by kernel_rfl) (by rfl) (fun K hK => ?_)
      go_simp
      refine hK.out _ _ ⟨LC.alloc_block hHeld.1, LC.alloc_block hHeld.2⟩ (fun hHeld => ?_)
      clear hK K
      have x6 : Bx (((W2.alloc (.cells #[.string ⟨#[]⟩, .string ⟨#[]⟩, .bool false, .bool false, .bool false, .int .i64 0, .int .i64 0, .int .u8 0, .int .u8 0, .int .u8 0, .int .u8 0, .int .u8 0, .int .u8 0, .int .u8 0, .int .u8 0, .int .u8 0, .int .u8 0, .int .u8 0, .int .u8 0, .int .i64 0, .string ⟨#[]⟩, .string ⟨#[]⟩, .string ⟨#[]⟩, .int .i64 0, .string ⟨#[]⟩, .int .i64 0, .slice none 0 0] 26)).alloc (.cells #[.string ⟨#[]⟩, .string ⟨#[]⟩, .bool false, .bool false, .bool false, .int .i64 0, .int .i64 0, .int .u8 0, .int .u8 0, .int .u8 0, .int .u8 0, .int .u8 0, .int .u8 0, .int .u8 0, .int .u8 0, .int .u8 0, .int .u8 0, .int .u8 0, .int .u8 0, .int .i64 0, .string ⟨#[]⟩, .string ⟨#[]⟩, .string ⟨#[]⟩, .int .i64 0, .string ⟨#[]⟩, .int .i64 0, .slice none 0 0] 26)).drew) W2.heap.size ⟨[], [], false, false, false, 0, 0, [0, 0, 0, 0, 0, 0, 0, 0, 0, 0, 0, 0], 0, [], [], [], 0, [], 0⟩ (.slice none 0 0) := LC.alloc_block (LC.alloc_new W2.drew _)
      have y6 : Bx (((W2.alloc (.cells #[.string ⟨#[]⟩, .string ⟨#[]⟩, .bool false, .bool false, .bool false, .int .i64 0, .int .i64 0, .int .u8 0, .int .u8 0, .int .u8 0, .int .u8 0, .int .u8 0, .int .u8 0, .int .u8 0, .int .u8 0, .int .u8 0, .int .u8 0, .int .u8 0, .int .u8 0, .int .i64 0, .string ⟨#[]⟩, .string ⟨#[]⟩, .string ⟨#[]⟩, .int .i64 0, .string ⟨#[]⟩, .int .i64 0, .slice none 0 0] 26)).alloc (.cells #[.string ⟨#[]⟩, .string ⟨#[]⟩, .bool false, .bool false, .bool false, .int .i64 0, .int .i64 0, .int .u8 0, .int .u8 0, .int .u8 0, .int .u8 0, .int .u8 0, .int .u8 0, .int .u8 0, .int .u8 0, .int .u8 0, .int .u8 0, .int .u8 0, .int .u8 0, .int .i64 0, .string ⟨#[]⟩, .string ⟨#[]⟩, .string ⟨#[]⟩, .int .i64 0, .string ⟨#[]⟩, .int .i64 0, .slice none 0 0] 26)).drew) (W2.heap.size + 1) ⟨[], [], false, false, false, 0, 0, [0, 0, 0, 0, 0, 0, 0, 0, 0, 0, 0, 0], 0, [], [], [], 0, [], 0⟩ (.slice none 0 0) := alloc2_newM W2 _ _
      have b6 : Below w.heap.size w (((W2.alloc (.cells #[.string ⟨#[]⟩, .string ⟨#[]⟩, .bool false, .bool false, .bool false, .int .i64 0, .int .i64 0, .int .u8 0, .int .u8 0, .int .u8 0, .int .u8 0, .int .u8 0, .int .u8 0, .int .u8 0, .int .u8 0, .int .u8 0, .int .u8 0, .int .u8 0, .int .u8 0, .int .i64 0, .string ⟨#[]⟩, .string ⟨#[]⟩, .string ⟨#[]⟩, .int .i64 0, .string ⟨#[]⟩, .int .i64 0, .slice none 0 0] 26)).alloc (.cells #[.string ⟨#[]⟩, .string ⟨#[]⟩, .bool false, .bool false, .bool false, .int .i64 0, .int .i64 0, .int .u8 0, .int .u8 0, .int .u8 0, .int .u8 0, .int .u8 0, .int .u8 0, .int .u8 0, .int .u8 0, .int .u8 0, .int .u8 0, .int .u8 0, .int .u8 0, .int .i64 0, .string ⟨#[]⟩, .string ⟨#[]⟩, .string ⟨#[]⟩, .int .i64 0, .string ⟨#[]⟩, .int .i64 0, .slice none 0 0] 26)).drew) := ((HB2.out.drew).alloc (show w.heap.size ≤ W2.drew.heap.size from HB2.out.size) _).alloc (by have := HB2.out.size; simp; omega) _
      have hlt := HLT.out
      obtain ⟨E, hE⟩ : ∃ E, (((W2.alloc (.cells #[.string ⟨#[]⟩, .string ⟨#[]⟩, .bool false, .bool false, .bool false, .int .i64 0, .int .i64 0, .int .u8 0, .int .u8 0, .int .u8 0, .int .u8 0, .int .u8 0, .int .u8 0, .int .u8 0, .int .u8 0, .int .u8 0, .int .u8 0, .int .u8 0, .int .u8 0, .int .i64 0, .string ⟨#[]⟩, .string ⟨#[]⟩, .string ⟨#[]⟩, .int .i64 0, .string ⟨#[]⟩, .int .i64 0, .slice none 0 0] 26)).alloc (.cells #[.string ⟨#[]⟩, .string ⟨#[]⟩, .bool false, .bool false, .bool false, .int .i64 0, .int .i64 0, .int .u8 0, .int .u8 0, .int .u8 0, .int .u8 0, .int .u8 0, .int .u8 0, .int .u8 0, .int .u8 0, .int .u8 0, .int .u8 0, .int .u8 0, .int .u8 0, .int .i64 0, .string ⟨#[]⟩, .string ⟨#[]⟩, .string ⟨#[]⟩, .int .i64 0, .string ⟨#[]⟩, .int .i64 0, .slice none 0 0] 26)).drew) = E := ⟨_, rfl⟩
      rw [hE] at x6 y6 b6 hHeld ⊢
      clear hE
      refine one_ready 6 #[true, true, true, true, true, true, true, false] rfl (by kernel_rfl) (by kernel_rfl) (by rfl) (fun K hK => ?_)
      refine wp_store_row 26 (.tmp 10) (.tmp 14) rfl (W2.heap.size + 1) (nC n v) rfl rfl 26 _ y6 HI1.out HZ1.out HO1.out ?_
      refine hK.out _ _ ⟨(setRow_other _ _ _ _ (by omega)).trans hHeld.1, (setRow_other _ _ _ _ (by omega)).trans hHeld.2⟩ (fun hHeld => ?_)
      clear hK K
      have x7 : Bx (E.setRow (W2.heap.size + 1) (nC n v)) (W2.heap.size + 1) n v := setRow_heap _ _ _ _ _ _ y6
      have y7 : Bx (E.setRow (W2.heap.size + 1) (nC n v)) W2.heap.size ⟨[], [], false, false, false, 0, 0, [0, 0, 0, 0, 0, 0, 0, 0, 0, 0, 0, 0], 0, [], [], [], 0, [], 0⟩ (.slice none 0 0) := (setRow_other _ _ _ _ (by omega)).trans x6
      have b7 : Below w.heap.size w (E.setRow (W2.heap.size + 1) (nC n v)) := below_setRow b6 (by omega) _
      obtain ⟨E7, hE7⟩ : ∃ E7, E.setRow (W2.heap.size + 1) (nC n v) = E7 := ⟨_, rfl⟩
      rw [hE7] at x7 y7 b7 hHeld ⊢
      clear hE7
      refine one_ready 7 #[true, true, true, true, true, true, true, true] rfl (by kernel_rfl) (by kernel_rfl) (by rfl) (fun K hK => ?_)
      refine wp_store_row 26 (.tmp 11) (.tmp 16) rfl W2.heap.size (nC m u) rfl rfl 26 _ y7 HI2.out HZ2.out HO2.out ?_
      refine hK.out _ _ ⟨(setRow_other _ _ _ _ (by omega)).trans hHeld.1, (setRow_other _ _ _ _ (by omega)).trans hHeld.2⟩ (fun hHeld => ?_)
      clear hK K
      refine wpAnyH_done (by kernel_rfl) ?_ _
      go_wp2_with fail
      go_meet
      exact ⟨(W2.heap.size + 1), W2.heap.size, rfl, rfl, hide ⟨(setRow_other _ _ _ _ (by omega)).trans x7, setRow_heap _ _ _ _ _ _ y7, hHeld.1, hHeld.2, below_setRow b7 (by omega) _, by omega, by omega⟩⟩
  case rest =>
    clear HS2 HR2 HB2
    obtain ⟨gx, gy, rfl, rfl, HC⟩ := hcut
    have HMS : Hid (MS w gx gy B1 p q n m v u wc) := hide ⟨HC.out.1, HC.out.2.1, HC.out.2.2.1, HC.out.2.2.2.1, HC.out.2.2.2.2.1⟩
    have HBC := hide HC.out.2.2.2.2.1
    clear HC
    have x3 := HMS.out.bx.rc HN.out.code
    have x2 := HMS.out.bx.cn HN.out.code
    have y3 := HMS.out.ny.rc HM.out.code
    have y2 := HMS.out.ny.cn HM.out.code
    cases h1 : n.rc with
    | true =>
      rw [h1] at x3
      have e0 : Hid (ANS = (0, false)) := hide (by rw [← HANS.out]; unfold mfV; rw [if_pos (by simp [h1])])
      go_wp2_with fail
      go_ret2
      exact ⟨by rw [e0.out]; rfl, HBC.out⟩
    | false =>
      rw [h1] at x3
      cases h2 : m.rc with
      | false =>
        rw [h2] at y3
        have e0 : Hid (ANS = (0, false)) := hide (by rw [← HANS.out]; unfold mfV; rw [if_pos (by simp [h2])])
        go_wp2_with fail
        go_ret2
        exact ⟨by rw [e0.out]; rfl, HBC.out⟩
      | true =>
        rw [h2] at y3
        cases h3 : n.cn with
        | true =>
          rw [h3] at x2
          have e0 : Hid (ANS = (0, false)) := hide (by rw [← HANS.out]; unfold mfV; rw [if_pos (by simp [h3])])
          go_wp2_with fail
          go_ret2
          exact ⟨by rw [e0.out]; rfl, HBC.out⟩
        | false =>
          rw [h3] at x2
          cases h4 : m.cn with
          | true =>
            rw [h4] at y2
            have e0 : Hid (ANS = (0, false)) := hide (by rw [← HANS.out]; unfold mfV; rw [if_pos (by simp [h4])])
            go_wp2_with fail
            go_ret2
            exact ⟨by rw [e0.out]; rfl, HBC.out⟩
          | false =>
            rw [h4] at y2
            have HQ : Hid (ANS = if !whB (faceF n (oA bs p)) || (nfB (faceF n (oA bs p)) (faceF m (oA bs q)) || !neB n m t) then (0, false) else (wth n, true)) := hide (by rw [← HANS.out]; unfold mfV; rw [if_neg (by simp [h1, h2, h3, h4])])
            clear h1 h2 h3 h4 HBC
            have hfo : ∀ (k : Ntc) (z : Int), NOk k → I64 k.tr → I64 k.st → I64 k.qty → FOk (faceF k (oA bs z)) := fun k z hk h1 h2 h3 => faceF_ok k _ hk h1 h2 h3 (oA_ok bs z HSS.out)
            obtain ⟨Q0, hQ0⟩ : ∃ x, q4 (oA bs p) = x := ⟨_, rfl⟩
            obtain ⟨Q1, hQ1⟩ : ∃ x, q4 (oA bs q) = x := ⟨_, rfl⟩
            have HOA := hide (fun (W : World) (hW : Below w.heap.size w W) => officeAt_any bv bs p W (HV.out.later hW) (HO.out.below hW) HSS.out)
            have HOB := hide (fun (W : World) (hW : Below w.heap.size w W) => officeAt_any bv bs q W (HV.out.later hW) (HO.out.below hW) HSS.out)
            have HFA := hide (fun (W : World) (hW : Below w.heap.size w W) => faceOf_any n v (oA bs p) W HN.out (HO.out.below hW))
            have HFB := hide (fun (W : World) (hW : Below w.heap.size w W) => faceOf_any m u (oA bs q) W HM.out (HO.out.below hW))
            rw [hQ0] at HOA HFA
            rw [hQ1] at HOB HFB
            clear hQ0 hQ1
            have HFO1 := hide (hfo n p HN.out HNI.out.1 HNI.out.2.1 HNI.out.2.2)
            have HFO2 := hide (hfo m q HM.out HMI.out.1 HMI.out.2.1 HMI.out.2.2)
            clear hfo
            obtain ⟨f0, hf0⟩ : ∃ f, faceF n (oA bs p) = f := ⟨_, rfl⟩
            obtain ⟨f1, hf1⟩ : ∃ f, faceF m (oA bs q) = f := ⟨_, rfl⟩
            rw [hf0] at HQ HFA HFO1
            rw [hf1] at HQ HFB HFO2
            clear hf0 hf1
            have HFS : Hid ((Tryd.prog.info? 44).map (·.size) = some (fC f0).size) := by show _ = _; rw [fC_size _ HFO1.out.code]; exact Tryd.sizeFace
            have HFZ : Hid ((fC zF).size = (fC f0).size) := hide (by rw [fC_size _ HFO1.out.code, fC_size _ rfl])
            have HFN := hide (fC_one f0 HFO1.out.code)
            have HB1 : Hid (w.heap.size < B1) := hide HLT.out.1
            clear HLT
            go_upto_region 4 with fail
            clear x2 x3 y2 y3
            go_cut [12] from 13 to 59 (fun fv wx => ∃ gf : Nat, fv = .pointer (some ⟨gf, 0, none⟩) ∧ Hid (MS w gx gy B1 p q n m v u wx ∧ FB wx gf f0))
            case first =>
              refine begins_held (S := MS w gx gy B1 p q n m v u) 8 #[false, false, false, false, false, false, false, false] (by kernel_rfl) (by kernel_rfl) (by kernel_rfl) ?hS0 (fun hHeld => ?_)
              case hS0 => exact HMS.out.later (Below.refl _ _).drew
              refine tk (v := ?_) 0 32 #[true, false, false, false, false, false, false, false] rfl rfl (by kernel_rfl) (by kernel_rfl) (by kernel_rfl) (fun _ _ _ h => h) (by kernel_rfl) (by rfl) ?hy hHeld ?_
              case hy => rintro W hS; refine exec_row 26 (.tmp 10) ?_ gx 0 ?_ (nC n v) _ (Bx.rangeM hS.bx) Tryd.underlying26 rfl HI1.out <;> rfl
              simp only [List.setIfInBounds_toArray, List.set_cons_zero, List.set_cons_succ]
              refine tk (v := ?_) 1 33 #[true, true, false, false, false, false, false, false] rfl rfl (by kernel_rfl) (by kernel_rfl) (by kernel_rfl) (fun _ _ _ h => h) (by kernel_rfl) (by rfl) ?hy hHeld ?_
              case hy => rintro W hS; first | (go_simp; done) | (go_simp; with_reducible rfl)
              simp only [List.setIfInBounds_toArray, List.set_cons_zero, List.set_cons_succ]
              refine tk (v := ?_) 2 34 #[true, true, true, false, false, false, false, false] rfl rfl (by kernel_rfl) (by kernel_rfl) (by kernel_rfl) (fun _ _ _ h => h) (by kernel_rfl) (by rfl) ?hy hHeld ?_
              case hy => rintro W hS; first | (go_simp; done) | (go_simp; with_reducible rfl)
              simp only [List.setIfInBounds_toArray, List.set_cons_zero, List.set_cons_succ]
              refine tk (v := ?_) 3 35 #[true, true, true, true, false, false, false, false] rfl rfl (by kernel_rfl) (by kernel_rfl) (by kernel_rfl) (fun _ _ _ h => h) (by kernel_rfl) (by rfl) ?hy hHeld ?_
              case hy => rintro W hS; have z := hS.sd.party; first | (go_simp; done) | (go_simp; with_reducible rfl)
              simp only [List.setIfInBounds_toArray, List.set_cons_zero, List.set_cons_succ]
              refine two_ready 4 6 #[true, true, true, true, true, false, false, false] #[true, true, true, true, false, false, true, false] rfl rfl (by kernel_rfl) (by kernel_rfl) (by kernel_rfl) (by rfl) (by rfl) (fun K hK => ?_) (fun K hK => ?_)
              · go_simp
                refine (HOA.out _ hHeld.lo).mono ?_
                rintro e w5 ⟨rfl, hb⟩
                have hS2 := hHeld.later hb
                refine hK.out _ _ hS2 (fun hHeld => ?_)
                clear hK K hS2 hb
                refine two_ready 5 6 #[true, true, true, true, true, true, false, false] #[true, true, true, true, true, false, true, false] rfl rfl (by kernel_rfl) (by kernel_rfl) (by kernel_rfl) (by rfl) (by rfl) (fun K hK => ?_) (fun K hK => ?_)
                · go_simp
                  refine (HFA.out _ hHeld.lo).mono ?_
                  rintro e w6 ⟨rfl, hb⟩
                  have hS2 := hHeld.later hb
                  refine hK.out _ _ hS2 (fun hHeld => ?_)
                  clear hK K hS2 hb
                  have lx := hHeld.bx.lt
                  have ly := hHeld.ny.lt
                  have l1 := (Array.getElem?_eq_some_iff.1 hHeld.sr).1
                  have l2 := (Array.getElem?_eq_some_iff.1 hHeld.sd).1
                  refine one_ready 6 #[true, true, true, true, true, true, true, false] rfl (by kernel_rfl) (by kernel_rfl) (by rfl) (fun K hK => ?_)
                  go_simp
                  refine hK.out _ _ (hHeld.later ((Below.refl _ _).alloc (Nat.le_refl _) _)) (fun hHeld => ?_)
                  clear hK K
                  have zf : FB (w6.alloc (.cells #[.int .i64 0, .int .i64 0, .int .u8 0, .int .u8 0, .int .u8 0, .int .u8 0, .int .u8 0, .int .u8 0, .int .u8 0, .int .u8 0, .int .u8 0, .int .u8 0, .int .u8 0, .int .u8 0, .int .i64 0, .bool false, .string ⟨#[]⟩, .string ⟨#[]⟩, .string ⟨#[]⟩, .string ⟨#[]⟩, .string ⟨#[]⟩, .string ⟨#[]⟩, .string ⟨#[]⟩, .string ⟨#[]⟩, .string ⟨#[]⟩, .string ⟨#[]⟩, .string ⟨#[]⟩] 44)) w6.heap.size zF := LC.alloc_new w6 _
                  refine one_ready 7 #[true, true, true, true, true, true, true, true] rfl (by kernel_rfl) (by kernel_rfl) (by rfl) (fun K hK => ?_)
                  refine wp_store_row 44 (.tmp 12) (.tmp 37) rfl w6.heap.size (fC f0) rfl rfl 44 _ zf HFS.out HFZ.out HFN.out ?_
                  refine hK.out _ _ (hHeld.row _ lx ly l1 l2) (fun hHeld => ?_)
                  clear hK K
                  refine wpAnyH_done (by kernel_rfl) ?_ _
                  go_wp2_with fail
                  go_meet
                  exact ⟨w6.heap.size, rfl, hide ⟨hHeld, setRow_heap _ _ _ _ _ _ zf⟩⟩
                · have lx := hHeld.bx.lt
                  have ly := hHeld.ny.lt
                  have l1 := (Array.getElem?_eq_some_iff.1 hHeld.sr).1
                  have l2 := (Array.getElem?_eq_some_iff.1 hHeld.sd).1
                  go_simp
                  refine hK.out _ _ (hHeld.later ((Below.refl _ _).alloc (Nat.le_refl _) _)) (fun hHeld => ?_)
                  clear hK K
                  have zf : FB (w5.alloc (.cells #[.int .i64 0, .int .i64 0, .int .u8 0, .int .u8 0, .int .u8 0, .int .u8 0, .int .u8 0, .int .u8 0, .int .u8 0, .int .u8 0, .int .u8 0, .int .u8 0, .int .u8 0, .int .u8 0, .int .i64 0, .bool false, .string ⟨#[]⟩, .string ⟨#[]⟩, .string ⟨#[]⟩, .string ⟨#[]⟩, .string ⟨#[]⟩, .string ⟨#[]⟩, .string ⟨#[]⟩, .string ⟨#[]⟩, .string ⟨#[]⟩, .string ⟨#[]⟩, .string ⟨#[]⟩] 44)) w5.heap.size zF := LC.alloc_new w5 _
                  refine one_ready 5 #[true, true, true, true, true, true, true, false] rfl (by kernel_rfl) (by kernel_rfl) (by rfl) (fun K hK => ?_)
                  go_simp
                  refine (HFA.out _ hHeld.lo).mono ?_
                  rintro e w6 ⟨rfl, hb⟩
                  have zf2 := FB.later zf hb
                  have hS2 := hHeld.later hb
                  refine hK.out _ _ hS2 (fun hHeld => ?_)
                  clear hK K
                  clear zf
                  refine one_ready 7 #[true, true, true, true, true, true, true, true] rfl (by kernel_rfl) (by kernel_rfl) (by rfl) (fun K hK => ?_)
                  refine wp_store_row 44 (.tmp 12) (.tmp 37) rfl w5.heap.size (fC f0) rfl rfl 44 _ zf2 HFS.out HFZ.out HFN.out ?_
                  refine hK.out _ _ (hHeld.row _ lx ly l1 l2) (fun hHeld => ?_)
                  clear hK K
                  refine wpAnyH_done (by kernel_rfl) ?_ _
                  go_wp2_with fail
                  go_meet
                  exact ⟨w5.heap.size, rfl, hide ⟨hHeld, setRow_heap _ _ _ _ _ _ zf2⟩⟩
              · have lx := hHeld.bx.lt
                have ly := hHeld.ny.lt
                have l1 := (Array.getElem?_eq_some_iff.1 hHeld.sr).1
                have l2 := (Array.getElem?_eq_some_iff.1 hHeld.sd).1
                go_simp
                refine hK.out _ _ (hHeld.later ((Below.refl _ _).alloc (Nat.le_refl _) _)) (fun hHeld => ?_)
                clear hK K
                have zf : FB ((wc.alloc (.cells #[.int .i64 0, .int .i64 0, .int .u8 0, .int .u8 0, .int .u8 0, .int .u8 0, .int .u8 0, .int .u8 0, .int .u8 0, .int .u8 0, .int .u8 0, .int .u8 0, .int .u8 0, .int .u8 0, .int .i64 0, .bool false, .string ⟨#[]⟩, .string ⟨#[]⟩, .string ⟨#[]⟩, .string ⟨#[]⟩, .string ⟨#[]⟩, .string ⟨#[]⟩, .string ⟨#[]⟩, .string ⟨#[]⟩, .string ⟨#[]⟩, .string ⟨#[]⟩, .string ⟨#[]⟩] 44)).drew) wc.heap.size zF := LC.alloc_new wc _
                refine one_ready 4 #[true, true, true, true, true, false, true, false] rfl (by kernel_rfl) (by kernel_rfl) (by rfl) (fun K hK => ?_)
                go_simp
                refine (HOA.out _ hHeld.lo).mono ?_
                rintro e w5 ⟨rfl, hb⟩
                have zf2 := FB.later zf hb
                have hS2 := hHeld.later hb
                refine hK.out _ _ hS2 (fun hHeld => ?_)
                clear hK K
                refine one_ready 5 #[true, true, true, true, true, true, true, false] rfl (by kernel_rfl) (by kernel_rfl) (by rfl) (fun K hK => ?_)
                go_simp
                refine (HFA.out _ hHeld.lo).mono ?_
                rintro e w6 ⟨rfl, hb⟩
                have zf3 := FB.later zf2 hb
                have hS2 := hHeld.later hb
                refine hK.out _ _ hS2 (fun hHeld => ?_)
                clear hK K
                clear zf zf2
                refine one_ready 7 #[true, true, true, true, true, true, true, true] rfl (by kernel_rfl) (by kernel_rfl) (by rfl) (fun K hK => ?_)
                refine wp_store_row 44 (.tmp 12) (.tmp 37) rfl wc.heap.size (fC f0) rfl rfl 44 _ zf3 HFS.out HFZ.out HFN.out ?_
                refine hK.out _ _ (hHeld.row _ lx ly l1 l2) (fun hHeld => ?_)
                clear hK K
                refine wpAnyH_done (by kernel_rfl) ?_ _
                go_wp2_with fail
                go_meet
                exact ⟨wc.heap.size, rfl, hide ⟨hHeld, setRow_heap _ _ _ _ _ _ zf3⟩⟩
            case rest =>
              clear HMS
              obtain ⟨gf, rfl, HC⟩ := hcut
              have HMS := hide HC.out.1
              have HFC := hide HC.out.2
              clear HC
              have HIW := hide (fun (W : World) => isWhole_any f0 W HFO1.out)
              have HNE := hide (fun (W : World) => isNear_any n m v u t W HN.out HM.out HA.out HBb.out HT.out)
              have HWO := hide (fun (W : World) => worth_any n v W HN.out)
              have gne := ne_face f0 f1 HFO1.out HFO2.out
              rw [show (!decide (f0.tr = f1.tr ∧ f0.st = f1.st ∧ f0.code = f1.code ∧ f0.qty = f1.qty ∧ f0.py = f1.py ∧ f0.cur = f1.cur ∧ f0.a0 = f1.a0 ∧ f0.a1 = f1.a1 ∧ f0.q0 = f1.q0 ∧ f0.q1 = f1.q1)) = nfB f0 f1 from rfl] at gne
              obtain ⟨r1, hr1⟩ : ∃ r, whB f0 = r := ⟨_, rfl⟩
              obtain ⟨r2, hr2⟩ : ∃ r, nfB f0 f1 = r := ⟨_, rfl⟩
              obtain ⟨r3, hr3⟩ : ∃ r, neB n m t = r := ⟨_, rfl⟩
              rw [hr1] at HQ HIW
              rw [hr2] at HQ gne
              rw [hr3] at HQ HNE
              clear hr1 hr2 hr3
              obtain ⟨F0, hF0⟩ : ∃ x, fC f0 = x := ⟨_, rfl⟩
              obtain ⟨F1, hF1⟩ : ∃ x, fC f1 = x := ⟨_, rfl⟩
              have HRF : Hid (∀ W, FB W gf f0 → W.rangeAt gf 0 F0.toList) := hide (fun W h => by rw [← hF0]; exact FB.range h)
              rw [hF0] at HIW gne HFS
              rw [hF1] at HFB gne
              clear hF0 hF1 HFZ HFN HFA HOA
              obtain ⟨wn, hwn⟩ : ∃ x, wth n = x := ⟨_, rfl⟩
              rw [hwn] at HQ HWO
              clear hwn
              cases r1 with
              | false =>
                have e0 : Hid (ANS = (0, false)) := hide (by rw [HQ.out]; rfl)
                go_wp2_with fail
                refine begins_held (S := fun W : World => MS w gx gy B1 p q n m v u W ∧ FB W gf f0) 20 #[false, false, false, false, false, false, false, false, false, false, false, false, false, false, false, false, false, false, false, false] (by kernel_rfl) (by kernel_rfl) (by kernel_rfl) ?hS0 (fun hHeld => ?_)
                case hS0 => exact ⟨HMS.out.later (Below.refl _ _).drew, HFC.out.later (Below.refl _ _).drew⟩
                refine tk (v := ?_) 0 38 #[true, false, false, false, false, false, false, false, false, false, false, false, false, false, false, false, false, false, false, false] rfl rfl (by kernel_rfl) (by kernel_rfl) (by kernel_rfl) (fun _ _ _ h => h) (by kernel_rfl) (by rfl) ?hy hHeld ?_
                case hy => rintro W hS; refine exec_row 44 (.tmp 12) ?_ gf 0 ?_ F0 _ (HRF.out _ hS.2) Tryd.underlying44 rfl HFS.out <;> rfl
                simp only [List.setIfInBounds_toArray, List.set_cons_zero, List.set_cons_succ]
                refine one_ready 1 #[true, true, false, false, false, false, false, false, false, false, false, false, false, false, false, false, false, false, false, false] rfl (by kernel_rfl) (by kernel_rfl) (by rfl) (fun K hK => ?_)
                go_simp
                refine (HIW.out _).mono ?_
                rintro e w5 ⟨rfl, hb⟩
                have hS2 := hHeld.1.later hb
                have hS3 := hHeld.2.later hb
                refine hK.out _ _ ⟨hS2, hS3⟩ (fun hHeld => ?_)
                clear hK K
                refine tk (v := ?_) 2 40 #[true, true, true, false, false, false, false, false, false, false, false, false, false, false, false, false, false, false, false, false] rfl rfl (by kernel_rfl) (by kernel_rfl) (by kernel_rfl) (fun _ _ _ h => h) (by kernel_rfl) (by rfl) ?hy hHeld ?_
                case hy => rintro W hS; first | (go_simp; done) | (go_simp; with_reducible rfl)
                simp only [List.setIfInBounds_toArray, List.set_cons_zero, List.set_cons_succ]
                refine tk (v := ?_) 3 41 #[true, true, true, true, false, false, false, false, false, false, false, false, false, false, false, false, false, false, false, false] rfl rfl (by kernel_rfl) (by kernel_rfl) (by kernel_rfl) (fun _ _ _ h => h) (by kernel_rfl) (by rfl) ?hy hHeld ?_
                case hy => rintro W hS; first | (go_simp; done) | (go_simp; with_reducible rfl)
                simp only [List.setIfInBounds_toArray, List.set_cons_zero, List.set_cons_succ]
                refine sk 4 42 #[true, true, true, true, true, false, false, false, false, false, false, false, false, false, false, false, false, false, false, false] rfl rfl (by kernel_rfl) (by kernel_rfl) (by kernel_rfl) (fun _ _ _ h => h) (by kernel_rfl) (by rfl) hHeld ?_
                simp only [List.setIfInBounds_toArray, List.set_cons_zero, List.set_cons_succ]
                refine sk 5 43 #[true, true, true, true, true, true, false, false, false, false, false, false, false, false, false, false, false, false, false, false] rfl rfl (by kernel_rfl) (by kernel_rfl) (by kernel_rfl) (fun _ _ _ h => h) (by kernel_rfl) (by rfl) hHeld ?_
                simp only [List.setIfInBounds_toArray, List.set_cons_zero, List.set_cons_succ]
                refine sk 6 44 #[true, true, true, true, true, true, true, false, false, false, false, false, false, false, false, false, false, false, false, false] rfl rfl (by kernel_rfl) (by kernel_rfl) (by kernel_rfl) (fun _ _ _ h => h) (by kernel_rfl) (by rfl) hHeld ?_
                simp only [List.setIfInBounds_toArray, List.set_cons_zero, List.set_cons_succ]
                refine sk 7 45 #[true, true, true, true, true, true, true, true, false, false, false, false, false, false, false, false, false, false, false, false] rfl rfl (by kernel_rfl) (by kernel_rfl) (by kernel_rfl) (fun _ _ _ h => h) (by kernel_rfl) (by rfl) hHeld ?_
                simp only [List.setIfInBounds_toArray, List.set_cons_zero, List.set_cons_succ]
                refine sk 8 46 #[true, true, true, true, true, true, true, true, true, false, false, false, false, false, false, false, false, false, false, false] rfl rfl (by kernel_rfl) (by kernel_rfl) (by kernel_rfl) (fun _ _ _ h => h) (by kernel_rfl) (by rfl) hHeld ?_
                simp only [List.setIfInBounds_toArray, List.set_cons_zero, List.set_cons_succ]
                refine sk 9 47 #[true, true, true, true, true, true, true, true, true, true, false, false, false, false, false, false, false, false, false, false] rfl rfl (by kernel_rfl) (by kernel_rfl) (by kernel_rfl) (fun _ _ _ h => h) (by kernel_rfl) (by rfl) hHeld ?_
                simp only [List.setIfInBounds_toArray, List.set_cons_zero, List.set_cons_succ]
                refine sk 10 48 #[true, true, true, true, true, true, true, true, true, true, true, false, false, false, false, false, false, false, false, false] rfl rfl (by kernel_rfl) (by kernel_rfl) (by kernel_rfl) (fun _ _ _ h => h) (by kernel_rfl) (by rfl) hHeld ?_
                simp only [List.setIfInBounds_toArray, List.set_cons_zero, List.set_cons_succ]
                refine sk 11 49 #[true, true, true, true, true, true, true, true, true, true, true, true, false, false, false, false, false, false, false, false] rfl rfl (by kernel_rfl) (by kernel_rfl) (by kernel_rfl) (fun _ _ _ h => h) (by kernel_rfl) (by rfl) hHeld ?_
                simp only [List.setIfInBounds_toArray, List.set_cons_zero, List.set_cons_succ]
                refine tk (v := ?_) 12 50 #[true, true, true, true, true, true, true, true, true, true, true, true, true, false, false, false, false, false, false, false] rfl rfl (by kernel_rfl) (by kernel_rfl) (by kernel_rfl) (fun _ _ _ h => h) (by kernel_rfl) (by rfl) ?hy hHeld ?_
                case hy => rintro W hS; first | (go_simp; done) | (go_simp; with_reducible rfl)
                simp only [List.setIfInBounds_toArray, List.set_cons_zero, List.set_cons_succ]
                refine tk (v := ?_) 13 51 #[true, true, true, true, true, true, true, true, true, true, true, true, true, true, false, false, false, false, false, false] rfl rfl (by kernel_rfl) (by kernel_rfl) (by kernel_rfl) (fun _ _ _ h => h) (by kernel_rfl) (by rfl) ?hy hHeld ?_
                case hy => rintro W hS; first | (go_simp; done) | (go_simp; with_reducible rfl)
                simp only [List.setIfInBounds_toArray, List.set_cons_zero, List.set_cons_succ]
                refine sk 14 52 #[true, true, true, true, true, true, true, true, true, true, true, true, true, true, true, false, false, false, false, false] rfl rfl (by kernel_rfl) (by kernel_rfl) (by kernel_rfl) (fun _ _ _ h => h) (by kernel_rfl) (by rfl) hHeld ?_
                simp only [List.setIfInBounds_toArray, List.set_cons_zero, List.set_cons_succ]
                refine sk 15 53 #[true, true, true, true, true, true, true, true, true, true, true, true, true, true, true, true, false, false, false, false] rfl rfl (by kernel_rfl) (by kernel_rfl) (by kernel_rfl) (fun _ _ _ h => h) (by kernel_rfl) (by rfl) hHeld ?_
                simp only [List.setIfInBounds_toArray, List.set_cons_zero, List.set_cons_succ]
                refine sk 16 54 #[true, true, true, true, true, true, true, true, true, true, true, true, true, true, true, true, true, false, false, false] rfl rfl (by kernel_rfl) (by kernel_rfl) (by kernel_rfl) (fun _ _ _ h => h) (by kernel_rfl) (by rfl) hHeld ?_
                simp only [List.setIfInBounds_toArray, List.set_cons_zero, List.set_cons_succ]
                refine sk 17 55 #[true, true, true, true, true, true, true, true, true, true, true, true, true, true, true, true, true, true, false, false] rfl rfl (by kernel_rfl) (by kernel_rfl) (by kernel_rfl) (fun _ _ _ h => h) (by kernel_rfl) (by rfl) hHeld ?_
                simp only [List.setIfInBounds_toArray, List.set_cons_zero, List.set_cons_succ]
                refine sk 18 56 #[true, true, true, true, true, true, true, true, true, true, true, true, true, true, true, true, true, true, true, false] rfl rfl (by kernel_rfl) (by kernel_rfl) (by kernel_rfl) (fun _ _ _ h => h) (by kernel_rfl) (by rfl) hHeld ?_
                simp only [List.setIfInBounds_toArray, List.set_cons_zero, List.set_cons_succ]
                refine tk (v := ?_) 19 57 #[true, true, true, true, true, true, true, true, true, true, true, true, true, true, true, true, true, true, true, true] rfl rfl (by kernel_rfl) (by kernel_rfl) (by kernel_rfl) (fun _ _ _ h => h) (by kernel_rfl) (by rfl) ?hy hHeld ?_
                case hy => rintro W hS; first | (go_simp; done) | (go_simp; with_reducible rfl)
                simp only [List.setIfInBounds_toArray, List.set_cons_zero, List.set_cons_succ]
                refine wpAnyH_done (by kernel_rfl) ?_ _
                have HBF := hide hHeld.1.lo
                have HXF := hide hHeld.1.bx
                clear hHeld
                go_wp2_with fail
                go_ret2
                exact ⟨by rw [e0.out]; rfl, HBF.out⟩
              | true =>
                cases r2 with
                | true =>
                  have e0 : Hid (ANS = (0, false)) := hide (by rw [HQ.out]; rfl)
                  go_wp2_with fail
                  refine begins_held (S := fun W : World => MS w gx gy B1 p q n m v u W ∧ FB W gf f0) 20 #[false, false, false, false, false, false, false, false, false, false, false, false, false, false, false, false, false, false, false, false] (by kernel_rfl) (by kernel_rfl) (by kernel_rfl) ?hS0 (fun hHeld => ?_)
                  case hS0 => exact ⟨HMS.out.later (Below.refl _ _).drew, HFC.out.later (Below.refl _ _).drew⟩
                  refine tk (v := ?_) 0 38 #[true, false, false, false, false, false, false, false, false, false, false, false, false, false, false, false, false, false, false, false] rfl rfl (by kernel_rfl) (by kernel_rfl) (by kernel_rfl) (fun _ _ _ h => h) (by kernel_rfl) (by rfl) ?hy hHeld ?_
                  case hy => rintro W hS; refine exec_row 44 (.tmp 12) ?_ gf 0 ?_ F0 _ (HRF.out _ hS.2) Tryd.underlying44 rfl HFS.out <;> rfl
                  simp only [List.setIfInBounds_toArray, List.set_cons_zero, List.set_cons_succ]
                  refine one_ready 1 #[true, true, false, false, false, false, false, false, false, false, false, false, false, false, false, false, false, false, false, false] rfl (by kernel_rfl) (by kernel_rfl) (by rfl) (fun K hK => ?_)
                  go_simp
                  refine (HIW.out _).mono ?_
                  rintro e w5 ⟨rfl, hb⟩
                  have hS2 := hHeld.1.later hb
                  have hS3 := hHeld.2.later hb
                  refine hK.out _ _ ⟨hS2, hS3⟩ (fun hHeld => ?_)
                  clear hK K
                  refine tk (v := ?_) 2 40 #[true, true, true, false, false, false, false, false, false, false, false, false, false, false, false, false, false, false, false, false] rfl rfl (by kernel_rfl) (by kernel_rfl) (by kernel_rfl) (fun _ _ _ h => h) (by kernel_rfl) (by rfl) ?hy hHeld ?_
                  case hy => rintro W hS; first | (go_simp; done) | (go_simp; with_reducible rfl)
                  simp only [List.setIfInBounds_toArray, List.set_cons_zero, List.set_cons_succ]
                  refine tk (v := ?_) 3 41 #[true, true, true, true, false, false, false, false, false, false, false, false, false, false, false, false, false, false, false, false] rfl rfl (by kernel_rfl) (by kernel_rfl) (by kernel_rfl) (fun _ _ _ h => h) (by kernel_rfl) (by rfl) ?hy hHeld ?_
                  case hy => rintro W hS; first | (go_simp; done) | (go_simp; with_reducible rfl)
                  simp only [List.setIfInBounds_toArray, List.set_cons_zero, List.set_cons_succ]
                  refine tk (v := ?_) 4 42 #[true, true, true, true, true, false, false, false, false, false, false, false, false, false, false, false, false, false, false, false] rfl rfl (by kernel_rfl) (by kernel_rfl) (by kernel_rfl) (fun _ _ _ h => h) (by kernel_rfl) (by rfl) ?hy hHeld ?_
                  case hy => rintro W hS; refine exec_row 44 (.tmp 12) ?_ gf 0 ?_ F0 _ (HRF.out _ hS.2) Tryd.underlying44 rfl HFS.out <;> rfl
                  simp only [List.setIfInBounds_toArray, List.set_cons_zero, List.set_cons_succ]
                  refine tk (v := ?_) 5 43 #[true, true, true, true, true, true, false, false, false, false, false, false, false, false, false, false, false, false, false, false] rfl rfl (by kernel_rfl) (by kernel_rfl) (by kernel_rfl) (fun _ _ _ h => h) (by kernel_rfl) (by rfl) ?hy hHeld ?_
                  case hy => rintro W hS; refine exec_row 26 (.tmp 11) ?_ gy 0 ?_ (nC m u) _ (Bx.rangeM hS.1.ny) Tryd.underlying26 rfl HI2.out <;> rfl
                  simp only [List.setIfInBounds_toArray, List.set_cons_zero, List.set_cons_succ]
                  refine tk (v := ?_) 6 44 #[true, true, true, true, true, true, true, false, false, false, false, false, false, false, false, false, false, false, false, false] rfl rfl (by kernel_rfl) (by kernel_rfl) (by kernel_rfl) (fun _ _ _ h => h) (by kernel_rfl) (by rfl) ?hy hHeld ?_
                  case hy => rintro W hS; first | (go_simp; done) | (go_simp; with_reducible rfl)
                  simp only [List.setIfInBounds_toArray, List.set_cons_zero, List.set_cons_succ]
                  refine tk (v := ?_) 7 45 #[true, true, true, true, true, true, true, true, false, false, false, false, false, false, false, false, false, false, false, false] rfl rfl (by kernel_rfl) (by kernel_rfl) (by kernel_rfl) (fun _ _ _ h => h) (by kernel_rfl) (by rfl) ?hy hHeld ?_
                  case hy => rintro W hS; first | (go_simp; done) | (go_simp; with_reducible rfl)
                  simp only [List.setIfInBounds_toArray, List.set_cons_zero, List.set_cons_succ]
                  refine tk (v := ?_) 8 46 #[true, true, true, true, true, true, true, true, true, false, false, false, false, false, false, false, false, false, false, false] rfl rfl (by kernel_rfl) (by kernel_rfl) (by kernel_rfl) (fun _ _ _ h => h) (by kernel_rfl) (by rfl) ?hy hHeld ?_
                  case hy => rintro W hS; have z := hS.1.sr; have z2 := SB.party z; first | (go_simp; done) | (go_simp; with_reducible rfl)
                  simp only [List.setIfInBounds_toArray, List.set_cons_zero, List.set_cons_succ]
                  refine one_ready 9 #[true, true, true, true, true, true, true, true, true, true, false, false, false, false, false, false, false, false, false, false] rfl (by kernel_rfl) (by kernel_rfl) (by rfl) (fun K hK => ?_)
                  go_simp
                  refine (HOB.out _ hHeld.1.lo).mono ?_
                  rintro e w6 ⟨rfl, hb⟩
                  have hS2 := hHeld.1.later hb
                  have hS3 := hHeld.2.later hb
                  refine hK.out _ _ ⟨hS2, hS3⟩ (fun hHeld => ?_)
                  clear hK K
                  refine one_ready 10 #[true, true, true, true, true, true, true, true, true, true, true, false, false, false, false, false, false, false, false, false] rfl (by kernel_rfl) (by kernel_rfl) (by rfl) (fun K hK => ?_)
                  go_simp
                  refine (HFB.out _ hHeld.1.lo).mono ?_
                  rintro e w7 ⟨rfl, hb⟩
                  have hS2 := hHeld.1.later hb
                  have hS3 := hHeld.2.later hb
                  refine hK.out _ _ ⟨hS2, hS3⟩ (fun hHeld => ?_)
                  clear hK K
                  refine tk (v := ?_) 11 49 #[true, true, true, true, true, true, true, true, true, true, true, true, false, false, false, false, false, false, false, false] rfl rfl (by kernel_rfl) (by kernel_rfl) (by kernel_rfl) (fun _ _ _ h => h) (by kernel_rfl) (by rfl) ?hy hHeld ?_
                  case hy => rintro W hS; first | (go_simp; done) | (go_simp; with_reducible rfl)
                  simp only [List.setIfInBounds_toArray, List.set_cons_zero, List.set_cons_succ]
                  refine tk (v := ?_) 12 50 #[true, true, true, true, true, true, true, true, true, true, true, true, true, false, false, false, false, false, false, false] rfl rfl (by kernel_rfl) (by kernel_rfl) (by kernel_rfl) (fun _ _ _ h => h) (by kernel_rfl) (by rfl) ?hy hHeld ?_
                  case hy => rintro W hS; first | (go_simp; done) | (go_simp; with_reducible rfl)
                  simp only [List.setIfInBounds_toArray, List.set_cons_zero, List.set_cons_succ]
                  refine tk (v := ?_) 13 51 #[true, true, true, true, true, true, true, true, true, true, true, true, true, true, false, false, false, false, false, false] rfl rfl (by kernel_rfl) (by kernel_rfl) (by kernel_rfl) (fun _ _ _ h => h) (by kernel_rfl) (by rfl) ?hy hHeld ?_
                  case hy => rintro W hS; first | (go_simp; done) | (go_simp; with_reducible rfl)
                  simp only [List.setIfInBounds_toArray, List.set_cons_zero, List.set_cons_succ]
                  refine sk 14 52 #[true, true, true, true, true, true, true, true, true, true, true, true, true, true, true, false, false, false, false, false] rfl rfl (by kernel_rfl) (by kernel_rfl) (by kernel_rfl) (fun _ _ _ h => h) (by kernel_rfl) (by rfl) hHeld ?_
                  simp only [List.setIfInBounds_toArray, List.set_cons_zero, List.set_cons_succ]
                  refine sk 15 53 #[true, true, true, true, true, true, true, true, true, true, true, true, true, true, true, true, false, false, false, false] rfl rfl (by kernel_rfl) (by kernel_rfl) (by kernel_rfl) (fun _ _ _ h => h) (by kernel_rfl) (by rfl) hHeld ?_
                  simp only [List.setIfInBounds_toArray, List.set_cons_zero, List.set_cons_succ]
                  refine sk 16 54 #[true, true, true, true, true, true, true, true, true, true, true, true, true, true, true, true, true, false, false, false] rfl rfl (by kernel_rfl) (by kernel_rfl) (by kernel_rfl) (fun _ _ _ h => h) (by kernel_rfl) (by rfl) hHeld ?_
                  simp only [List.setIfInBounds_toArray, List.set_cons_zero, List.set_cons_succ]
                  refine sk 17 55 #[true, true, true, true, true, true, true, true, true, true, true, true, true, true, true, true, true, true, false, false] rfl rfl (by kernel_rfl) (by kernel_rfl) (by kernel_rfl) (fun _ _ _ h => h) (by kernel_rfl) (by rfl) hHeld ?_
                  simp only [List.setIfInBounds_toArray, List.set_cons_zero, List.set_cons_succ]
                  refine sk 18 56 #[true, true, true, true, true, true, true, true, true, true, true, true, true, true, true, true, true, true, true, false] rfl rfl (by kernel_rfl) (by kernel_rfl) (by kernel_rfl) (fun _ _ _ h => h) (by kernel_rfl) (by rfl) hHeld ?_
                  simp only [List.setIfInBounds_toArray, List.set_cons_zero, List.set_cons_succ]
                  refine tk (v := ?_) 19 57 #[true, true, true, true, true, true, true, true, true, true, true, true, true, true, true, true, true, true, true, true] rfl rfl (by kernel_rfl) (by kernel_rfl) (by kernel_rfl) (fun _ _ _ h => h) (by kernel_rfl) (by rfl) ?hy hHeld ?_
                  case hy => rintro W hS; first | (go_simp; done) | (go_simp; with_reducible rfl)
                  simp only [List.setIfInBounds_toArray, List.set_cons_zero, List.set_cons_succ]
                  refine wpAnyH_done (by kernel_rfl) ?_ _
                  have HBF := hide hHeld.1.lo
                  have HXF := hide hHeld.1.bx
                  clear hHeld
                  go_wp2_with fail
                  go_ret2
                  exact ⟨by rw [e0.out]; rfl, HBF.out⟩
                | false =>
                  cases r3 with
                  | false =>
                    have e0 : Hid (ANS = (0, false)) := hide (by rw [HQ.out]; rfl)
                    go_wp2_with fail
                    refine begins_held (S := fun W : World => MS w gx gy B1 p q n m v u W ∧ FB W gf f0) 20 #[false, false, false, false, false, false, false, false, false, false, false, false, false, false, false, false, false, false, false, false] (by kernel_rfl) (by kernel_rfl) (by kernel_rfl) ?hS0 (fun hHeld => ?_)
                    case hS0 => exact ⟨HMS.out.later (Below.refl _ _).drew, HFC.out.later (Below.refl _ _).drew⟩
                    refine tk (v := ?_) 0 38 #[true, false, false, false, false, false, false, false, false, false, false, false, false, false, false, false, false, false, false, false] rfl rfl (by kernel_rfl) (by kernel_rfl) (by kernel_rfl) (fun _ _ _ h => h) (by kernel_rfl) (by rfl) ?hy hHeld ?_
                    case hy => rintro W hS; refine exec_row 44 (.tmp 12) ?_ gf 0 ?_ F0 _ (HRF.out _ hS.2) Tryd.underlying44 rfl HFS.out <;> rfl
                    simp only [List.setIfInBounds_toArray, List.set_cons_zero, List.set_cons_succ]
                    refine one_ready 1 #[true, true, false, false, false, false, false, false, false, false, false, false, false, false, false, false, false, false, false, false] rfl (by kernel_rfl) (by kernel_rfl) (by rfl) (fun K hK => ?_)
                    go_simp
                    refine (HIW.out _).mono ?_
                    rintro e w5 ⟨rfl, hb⟩
                    have hS2 := hHeld.1.later hb
                    have hS3 := hHeld.2.later hb
                    refine hK.out _ _ ⟨hS2, hS3⟩ (fun hHeld => ?_)
                    clear hK K
                    refine tk (v := ?_) 2 40 #[true, true, true, false, false, false, false, false, false, false, false, false, false, false, false, false, false, false, false, false] rfl rfl (by kernel_rfl) (by kernel_rfl) (by kernel_rfl) (fun _ _ _ h => h) (by kernel_rfl) (by rfl) ?hy hHeld ?_
                    case hy => rintro W hS; first | (go_simp; done) | (go_simp; with_reducible rfl)
                    simp only [List.setIfInBounds_toArray, List.set_cons_zero, List.set_cons_succ]
                    refine tk (v := ?_) 3 41 #[true, true, true, true, false, false, false, false, false, false, false, false, false, false, false, false, false, false, false, false] rfl rfl (by kernel_rfl) (by kernel_rfl) (by kernel_rfl) (fun _ _ _ h => h) (by kernel_rfl) (by rfl) ?hy hHeld ?_
                    case hy => rintro W hS; first | (go_simp; done) | (go_simp; with_reducible rfl)
                    simp only [List.setIfInBounds_toArray, List.set_cons_zero, List.set_cons_succ]
                    refine tk (v := ?_) 4 42 #[true, true, true, true, true, false, false, false, false, false, false, false, false, false, false, false, false, false, false, false] rfl rfl (by kernel_rfl) (by kernel_rfl) (by kernel_rfl) (fun _ _ _ h => h) (by kernel_rfl) (by rfl) ?hy hHeld ?_
                    case hy => rintro W hS; refine exec_row 44 (.tmp 12) ?_ gf 0 ?_ F0 _ (HRF.out _ hS.2) Tryd.underlying44 rfl HFS.out <;> rfl
                    simp only [List.setIfInBounds_toArray, List.set_cons_zero, List.set_cons_succ]
                    refine tk (v := ?_) 5 43 #[true, true, true, true, true, true, false, false, false, false, false, false, false, false, false, false, false, false, false, false] rfl rfl (by kernel_rfl) (by kernel_rfl) (by kernel_rfl) (fun _ _ _ h => h) (by kernel_rfl) (by rfl) ?hy hHeld ?_
                    case hy => rintro W hS; refine exec_row 26 (.tmp 11) ?_ gy 0 ?_ (nC m u) _ (Bx.rangeM hS.1.ny) Tryd.underlying26 rfl HI2.out <;> rfl
                    simp only [List.setIfInBounds_toArray, List.set_cons_zero, List.set_cons_succ]
                    refine tk (v := ?_) 6 44 #[true, true, true, true, true, true, true, false, false, false, false, false, false, false, false, false, false, false, false, false] rfl rfl (by kernel_rfl) (by kernel_rfl) (by kernel_rfl) (fun _ _ _ h => h) (by kernel_rfl) (by rfl) ?hy hHeld ?_
                    case hy => rintro W hS; first | (go_simp; done) | (go_simp; with_reducible rfl)
                    simp only [List.setIfInBounds_toArray, List.set_cons_zero, List.set_cons_succ]
                    refine tk (v := ?_) 7 45 #[true, true, true, true, true, true, true, true, false, false, false, false, false, false, false, false, false, false, false, false] rfl rfl (by kernel_rfl) (by kernel_rfl) (by kernel_rfl) (fun _ _ _ h => h) (by kernel_rfl) (by rfl) ?hy hHeld ?_
                    case hy => rintro W hS; first | (go_simp; done) | (go_simp; with_reducible rfl)
                    simp only [List.setIfInBounds_toArray, List.set_cons_zero, List.set_cons_succ]
                    refine tk (v := ?_) 8 46 #[true, true, true, true, true, true, true, true, true, false, false, false, false, false, false, false, false, false, false, false] rfl rfl (by kernel_rfl) (by kernel_rfl) (by kernel_rfl) (fun _ _ _ h => h) (by kernel_rfl) (by rfl) ?hy hHeld ?_
                    case hy => rintro W hS; have z := hS.1.sr; have z2 := SB.party z; first | (go_simp; done) | (go_simp; with_reducible rfl)
                    simp only [List.setIfInBounds_toArray, List.set_cons_zero, List.set_cons_succ]
                    refine one_ready 9 #[true, true, true, true, true, true, true, true, true, true, false, false, false, false, false, false, false, false, false, false] rfl (by kernel_rfl) (by kernel_rfl) (by rfl) (fun K hK => ?_)
                    go_simp
                    refine (HOB.out _ hHeld.1.lo).mono ?_
                    rintro e w6 ⟨rfl, hb⟩
                    have hS2 := hHeld.1.later hb
                    have hS3 := hHeld.2.later hb
                    refine hK.out _ _ ⟨hS2, hS3⟩ (fun hHeld => ?_)
                    clear hK K
                    refine one_ready 10 #[true, true, true, true, true, true, true, true, true, true, true, false, false, false, false, false, false, false, false, false] rfl (by kernel_rfl) (by kernel_rfl) (by rfl) (fun K hK => ?_)
                    go_simp
                    refine (HFB.out _ hHeld.1.lo).mono ?_
                    rintro e w7 ⟨rfl, hb⟩
                    have hS2 := hHeld.1.later hb
                    have hS3 := hHeld.2.later hb
                    refine hK.out _ _ ⟨hS2, hS3⟩ (fun hHeld => ?_)
                    clear hK K
                    refine tk (v := ?_) 11 49 #[true, true, true, true, true, true, true, true, true, true, true, true, false, false, false, false, false, false, false, false] rfl rfl (by kernel_rfl) (by kernel_rfl) (by kernel_rfl) (fun _ _ _ h => h) (by kernel_rfl) (by rfl) ?hy hHeld ?_
                    case hy => rintro W hS; first | (go_simp; done) | (go_simp; with_reducible rfl)
                    simp only [List.setIfInBounds_toArray, List.set_cons_zero, List.set_cons_succ]
                    refine tk (v := ?_) 12 50 #[true, true, true, true, true, true, true, true, true, true, true, true, true, false, false, false, false, false, false, false] rfl rfl (by kernel_rfl) (by kernel_rfl) (by kernel_rfl) (fun _ _ _ h => h) (by kernel_rfl) (by rfl) ?hy hHeld ?_
                    case hy => rintro W hS; first | (go_simp; done) | (go_simp; with_reducible rfl)
                    simp only [List.setIfInBounds_toArray, List.set_cons_zero, List.set_cons_succ]
                    refine tk (v := ?_) 13 51 #[true, true, true, true, true, true, true, true, true, true, true, true, true, true, false, false, false, false, false, false] rfl rfl (by kernel_rfl) (by kernel_rfl) (by kernel_rfl) (fun _ _ _ h => h) (by kernel_rfl) (by rfl) ?hy hHeld ?_
                    case hy => rintro W hS; first | (go_simp; done) | (go_simp; with_reducible rfl)
                    simp only [List.setIfInBounds_toArray, List.set_cons_zero, List.set_cons_succ]
                    refine tk (v := ?_) 14 52 #[true, true, true, true, true, true, true, true, true, true, true, true, true, true, true, false, false, false, false, false] rfl rfl (by kernel_rfl) (by kernel_rfl) (by kernel_rfl) (fun _ _ _ h => h) (by kernel_rfl) (by rfl) ?hy hHeld ?_
                    case hy => rintro W hS; refine exec_row 26 (.tmp 10) ?_ gx 0 ?_ (nC n v) _ (Bx.rangeM hS.1.bx) Tryd.underlying26 rfl HI1.out <;> rfl
                    simp only [List.setIfInBounds_toArray, List.set_cons_zero, List.set_cons_succ]
                    refine tk (v := ?_) 15 53 #[true, true, true, true, true, true, true, true, true, true, true, true, true, true, true, true, false, false, false, false] rfl rfl (by kernel_rfl) (by kernel_rfl) (by kernel_rfl) (fun _ _ _ h => h) (by kernel_rfl) (by rfl) ?hy hHeld ?_
                    case hy => rintro W hS; refine exec_row 26 (.tmp 11) ?_ gy 0 ?_ (nC m u) _ (Bx.rangeM hS.1.ny) Tryd.underlying26 rfl HI2.out <;> rfl
                    simp only [List.setIfInBounds_toArray, List.set_cons_zero, List.set_cons_succ]
                    refine tk (v := ?_) 16 54 #[true, true, true, true, true, true, true, true, true, true, true, true, true, true, true, true, true, false, false, false] rfl rfl (by kernel_rfl) (by kernel_rfl) (by kernel_rfl) (fun _ _ _ h => h) (by kernel_rfl) (by rfl) ?hy hHeld ?_
                    case hy => rintro W hS; first | (go_simp; done) | (go_simp; with_reducible rfl)
                    simp only [List.setIfInBounds_toArray, List.set_cons_zero, List.set_cons_succ]
                    refine one_ready 17 #[true, true, true, true, true, true, true, true, true, true, true, true, true, true, true, true, true, true, false, false] rfl (by kernel_rfl) (by kernel_rfl) (by rfl) (fun K hK => ?_)
                    go_simp
                    refine (HNE.out _).mono ?_
                    rintro e w8 ⟨rfl, hb⟩
                    have hS2 := hHeld.1.later hb
                    have hS3 := hHeld.2.later hb
                    refine hK.out _ _ ⟨hS2, hS3⟩ (fun hHeld => ?_)
                    clear hK K
                    refine tk (v := ?_) 18 56 #[true, true, true, true, true, true, true, true, true, true, true, true, true, true, true, true, true, true, true, false] rfl rfl (by kernel_rfl) (by kernel_rfl) (by kernel_rfl) (fun _ _ _ h => h) (by kernel_rfl) (by rfl) ?hy hHeld ?_
                    case hy => rintro W hS; first | (go_simp; done) | (go_simp; with_reducible rfl)
                    simp only [List.setIfInBounds_toArray, List.set_cons_zero, List.set_cons_succ]
                    refine tk (v := ?_) 19 57 #[true, true, true, true, true, true, true, true, true, true, true, true, true, true, true, true, true, true, true, true] rfl rfl (by kernel_rfl) (by kernel_rfl) (by kernel_rfl) (fun _ _ _ h => h) (by kernel_rfl) (by rfl) ?hy hHeld ?_
                    case hy => rintro W hS; first | (go_simp; done) | (go_simp; with_reducible rfl)
                    simp only [List.setIfInBounds_toArray, List.set_cons_zero, List.set_cons_succ]
                    refine wpAnyH_done (by kernel_rfl) ?_ _
                    have HBF := hide hHeld.1.lo
                    have HXF := hide hHeld.1.bx
                    clear hHeld
                    go_wp2_with fail
                    go_ret2
                    exact ⟨by rw [e0.out]; rfl, HBF.out⟩
                  | true =>
                    have e0 : Hid (ANS = (wn, true)) := hide (by rw [HQ.out]; rfl)
                    go_wp2_with fail
                    refine begins_held (S := fun W : World => MS w gx gy B1 p q n m v u W ∧ FB W gf f0) 20 #[false, false, false, false, false, false, false, false, false, false, false, false, false, false, false, false, false, false, false, false] (by kernel_rfl) (by kernel_rfl) (by kernel_rfl) ?hS0 (fun hHeld => ?_)
                    case hS0 => exact ⟨HMS.out.later (Below.refl _ _).drew, HFC.out.later (Below.refl _ _).drew⟩
                    refine tk (v := ?_) 0 38 #[true, false, false, false, false, false, false, false, false, false, false, false, false, false, false, false, false, false, false, false] rfl rfl (by kernel_rfl) (by kernel_rfl) (by kernel_rfl) (fun _ _ _ h => h) (by kernel_rfl) (by rfl) ?hy hHeld ?_
                    case hy => rintro W hS; refine exec_row 44 (.tmp 12) ?_ gf 0 ?_ F0 _ (HRF.out _ hS.2) Tryd.underlying44 rfl HFS.out <;> rfl
                    simp only [List.setIfInBounds_toArray, List.set_cons_zero, List.set_cons_succ]
                    refine one_ready 1 #[true, true, false, false, false, false, false, false, false, false, false, false, false, false, false, false, false, false, false, false] rfl (by kernel_rfl) (by kernel_rfl) (by rfl) (fun K hK => ?_)
                    go_simp
                    refine (HIW.out _).mono ?_
                    rintro e w5 ⟨rfl, hb⟩
                    have hS2 := hHeld.1.later hb
                    have hS3 := hHeld.2.later hb
                    refine hK.out _ _ ⟨hS2, hS3⟩ (fun hHeld => ?_)
                    clear hK K
                    refine tk (v := ?_) 2 40 #[true, true, true, false, false, false, false, false, false, false, false, false, false, false, false, false, false, false, false, false] rfl rfl (by kernel_rfl) (by kernel_rfl) (by kernel_rfl) (fun _ _ _ h => h) (by kernel_rfl) (by rfl) ?hy hHeld ?_
                    case hy => rintro W hS; first | (go_simp; done) | (go_simp; with_reducible rfl)
                    simp only [List.setIfInBounds_toArray, List.set_cons_zero, List.set_cons_succ]
                    refine tk (v := ?_) 3 41 #[true, true, true, true, false, false, false, false, false, false, false, false, false, false, false, false, false, false, false, false] rfl rfl (by kernel_rfl) (by kernel_rfl) (by kernel_rfl) (fun _ _ _ h => h) (by kernel_rfl) (by rfl) ?hy hHeld ?_
                    case hy => rintro W hS; first | (go_simp; done) | (go_simp; with_reducible rfl)
                    simp only [List.setIfInBounds_toArray, List.set_cons_zero, List.set_cons_succ]
                    refine tk (v := ?_) 4 42 #[true, true, true, true, true, false, false, false, false, false, false, false, false, false, false, false, false, false, false, false] rfl rfl (by kernel_rfl) (by kernel_rfl) (by kernel_rfl) (fun _ _ _ h => h) (by kernel_rfl) (by rfl) ?hy hHeld ?_
                    case hy => rintro W hS; refine exec_row 44 (.tmp 12) ?_ gf 0 ?_ F0 _ (HRF.out _ hS.2) Tryd.underlying44 rfl HFS.out <;> rfl
                    simp only [List.setIfInBounds_toArray, List.set_cons_zero, List.set_cons_succ]
                    refine tk (v := ?_) 5 43 #[true, true, true, true, true, true, false, false, false, false, false, false, false, false, false, false, false, false, false, false] rfl rfl (by kernel_rfl) (by kernel_rfl) (by kernel_rfl) (fun _ _ _ h => h) (by kernel_rfl) (by rfl) ?hy hHeld ?_
                    case hy => rintro W hS; refine exec_row 26 (.tmp 11) ?_ gy 0 ?_ (nC m u) _ (Bx.rangeM hS.1.ny) Tryd.underlying26 rfl HI2.out <;> rfl
                    simp only [List.setIfInBounds_toArray, List.set_cons_zero, List.set_cons_succ]
                    refine tk (v := ?_) 6 44 #[true, true, true, true, true, true, true, false, false, false, false, false, false, false, false, false, false, false, false, false] rfl rfl (by kernel_rfl) (by kernel_rfl) (by kernel_rfl) (fun _ _ _ h => h) (by kernel_rfl) (by rfl) ?hy hHeld ?_
                    case hy => rintro W hS; first | (go_simp; done) | (go_simp; with_reducible rfl)
                    simp only [List.setIfInBounds_toArray, List.set_cons_zero, List.set_cons_succ]
                    refine tk (v := ?_) 7 45 #[true, true, true, true, true, true, true, true, false, false, false, false, false, false, false, false, false, false, false, false] rfl rfl (by kernel_rfl) (by kernel_rfl) (by kernel_rfl) (fun _ _ _ h => h) (by kernel_rfl) (by rfl) ?hy hHeld ?_
                    case hy => rintro W hS; first | (go_simp; done) | (go_simp; with_reducible rfl)
                    simp only [List.setIfInBounds_toArray, List.set_cons_zero, List.set_cons_succ]
                    refine tk (v := ?_) 8 46 #[true, true, true, true, true, true, true, true, true, false, false, false, false, false, false, false, false, false, false, false] rfl rfl (by kernel_rfl) (by kernel_rfl) (by kernel_rfl) (fun _ _ _ h => h) (by kernel_rfl) (by rfl) ?hy hHeld ?_
                    case hy => rintro W hS; have z := hS.1.sr; have z2 := SB.party z; first | (go_simp; done) | (go_simp; with_reducible rfl)
                    simp only [List.setIfInBounds_toArray, List.set_cons_zero, List.set_cons_succ]
                    refine one_ready 9 #[true, true, true, true, true, true, true, true, true, true, false, false, false, false, false, false, false, false, false, false] rfl (by kernel_rfl) (by kernel_rfl) (by rfl) (fun K hK => ?_)
                    go_simp
                    refine (HOB.out _ hHeld.1.lo).mono ?_
                    rintro e w6 ⟨rfl, hb⟩
                    have hS2 := hHeld.1.later hb
                    have hS3 := hHeld.2.later hb
                    refine hK.out _ _ ⟨hS2, hS3⟩ (fun hHeld => ?_)
                    clear hK K
                    refine one_ready 10 #[true, true, true, true, true, true, true, true, true, true, true, false, false, false, false, false, false, false, false, false] rfl (by kernel_rfl) (by kernel_rfl) (by rfl) (fun K hK => ?_)
                    go_simp
                    refine (HFB.out _ hHeld.1.lo).mono ?_
                    rintro e w7 ⟨rfl, hb⟩
                    have hS2 := hHeld.1.later hb
                    have hS3 := hHeld.2.later hb
                    refine hK.out _ _ ⟨hS2, hS3⟩ (fun hHeld => ?_)
                    clear hK K
                    refine tk (v := ?_) 11 49 #[true, true, true, true, true, true, true, true, true, true, true, true, false, false, false, false, false, false, false, false] rfl rfl (by kernel_rfl) (by kernel_rfl) (by kernel_rfl) (fun _ _ _ h => h) (by kernel_rfl) (by rfl) ?hy hHeld ?_
                    case hy => rintro W hS; first | (go_simp; done) | (go_simp; with_reducible rfl)
                    simp only [List.setIfInBounds_toArray, List.set_cons_zero, List.set_cons_succ]
                    refine tk (v := ?_) 12 50 #[true, true, true, true, true, true, true, true, true, true, true, true, true, false, false, false, false, false, false, false] rfl rfl (by kernel_rfl) (by kernel_rfl) (by kernel_rfl) (fun _ _ _ h => h) (by kernel_rfl) (by rfl) ?hy hHeld ?_
                    case hy => rintro W hS; first | (go_simp; done) | (go_simp; with_reducible rfl)
                    simp only [List.setIfInBounds_toArray, List.set_cons_zero, List.set_cons_succ]
                    refine tk (v := ?_) 13 51 #[true, true, true, true, true, true, true, true, true, true, true, true, true, true, false, false, false, false, false, false] rfl rfl (by kernel_rfl) (by kernel_rfl) (by kernel_rfl) (fun _ _ _ h => h) (by kernel_rfl) (by rfl) ?hy hHeld ?_
                    case hy => rintro W hS; first | (go_simp; done) | (go_simp; with_reducible rfl)
                    simp only [List.setIfInBounds_toArray, List.set_cons_zero, List.set_cons_succ]
                    refine tk (v := ?_) 14 52 #[true, true, true, true, true, true, true, true, true, true, true, true, true, true, true, false, false, false, false, false] rfl rfl (by kernel_rfl) (by kernel_rfl) (by kernel_rfl) (fun _ _ _ h => h) (by kernel_rfl) (by rfl) ?hy hHeld ?_
                    case hy => rintro W hS; refine exec_row 26 (.tmp 10) ?_ gx 0 ?_ (nC n v) _ (Bx.rangeM hS.1.bx) Tryd.underlying26 rfl HI1.out <;> rfl
                    simp only [List.setIfInBounds_toArray, List.set_cons_zero, List.set_cons_succ]
                    refine tk (v := ?_) 15 53 #[true, true, true, true, true, true, true, true, true, true, true, true, true, true, true, true, false, false, false, false] rfl rfl (by kernel_rfl) (by kernel_rfl) (by kernel_rfl) (fun _ _ _ h => h) (by kernel_rfl) (by rfl) ?hy hHeld ?_
                    case hy => rintro W hS; refine exec_row 26 (.tmp 11) ?_ gy 0 ?_ (nC m u) _ (Bx.rangeM hS.1.ny) Tryd.underlying26 rfl HI2.out <;> rfl
                    simp only [List.setIfInBounds_toArray, List.set_cons_zero, List.set_cons_succ]
                    refine tk (v := ?_) 16 54 #[true, true, true, true, true, true, true, true, true, true, true, true, true, true, true, true, true, false, false, false] rfl rfl (by kernel_rfl) (by kernel_rfl) (by kernel_rfl) (fun _ _ _ h => h) (by kernel_rfl) (by rfl) ?hy hHeld ?_
                    case hy => rintro W hS; first | (go_simp; done) | (go_simp; with_reducible rfl)
                    simp only [List.setIfInBounds_toArray, List.set_cons_zero, List.set_cons_succ]
                    refine one_ready 17 #[true, true, true, true, true, true, true, true, true, true, true, true, true, true, true, true, true, true, false, false] rfl (by kernel_rfl) (by kernel_rfl) (by rfl) (fun K hK => ?_)
                    go_simp
                    refine (HNE.out _).mono ?_
                    rintro e w8 ⟨rfl, hb⟩
                    have hS2 := hHeld.1.later hb
                    have hS3 := hHeld.2.later hb
                    refine hK.out _ _ ⟨hS2, hS3⟩ (fun hHeld => ?_)
                    clear hK K
                    refine tk (v := ?_) 18 56 #[true, true, true, true, true, true, true, true, true, true, true, true, true, true, true, true, true, true, true, false] rfl rfl (by kernel_rfl) (by kernel_rfl) (by kernel_rfl) (fun _ _ _ h => h) (by kernel_rfl) (by rfl) ?hy hHeld ?_
                    case hy => rintro W hS; first | (go_simp; done) | (go_simp; with_reducible rfl)
                    simp only [List.setIfInBounds_toArray, List.set_cons_zero, List.set_cons_succ]
                    refine tk (v := ?_) 19 57 #[true, true, true, true, true, true, true, true, true, true, true, true, true, true, true, true, true, true, true, true] rfl rfl (by kernel_rfl) (by kernel_rfl) (by kernel_rfl) (fun _ _ _ h => h) (by kernel_rfl) (by rfl) ?hy hHeld ?_
                    case hy => rintro W hS; first | (go_simp; done) | (go_simp; with_reducible rfl)
                    simp only [List.setIfInBounds_toArray, List.set_cons_zero, List.set_cons_succ]
                    refine wpAnyH_done (by kernel_rfl) ?_ _
                    have HBF := hide hHeld.1.lo
                    have HXF := hide hHeld.1.bx
                    clear hHeld
                    have RN := hide (Bx.rangeM HXF.out)
                    have SZN : Hid ((Tryd.prog.info? 26).map (·.size) = some (nC n v).size) := HI1
                    obtain ⟨N0, hN0⟩ : ∃ x, nC n v = x := ⟨_, rfl⟩
                    rw [hN0] at RN SZN HWO
                    clear hN0
                    go_wp2_with (first | (refine wpList_load_mid rfl 26 (.tmp 10) rfl gx 0 rfl N0.toList _ RN.out Tryd.underlying26 rfl (by rw [Array.length_toList]; exact SZN.out) ?_; rw [Array.toArray_toList]) | fail)
                    refine (HWO.out _).mono ?_
                    rintro e w9 ⟨rfl, hb⟩
                    have HB9 := hide (HBF.out.trans (hb.mono HBF.out.size))
                    clear hb
                    go_wp2_with fail
                    go_ret2
                    exact ⟨by rw [e0.out]; rfl, HB9.out⟩
end Go.Proofs.YtdfhfjkcafchiaaDoor
