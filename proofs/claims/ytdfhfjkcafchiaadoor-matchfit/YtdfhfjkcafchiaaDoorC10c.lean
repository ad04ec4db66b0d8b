/-
  My own text: BICs: the program's answer.
-/
import Derived.Test.YtdfhfjkcafchiaaDoorC10b
import Derived.Deep.RegionHeld3
namespace Go.Proofs.YtdfhfjkcafchiaaDoor.LC
open Go.RowKit

set_option maxHeartbeats 1000000 in
theorem bic_bad (l : List UInt8) (w : World) (hl : l.length ≤ 140737488355328) (h : ¬ Form l (bicF l)) :
    Calls Tryd.prog 27 #[.string ⟨l.toArray⟩] w fun e w' => e = .returned (.tuple #[.agg (bicV l), errF (formR l (bicF l))]) ∧ Below w.heap.size w w' := by
  have hb0 : Below w.heap.size w (w.alloc (.cells bicZ 40)) := (Below.refl _ _).alloc (Nat.le_refl _) _
  have hnew := alloc_new w (.cells bicZ 40)
  have HC := hide (check_any l (bicF l) (w.alloc (.cells bicZ 40)) hl)
  rw [bicV_bad h]
  obtain ⟨t, u, hev⟩ := errF_iface (form_ne h)
  rw [hev] at HC ⊢
  clear hev h
  obtain ⟨F, HF⟩ : ∃ F, Hid (bicF l = F) := ⟨_, hide rfl⟩
  have HF8 : Hid (l.length = 8 → F = bic8) := hide (fun h => by rw [← HF.out]; unfold bicF; rw [if_pos h])
  have HF11 : Hid (l.length ≠ 8 → F = bic11) := hide (fun h => by rw [← HF.out]; unfold bicF; rw [if_neg h])
  rw [HF.out] at HC
  clear HF
  by_cases h8 : l.length = 8
  · rw [HF8.out h8] at HC
    have hb8 : ((l.length : Int) == 8) = true := by rw [h8]; rfl
    clear h8 HF8 HF11
    go_enter Tryd.func27, Tryd.ntmps27
    go_wp2_with fail
    refine HC.out.mono ?_
    rintro e w1 ⟨rfl, hb1⟩
    have HBK := hide ((hb1.block _ (by simp)).trans hnew)
    have HB1 := hide (hb0.trans (hb1.mono hb0.size))
    clear hb0 hnew hb1 HC
    go_wp2_with (refine wpList_store_row rfl 40 (.tmp 2) _ rfl w.heap.size bicZ rfl rfl _ _ HBK.out Tryd.size4 rfl (by simp [bicZ, str, Value.oneCell']) ?_)
    have hld := run_loadVar_row (P := Tryd.prog) (w1.setRow w.heap.size bicZ) w.heap.size 40 40 bicZ (0, 0) _ (setRow_heap _ _ _ _ _ _ HBK.out) Tryd.underlying40 rfl Tryd.size4
    refine bodyPost_ret (v := .tuple #[.agg bicZ, .iface t u]) ?_ rfl ⟨rfl, below_setRow HB1.out (Nat.le_refl _) _⟩
    rw [results_cell_tmp rfl]
    simp [asAddr, Result.andThen, hld]
  · rw [HF11.out h8] at HC
    have hb8 : ((l.length : Int) == 8) = false := beq_eq_false_iff_ne.2 (by omega)
    clear h8 HF8 HF11
    go_enter Tryd.func27, Tryd.ntmps27
    go_wp2_with fail
    refine HC.out.mono ?_
    rintro e w1 ⟨rfl, hb1⟩
    have HBK := hide ((hb1.block _ (by simp)).trans hnew)
    have HB1 := hide (hb0.trans (hb1.mono hb0.size))
    clear hb0 hnew hb1 HC
    go_wp2_with (refine wpList_store_row rfl 40 (.tmp 2) _ rfl w.heap.size bicZ rfl rfl _ _ HBK.out Tryd.size4 rfl (by simp [bicZ, str, Value.oneCell']) ?_)
    have hld := run_loadVar_row (P := Tryd.prog) (w1.setRow w.heap.size bicZ) w.heap.size 40 40 bicZ (0, 0) _ (setRow_heap _ _ _ _ _ _ HBK.out) Tryd.underlying40 rfl Tryd.size4
    refine bodyPost_ret (v := .tuple #[.agg bicZ, .iface t u]) ?_ rfl ⟨rfl, below_setRow HB1.out (Nat.le_refl _) _⟩
    rw [results_cell_tmp rfl]
    simp [asAddr, Result.andThen, hld]
theorem conv_mid {l : List UInt8} {g a n : Nat} {W : World} (h : W.rangeAt g 0 (cel l).toList) (hn : a + n ≤ l.length) (c : Nat) :
    (convert 66 9 (.slice (some ⟨g, a, none⟩) n c)).run Tryd.prog W = .ok (.string ⟨((l.drop a).take n).toArray⟩) W := by
  have hl : ((l.drop a).take n).length = n := by rw [List.length_take, List.length_drop]; omega
  have h2 := run_convert_bytes_back (P := Tryd.prog) W 66 9 5 ⟨g, a, none⟩ c ((l.drop a).take n) Tryd.underlying66 Tryd.underlying5 Tryd.underlying9 (fun j hj => by
    rw [hl] at hj
    have h3 := h (a + j) (.int .u8 ((l.getD (a + j) 0).toNat : Int)) (by
      have := cel_at (a := l) (i := a + j) (by omega)
      simpa using this)
    rw [Nat.zero_add] at h3
    rw [Addr.add_mid, h3]
    congr 3
    rw [getD_at (by omega)]
    simp)
  rw [hl] at h2; exact h2
/-- What the listed variable holds: the branch that is told as none. -/
def HeadOffice (w : World) : Prop := w.rangeAt 0 0 (cel [88, 88, 88]).toList
theorem HeadOffice.below {w w' : World} (h : HeadOffice w) (hb : Below w.heap.size w w') : HeadOffice w' := rng_later hb h
theorem Tryd.size3 : (Tryd.prog.info? 68).map (·.size) = some 3 := by kernel_rfl
set_option maxRecDepth 100000 in
set_option maxHeartbeats 4000000 in
theorem bic_good (l : List UInt8) (w : World) (hO : HeadOffice w) (h : Form l (bicF l)) :
    Calls Tryd.prog 27 #[.string ⟨l.toArray⟩] w fun e w' => e = .returned (.tuple #[.agg (bicP l), .nilIface]) ∧ Below w.heap.size w w' := by
  have hlen := bic_len h
  have HO := hide hO
  clear hO
  have hb0 : Below w.heap.size w (w.alloc (.cells bicZ 40)) := (Below.refl _ _).alloc (Nat.le_refl _) _
  have hnew := alloc_new w (.cells bicZ 40)
  have HC := hide (check_any l (bicF l) (w.alloc (.cells bicZ 40)) (by omega))
  rw [form_eq h, errF_ok] at HC
  obtain ⟨F, HF⟩ : ∃ F, Hid (bicF l = F) := ⟨_, hide rfl⟩
  have HF8 : Hid (l.length = 8 → F = bic8) := hide (fun h => by rw [← HF.out]; unfold bicF; rw [if_pos h])
  have HF11 : Hid (l.length ≠ 8 → F = bic11) := hide (fun h => by rw [← HF.out]; unfold bicF; rw [if_neg h])
  rw [HF.out] at HC
  clear HF h
  have hcv := run_bytes l (n := l.length) rfl
  by_cases h8 : l.length = 8
  · rw [HF8.out h8] at HC
    have hb8 : ((l.length : Int) == 8) = true := by rw [h8]; rfl
    have HL8 := hide h8
    have hle : 8 ≤ l.length := by omega
    have HD8 : Hid (l.drop 8 = []) := hide (List.drop_eq_nil_of_le (by omega))
    clear h8 HF8 HF11 hlen
    go_enter Tryd.func27, Tryd.ntmps27
    go_wp2_with fail
    refine HC.out.mono ?_
    rintro e w1 ⟨rfl, hb1⟩
    have HBK := hide ((hb1.block _ (by simp)).trans hnew)
    have HB1 := hide (hb0.trans (hb1.mono hb0.size))
    have hrng := bw_range l w1
    have HRG := hide hrng
    have hcap : l.length ≤ bcap l w1 := by unfold bcap; have := grownCap_ge w1 (⟨l.toArray⟩ : ByteArray).size 0 5; rw [bytes_size] at this ⊢; exact this
    have hm0 := fun (W : World) (hW : W.rangeAt w1.heap.size 0 (cel l).toList) (c : Nat) => conv_mid (a := 0) (n := 4) hW (by omega) c
    have hm1 := fun (W : World) (hW : W.rangeAt w1.heap.size 0 (cel l).toList) (c : Nat) => conv_mid (a := 4) (n := 2) hW (by omega) c
    have hm2 := fun (W : World) (hW : W.rangeAt w1.heap.size 0 (cel l).toList) (c : Nat) => conv_mid (a := 6) (n := 2) hW (by omega) c
    have HLT1 : Hid (w.heap.size < w1.heap.size) := hide (World.block_lt_of_cell? w1 ⟨w.heap.size, 0, none⟩ (cell_of_row w1 _ 0 _ _ _ HBK.out))
    clear hb0 hnew hb1 HC
    go_wp2_with fail
    generalize bcap l w1 = cap at hcap
    have k4 : (4 : Int) ≤ (cap : Int) := by omega
    have k6 : (6 : Int) ≤ (cap : Int) := by omega
    have k8 : (8 : Int) ≤ (cap : Int) := by omega
    have n4 : ¬ cap = 4 := by omega
    have n6 : ¬ cap = 6 := by omega
    go_region_held3 (fun w' => w'.rangeAt w1.heap.size 0 (cel l).toList) (go_keep_ranges) (fail)
    clear hrng hm0 hm1 hm2
    obtain ⟨A, HA⟩ : ∃ A, Hid (l.take 4 = A) := ⟨_, hide rfl⟩
    obtain ⟨B, HB⟩ : ∃ B, Hid ((l.drop 4).take 2 = B) := ⟨_, hide rfl⟩
    obtain ⟨C, HCC⟩ : ∃ C, Hid ((l.drop 6).take 2 = C) := ⟨_, hide rfl⟩
    rw [HA.out, HB.out, HCC.out]
    obtain ⟨X, HX⟩ : ∃ X, Hid ((bw l w1).alloc (.cells #[.string ⟨A.toArray⟩, .string ⟨B.toArray⟩, .string ⟨C.toArray⟩, .string ⟨#[]⟩] 40) = X) := ⟨_, hide rfl⟩
    have HBX : Hid (Below w.heap.size w X) := by
      show Below _ _ _
      rw [← HX.out]
      have h2 := HB1.out.trans ((bw_below (l := l) (Nat.le_refl w1.heap.size)).mono HB1.out.size)
      exact h2.alloc h2.size _
    have HKX : Hid (X.heap[w.heap.size]? = some (.cells bicZ 40 (0, 0))) := by
      show _ = _
      rw [← HX.out]
      exact alloc_block (((bw_below (l := l) (Nat.le_refl w1.heap.size)).block _ HLT1.out).trans HBK.out)
    have HGX : Hid (X.heap[(bw l w1).heap.size]? = some (.cells #[.string ⟨A.toArray⟩, .string ⟨B.toArray⟩, .string ⟨C.toArray⟩, .string ⟨#[]⟩] 40 (0, 0))) := by
      show _ = _
      rw [← HX.out]
      exact alloc_new _ _
    have HRX : Hid (X.rangeAt w1.heap.size 0 (cel l).toList) := by
      show World.rangeAt _ _ _ _
      rw [← HX.out]
      exact World.rangeAt_alloc HRG.out _
    have HLX : Hid (w.heap.size < (bw l w1).heap.size) := hide (Nat.lt_of_lt_of_le HLT1.out (bw_below (l := l) (Nat.le_refl w1.heap.size)).size)
    rw [HX.out]
    generalize (bw l w1).heap.size = g7 at HGX HLX ⊢
    clear HX HRG HBK HB1 hcv
    go_wp2_with fail
    have HPV : Hid (bicP l = #[.string ⟨A.toArray⟩, .string ⟨B.toArray⟩, .string ⟨C.toArray⟩, .string ⟨#[]⟩]) := by
      show bicP l = _
      unfold bicP bicB
      rw [HA.out, HB.out, HCC.out, HD8.out]; rfl
    have hgd : decide ((8 : Int) < (l.length : Int)) = false := by have := HL8.out; simp; omega
    refine wp_region_quiet_lit (by kernel_rfl) (by kernel_rfl) ?_
    repeat (first
      | go_big_quiet_skip
      | (go_big_quiet_want; first
          | (go_big_quiet_op; go_big_quiet_on)))
    refine wpQuiet_nil ?_
    rintro w5 ⟨nq, rfl⟩
    have HKF : Hid ((X.drew.drewN nq).heap[w.heap.size]? = some (.cells bicZ 40 (0, 0))) := HKX
    have HGF : Hid ((X.drew.drewN nq).heap[g7]? = some (.cells #[.string ⟨A.toArray⟩, .string ⟨B.toArray⟩, .string ⟨C.toArray⟩, .string ⟨#[]⟩] 40 (0, 0))) := HGX
    have HBF : Hid (Below w.heap.size w (X.drew.drewN nq)) := hide (below_drewN HBX.out.drew _)
    have HRY : Hid ((X.drew.drewN nq).rangeAt w1.heap.size 0 (cel l).toList) := HRX
    generalize X.drew.drewN nq = Y at HKF HGF HBF HRY ⊢
    go_wp2_with (first
      | (refine wpList_load_row rfl 40 (.tmp 7) rfl g7 rfl _ #[.string ⟨A.toArray⟩, .string ⟨B.toArray⟩, .string ⟨C.toArray⟩, .string ⟨#[]⟩] _ _ HGF.out Tryd.underlying40 rfl Tryd.size4 ?_)
      | (refine wpList_store_row rfl 40 (.tmp 2) _ rfl w.heap.size #[.string ⟨A.toArray⟩, .string ⟨B.toArray⟩, .string ⟨C.toArray⟩, .string ⟨#[]⟩] rfl rfl _ _ HKF.out Tryd.size4 rfl (by simp [Value.oneCell']) ?_))
    have hld := run_loadVar_row (P := Tryd.prog) (Y.setRow w.heap.size #[.string ⟨A.toArray⟩, .string ⟨B.toArray⟩, .string ⟨C.toArray⟩, .string ⟨#[]⟩]) w.heap.size 40 40 _ (0, 0) _ (setRow_heap _ _ _ _ _ _ HKF.out) Tryd.underlying40 rfl Tryd.size4
    refine bodyPost_ret (v := .tuple #[.agg #[.string ⟨A.toArray⟩, .string ⟨B.toArray⟩, .string ⟨C.toArray⟩, .string ⟨#[]⟩], .nilIface]) ?_ rfl ⟨ret_tv (by rw [HPV.out]) rfl, below_setRow HBF.out (Nat.le_refl _) _⟩
    rw [results_cell_tmp rfl]
    simp [asAddr, Result.andThen, hld]
  · rw [HF11.out h8] at HC
    have hb8 : ((l.length : Int) == 8) = false := beq_eq_false_iff_ne.2 (by omega)
    have HL11 : Hid (l.length = 11) := hide (by omega)
    have hle : 11 ≤ l.length := by omega
    have hle2 : l.length ≤ 11 := by omega
    clear h8 HF8 HF11 hlen
    go_enter Tryd.func27, Tryd.ntmps27
    go_wp2_with fail
    refine HC.out.mono ?_
    rintro e w1 ⟨rfl, hb1⟩
    have HBK := hide ((hb1.block _ (by simp)).trans hnew)
    have HB1 := hide (hb0.trans (hb1.mono hb0.size))
    have hrng := bw_range l w1
    have HRG := hide hrng
    have hcap : l.length ≤ bcap l w1 := by unfold bcap; have := grownCap_ge w1 (⟨l.toArray⟩ : ByteArray).size 0 5; rw [bytes_size] at this ⊢; exact this
    have hm0 := fun (W : World) (hW : W.rangeAt w1.heap.size 0 (cel l).toList) (c : Nat) => conv_mid (a := 0) (n := 4) hW (by omega) c
    have hm1 := fun (W : World) (hW : W.rangeAt w1.heap.size 0 (cel l).toList) (c : Nat) => conv_mid (a := 4) (n := 2) hW (by omega) c
    have hm2 := fun (W : World) (hW : W.rangeAt w1.heap.size 0 (cel l).toList) (c : Nat) => conv_mid (a := 6) (n := 2) hW (by omega) c
    have HLT1 : Hid (w.heap.size < w1.heap.size) := hide (World.block_lt_of_cell? w1 ⟨w.heap.size, 0, none⟩ (cell_of_row w1 _ 0 _ _ _ HBK.out))
    clear hb0 hnew hb1 HC
    go_wp2_with fail
    generalize bcap l w1 = cap at hcap
    have k4 : (4 : Int) ≤ (cap : Int) := by omega
    have k6 : (6 : Int) ≤ (cap : Int) := by omega
    have k8 : (8 : Int) ≤ (cap : Int) := by omega
    have n4 : ¬ cap = 4 := by omega
    have n6 : ¬ cap = 6 := by omega
    go_region_held3 (fun w' => w'.rangeAt w1.heap.size 0 (cel l).toList) (go_keep_ranges) (fail)
    clear hrng hm0 hm1 hm2
    obtain ⟨A, HA⟩ : ∃ A, Hid (l.take 4 = A) := ⟨_, hide rfl⟩
    obtain ⟨B, HB⟩ : ∃ B, Hid ((l.drop 4).take 2 = B) := ⟨_, hide rfl⟩
    obtain ⟨C, HCC⟩ : ∃ C, Hid ((l.drop 6).take 2 = C) := ⟨_, hide rfl⟩
    rw [HA.out, HB.out, HCC.out]
    obtain ⟨X, HX⟩ : ∃ X, Hid ((bw l w1).alloc (.cells #[.string ⟨A.toArray⟩, .string ⟨B.toArray⟩, .string ⟨C.toArray⟩, .string ⟨#[]⟩] 40) = X) := ⟨_, hide rfl⟩
    have HBX : Hid (Below w.heap.size w X) := by
      show Below _ _ _
      rw [← HX.out]
      have h2 := HB1.out.trans ((bw_below (l := l) (Nat.le_refl w1.heap.size)).mono HB1.out.size)
      exact h2.alloc h2.size _
    have HKX : Hid (X.heap[w.heap.size]? = some (.cells bicZ 40 (0, 0))) := by
      show _ = _
      rw [← HX.out]
      exact alloc_block (((bw_below (l := l) (Nat.le_refl w1.heap.size)).block _ HLT1.out).trans HBK.out)
    have HGX : Hid (X.heap[(bw l w1).heap.size]? = some (.cells #[.string ⟨A.toArray⟩, .string ⟨B.toArray⟩, .string ⟨C.toArray⟩, .string ⟨#[]⟩] 40 (0, 0))) := by
      show _ = _
      rw [← HX.out]
      exact alloc_new _ _
    have HRX : Hid (X.rangeAt w1.heap.size 0 (cel l).toList) := by
      show World.rangeAt _ _ _ _
      rw [← HX.out]
      exact World.rangeAt_alloc HRG.out _
    have HLX : Hid (w.heap.size < (bw l w1).heap.size) := hide (Nat.lt_of_lt_of_le HLT1.out (bw_below (l := l) (Nat.le_refl w1.heap.size)).size)
    rw [HX.out]
    generalize (bw l w1).heap.size = g7 at HGX HLX ⊢
    clear HX HRG HBK HB1 hcv
    go_wp2_with fail
    have k11 : 11 ≤ cap := by omega
    have n8 : ¬ cap = 8 := by omega
    obtain ⟨D, HD⟩ : ∃ D, Hid (l.drop 8 = D) := ⟨_, hide rfl⟩
    have HDL : Hid (D.length = 3) := by show _ = _; rw [← HD.out, List.length_drop, HL11.out]
    have HPV1 : Hid (D = [88, 88, 88] → bicP l = #[.string ⟨A.toArray⟩, .string ⟨B.toArray⟩, .string ⟨C.toArray⟩, .string ⟨#[]⟩]) := hide (fun hd => by
      unfold bicP bicB
      rw [HA.out, HB.out, HCC.out, HD.out, if_pos hd]; rfl)
    have HPV2 : Hid (D ≠ [88, 88, 88] → bicP l = #[.string ⟨A.toArray⟩, .string ⟨B.toArray⟩, .string ⟨C.toArray⟩, .string ⟨D.toArray⟩]) := hide (fun hd => by
      unfold bicP bicB
      rw [HA.out, HB.out, HCC.out, HD.out, if_neg hd]; rfl)
    have hgd : decide ((8 : Int) < (l.length : Int)) = true := by have := HL11.out; simp; omega
    have hl3 : l.length - 8 = 3 := by have := HL11.out; omega
    have har := fun (W : World) (a : Option Addr) (c : Nat) => run_arrayAt (P := Tryd.prog) W 68 _ 3 a 3 c Tryd.underlying68 (Nat.le_refl _)
    have hneq := run_neq_cel Tryd.underlying68 D [88, 88, 88] HDL.out rfl
    have HOX : Hid (X.rangeAt 0 0 (cel [88, 88, 88]).toList) := hide (HO.out.below HBX.out)
    cases hq : decide (D = [88, 88, 88])
    · rw [hq] at hneq
      have HPV := hide (HPV2.out (of_decide_eq_false hq))
      clear hq HPV1 HPV2
      refine wp_region_quiet_lit (by kernel_rfl) (by kernel_rfl) ?_
      repeat (first
        | go_big_quiet_skip
        | (go_big_quiet_want; first
            | (refine quiet_load_at 68 (.tmp 37) rfl w1.heap.size 8 rfl (cel D).toList _ (fun w' ⟨n, hn⟩ => by subst hn; rw [← HD.out]; exact rng_drop2 HRX.out) Tryd.underlying68 rfl (by rw [Array.length_toList, cel_size, HDL.out]; exact Tryd.size3) ?_; rw [Array.toArray_toList]; simp only [Act.put, List.setIfInBounds_toArray, List.set_cons_zero, List.set_cons_succ]; go_big_quiet_on)
            | (refine quiet_load_at 68 (.global 0) rfl 0 0 rfl (cel [88, 88, 88]).toList _ (fun w' ⟨n, hn⟩ => by subst hn; exact HOX.out) Tryd.underlying68 rfl (by rw [Array.length_toList, cel_size]; exact Tryd.size3) ?_; rw [Array.toArray_toList]; simp only [Act.put, List.setIfInBounds_toArray, List.set_cons_zero, List.set_cons_succ]; go_big_quiet_on)
            | (go_big_quiet_op; go_big_quiet_on)))
      refine wpQuiet_nil ?_
      rintro w5 ⟨nq, rfl⟩
      have HKF : Hid ((X.drew.drewN nq).heap[w.heap.size]? = some (.cells bicZ 40 (0, 0))) := HKX
      have HGF : Hid ((X.drew.drewN nq).heap[g7]? = some (.cells #[.string ⟨A.toArray⟩, .string ⟨B.toArray⟩, .string ⟨C.toArray⟩, .string ⟨#[]⟩] 40 (0, 0))) := HGX
      have HBF : Hid (Below w.heap.size w (X.drew.drewN nq)) := hide (below_drewN HBX.out.drew _)
      have HRY : Hid ((X.drew.drewN nq).rangeAt w1.heap.size 0 (cel l).toList) := HRX
      generalize X.drew.drewN nq = Y at HKF HGF HBF HRY ⊢
      have hcv3 : ∀ c : Nat, (convert 66 9 (.slice (some ⟨w1.heap.size, 8, none⟩) 3 c)).run Tryd.prog Y = .ok (.string ⟨D.toArray⟩) Y := fun c => by
        have h := conv_mid (W := Y) (l := l) (g := w1.heap.size) (a := 8) (n := 3) HRY.out (by have := HL11.out; omega) c
        rw [HD.out, List.take_of_length_le (by rw [HDL.out]; exact Nat.le_refl _)] at h; exact h
      have c3 : Y.cell? ⟨g7, 3, none⟩ = some (.string ⟨#[]⟩) := cell_of_row _ _ 3 _ _ _ HGF.out
      have f3 : Y.frozen? ⟨g7, 3, none⟩ = false := by simp only [World.frozen?, HGF.out]; rfl
      have r0 : Y.rowIs g7 40 4 (fun i => (#[.string ⟨A.toArray⟩, .string ⟨B.toArray⟩, .string ⟨C.toArray⟩, .string ⟨#[]⟩] : Array Value).getD i undef) := ⟨_, HGF.out, rfl, fun i hi => by
        match i, hi with
        | 0, _ => rfl
        | 1, _ => rfl
        | 2, _ => rfl
        | 3, _ => rfl⟩
      have r1 := r0.set 3 (.string ⟨D.toArray⟩)
      have HRD : Hid ((Y.setCell ⟨g7, 3, none⟩ (.string ⟨D.toArray⟩)).rangeAt g7 0 [.string ⟨A.toArray⟩, .string ⟨B.toArray⟩, .string ⟨C.toArray⟩, .string ⟨D.toArray⟩]) := hide (fun j v hv => by
        match j, hv with
        | 0, hv => simp at hv; subst hv; exact r1.cell (i := 0) (by omega)
        | 1, hv => simp at hv; subst hv; exact r1.cell (i := 1) (by omega)
        | 2, hv => simp at hv; subst hv; exact r1.cell (i := 2) (by omega)
        | 3, hv => simp at hv; subst hv; exact r1.cell (i := 3) (by omega))
      have HKF2 := hide ((((Below.refl g7 Y).setCell (p := ⟨g7, 3, none⟩) (Nat.le_refl _) (.string ⟨D.toArray⟩)).block w.heap.size HLX.out).trans HKF.out)
      have HBF2 := hide (HBF.out.setCell (p := ⟨g7, 3, none⟩) (Nat.le_of_lt HLX.out) (.string ⟨D.toArray⟩))
      clear r0 r1 HKF HBF HGF
      have HKF := HKF2
      have HBF := HBF2
      go_wp2_with (first
        | (refine wpList_load_mid rfl 40 (.tmp 7) rfl g7 0 rfl [.string ⟨A.toArray⟩, .string ⟨B.toArray⟩, .string ⟨C.toArray⟩, .string ⟨D.toArray⟩] _ HRD.out Tryd.underlying40 rfl Tryd.size4 ?_)
        | (refine wpList_store_row rfl 40 (.tmp 2) _ rfl w.heap.size #[.string ⟨A.toArray⟩, .string ⟨B.toArray⟩, .string ⟨C.toArray⟩, .string ⟨D.toArray⟩] rfl rfl _ _ HKF.out Tryd.size4 rfl (by simp [Value.oneCell']) ?_))
      have hld := run_loadVar_row (P := Tryd.prog) ((Y.setCell ⟨g7, 3, none⟩ (.string ⟨D.toArray⟩)).setRow w.heap.size #[.string ⟨A.toArray⟩, .string ⟨B.toArray⟩, .string ⟨C.toArray⟩, .string ⟨D.toArray⟩]) w.heap.size 40 40 _ (0, 0) _ (setRow_heap _ _ _ _ _ _ HKF.out) Tryd.underlying40 rfl Tryd.size4
      refine bodyPost_ret (v := .tuple #[.agg #[.string ⟨A.toArray⟩, .string ⟨B.toArray⟩, .string ⟨C.toArray⟩, .string ⟨D.toArray⟩], .nilIface]) ?_ rfl ⟨ret_tv (by rw [HPV.out]) rfl, below_setRow HBF.out (Nat.le_refl _) _⟩
      rw [results_cell_tmp rfl]
      simp [asAddr, Result.andThen, hld]
    · rw [hq] at hneq
      have HPV := hide (HPV1.out (of_decide_eq_true hq))
      clear hq HPV1 HPV2
      refine wp_region_quiet_lit (by kernel_rfl) (by kernel_rfl) ?_
      repeat (first
        | go_big_quiet_skip
        | (go_big_quiet_want; first
            | (refine quiet_load_at 68 (.tmp 37) rfl w1.heap.size 8 rfl (cel D).toList _ (fun w' ⟨n, hn⟩ => by subst hn; rw [← HD.out]; exact rng_drop2 HRX.out) Tryd.underlying68 rfl (by rw [Array.length_toList, cel_size, HDL.out]; exact Tryd.size3) ?_; rw [Array.toArray_toList]; simp only [Act.put, List.setIfInBounds_toArray, List.set_cons_zero, List.set_cons_succ]; go_big_quiet_on)
            | (refine quiet_load_at 68 (.global 0) rfl 0 0 rfl (cel [88, 88, 88]).toList _ (fun w' ⟨n, hn⟩ => by subst hn; exact HOX.out) Tryd.underlying68 rfl (by rw [Array.length_toList, cel_size]; exact Tryd.size3) ?_; rw [Array.toArray_toList]; simp only [Act.put, List.setIfInBounds_toArray, List.set_cons_zero, List.set_cons_succ]; go_big_quiet_on)
            | (go_big_quiet_op; go_big_quiet_on)))
      refine wpQuiet_nil ?_
      rintro w5 ⟨nq, rfl⟩
      have HKF : Hid ((X.drew.drewN nq).heap[w.heap.size]? = some (.cells bicZ 40 (0, 0))) := HKX
      have HGF : Hid ((X.drew.drewN nq).heap[g7]? = some (.cells #[.string ⟨A.toArray⟩, .string ⟨B.toArray⟩, .string ⟨C.toArray⟩, .string ⟨#[]⟩] 40 (0, 0))) := HGX
      have HBF : Hid (Below w.heap.size w (X.drew.drewN nq)) := hide (below_drewN HBX.out.drew _)
      have HRY : Hid ((X.drew.drewN nq).rangeAt w1.heap.size 0 (cel l).toList) := HRX
      generalize X.drew.drewN nq = Y at HKF HGF HBF HRY ⊢
      go_wp2_with (first
        | (refine wpList_load_row rfl 40 (.tmp 7) rfl g7 rfl _ #[.string ⟨A.toArray⟩, .string ⟨B.toArray⟩, .string ⟨C.toArray⟩, .string ⟨#[]⟩] _ _ HGF.out Tryd.underlying40 rfl Tryd.size4 ?_)
        | (refine wpList_store_row rfl 40 (.tmp 2) _ rfl w.heap.size #[.string ⟨A.toArray⟩, .string ⟨B.toArray⟩, .string ⟨C.toArray⟩, .string ⟨#[]⟩] rfl rfl _ _ HKF.out Tryd.size4 rfl (by simp [Value.oneCell']) ?_))
      have hld := run_loadVar_row (P := Tryd.prog) (Y.setRow w.heap.size #[.string ⟨A.toArray⟩, .string ⟨B.toArray⟩, .string ⟨C.toArray⟩, .string ⟨#[]⟩]) w.heap.size 40 40 _ (0, 0) _ (setRow_heap _ _ _ _ _ _ HKF.out) Tryd.underlying40 rfl Tryd.size4
      refine bodyPost_ret (v := .tuple #[.agg #[.string ⟨A.toArray⟩, .string ⟨B.toArray⟩, .string ⟨C.toArray⟩, .string ⟨#[]⟩], .nilIface]) ?_ rfl ⟨ret_tv (by rw [HPV.out]) rfl, below_setRow HBF.out (Nat.le_refl _) _⟩
      rw [results_cell_tmp rfl]
      simp [asAddr, Result.andThen, hld]
theorem bic_any (l : List UInt8) (w : World) (hO : HeadOffice w) (hl : l.length ≤ 140737488355328) :
    Calls Tryd.prog 27 #[.string ⟨l.toArray⟩] w fun e w' => e = .returned (.tuple #[.agg (bicV l), errF (formR l (bicF l))]) ∧ Below w.heap.size w w' := by
  by_cases h : Form l (bicF l)
  · rw [bicV_ok h, form_eq h, errF_ok]; exact bic_good l w hO h
  · exact bic_bad l w hl h
end Go.Proofs.YtdfhfjkcafchiaaDoor.LC
