/-
  My own text: the law on sums.
-/
import Derived.Test.YtbkgegiglegnjaaDoorWS1
import Derived.Test.YtbkgegiglegnjaaDoorWS2
namespace Go.Proofs.YtbkgegiglegnjaaDoor
open Go.RowKit Go.Extern

set_option maxRecDepth 100000 in
set_option maxHeartbeats 2000000 in
theorem sum_law (v u : Value) (l m : List UInt8) (w : World) (hv : RB w v l) (hu : RB w u m) (hT : Tab w) (hl : l.length ≤ 140737488355300) :
    Calls Tryd.prog 4 #[v, u] w fun e w' => e = .returned (.bool true) ∧ Below w.heap.size w w' := by
  have HL := hide (lentBytes_any v l w hv hl)
  have HV := hide hv
  have HT := hide hT
  obtain ⟨gv, hgv⟩ := hv
  have HGV := hide hgv
  obtain ⟨av, cv, rfl, _, _⟩ := hgv
  obtain ⟨bu, au, cu, rfl, _, hr⟩ := hu
  clear hT
  go_enter Tryd.func4, Tryd.ntmps4
  go_wp2_with fail
  refine HL.out.mono ?_
  rintro e w1 ⟨g, cap, rfl, hL, hB⟩
  have HLt := hide hL
  have HB1 := hide hB
  have HT1 := hide (HT.out.below hB)
  have HS1 := hide (sum_any g _ l w1 hL.rg HT1.out (by omega))
  have HR1 := hide (refSum_any gv _ l w1 (HGV.out.later hB) (by omega))
  have HK1 := hide (keptBytes_any g cap _ _ l w1 hL (HV.out.later hB) hl)
  have HW1 := hide (works_any w1)
  have hne : (((sumB l).toNat : Int) != ((sumB l).toNat : Int)) = false := by simp
  obtain ⟨X, hX⟩ : ∃ X : Int, Hid (((sumB l).toNat : Int) = X) := ⟨_, hide rfl⟩
  rw [hX.out] at HS1 HR1 hne
  clear hL hB
  go_wp2_with fail
  refine HS1.out.mono ?_
  rintro e w2 ⟨rfl, hw⟩
  obtain rfl := hw.symm
  go_wp2_with fail
  refine HR1.out.mono ?_
  rintro e w2 ⟨rfl, hw⟩
  obtain rfl := hw.symm
  go_wp2_with fail
  refine HS1.out.mono ?_
  rintro e w2 ⟨rfl, hw⟩
  obtain rfl := hw.symm
  go_wp2_with fail
  refine HR1.out.mono ?_
  rintro e w2 ⟨rfl, hw⟩
  obtain rfl := hw.symm
  go_wp2_with fail
  refine HK1.out.mono ?_
  rintro e w2 ⟨rfl, hw⟩
  obtain rfl := hw.symm
  go_wp2_with fail
  refine HW1.out.mono ?_
  rintro e w2 ⟨rfl, hb2⟩
  have HB2 := hide (HB1.out.trans (hb2.mono HB1.out.size))
  have HL2 := hide (HLt.out.later hb2)
  have hwg : w.heap.size ≤ g := HLt.out.base
  clear hb2 HS1 HR1 HK1 HW1 HB1 HLt HL HV HGV hne
  have HC2 : Hid (l.length + 16 ≤ cap) := hide HL2.out.parts.2.1
  have hcap : (l.length : Int) ≤ (cap : Int) := by have := HC2.out; omega
  go_wp2_with fail
  go_loopw [6] (fun i wr => ∃ (k : Nat) (L : List UInt8), i = .int .i64 k ∧ k ≤ l.length ∧ Hid (L.length = l.length) ∧ Hid (LentB wr w.heap.size g cap L) ∧ Hid (Below w.heap.size w wr)) (fun i _ => l.length - (intOf i).toNat)
  case atStart => exact ⟨0, l, rfl, Nat.zero_le _, hide rfl, HL2, HB2⟩
  case round =>
    clear HL2 HB2
    obtain ⟨k, L, rfl, hk, HLen, HL, HB⟩ := hrel
    have hfin : ∀ W : World, LentB W w.heap.size g cap L → Tab W → (Calls Tryd.prog 21 #[.slice (some ⟨g, 0, none⟩) l.length cap] W fun e w' => e = .returned (.int .u32 ((sumB L).toNat : Int)) ∧ w' = W) ∧ (Calls Tryd.prog 22 #[.slice (some ⟨g, 0, none⟩) l.length cap] W fun e w' => e = .returned (.int .u32 ((sumB L).toNat : Int)) ∧ w' = W) := fun W h hT => by
      have h1 := h.rg
      rw [HLen.out] at h1
      exact ⟨sum_any g _ L W h1 hT (by rw [HLen.out]; omega), refSum_any g _ L W h1 (by rw [HLen.out]; omega)⟩
    have HF := hide (hfin wr HL.out (HT.out.below HB.out))
    clear hfin
    have HX : ∃ X : Int, Hid (((sumB L).toNat : Int) = X) := ⟨_, hide rfl⟩
    obtain ⟨X, hX⟩ := HX
    rw [hX.out] at HF
    have heq : (X == X) = true := by simp
    by_cases hlt : k < l.length
    · have dk : decide ((k : Int) < (l.length : Int)) = true := by rw [decide_eq_true_eq]; omega
      by_cases hlm : k < m.length
      · have dm : decide ((k : Int) < (m.length : Int)) = true := by rw [decide_eq_true_eq]; omega
        obtain ⟨c, hc⟩ := some_at hlm
        rcases hr with h0 | ⟨off, rfl, hbl, hcell⟩
        · rw [h0] at hlm; simp at hlm
        have d1 := (HB.out.cell (p := ⟨bu, off + k, none⟩) hbl).trans (hcell k c hc)
        obtain ⟨hg1, hg2, hg3, hg4⟩ := HL.out.parts
        obtain ⟨c0, hc0⟩ := some_at (l := L ++ marksB) (k := k) (by rw [List.length_append, HLen.out]; omega)
        have d2 := hg3 k c0 hc0
        have f2 := hg4 k
        have HL1 : Hid (LentB (wr.setCell ⟨g, k, none⟩ (.int .u8 (c.toNat : Int))) w.heap.size g cap (L.set k c)) := hide (HL.out.set (by rw [HLen.out]; exact hlt))
        have HLn1 : Hid ((L.set k c).length = l.length) := hide (by rw [List.length_set]; exact HLen.out)
        have HB1 := hide (HB.out.setCell (p := ⟨g, k, none⟩) hwg (.int .u8 (c.toNat : Int)))
        clear hcell hc hg3 hg4 hc0 HF heq HL HB
        go_wp2_with fail
        go_roundw
        case rel => exact ⟨k + 1, _, by go_num, by omega, HLn1, HL1, HB1⟩
        case measure => simp [intOf]; omega
      · have dm : decide ((k : Int) < (m.length : Int)) = false := by rw [decide_eq_false_iff_not]; omega
        clear hr
        go_wp2_with fail
        refine HF.out.1.mono ?_
        rintro e w4 ⟨rfl, hw⟩
        obtain rfl := hw.symm
        go_wp2_with fail
        refine HF.out.2.mono ?_
        rintro e w4 ⟨rfl, hw⟩
        obtain rfl := hw.symm
        go_wp2_with fail
        go_ret
        exact ⟨rfl, HB.out⟩
    · have dk : decide ((k : Int) < (l.length : Int)) = false := by rw [decide_eq_false_iff_not]; omega
      clear hr
      go_wp2_with fail
      refine HF.out.1.mono ?_
      rintro e w4 ⟨rfl, hw⟩
      obtain rfl := hw.symm
      go_wp2_with fail
      refine HF.out.2.mono ?_
      rintro e w4 ⟨rfl, hw⟩
      obtain rfl := hw.symm
      go_wp2_with fail
      go_ret
      exact ⟨rfl, HB.out⟩
end Go.Proofs.YtbkgegiglegnjaaDoor
