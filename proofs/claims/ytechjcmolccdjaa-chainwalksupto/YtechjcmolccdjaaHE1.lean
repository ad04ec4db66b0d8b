/-
  My own text: the document's Done and Next; a chain that is laid, and its row.
-/
import Derived.Test.YtechjcmolccdjaaHD5
namespace Go.Proofs.Ytechjcmolccdjaa
open Go.RowKit Go.Shelf

theorem doAc_put (n : Int) (s : List UInt8) (L : List Ver) : doAc (false, n, s) L = ptL n s L := by unfold doAc ptL; rw [if_neg (by simp)]
theorem doAc_prune (n : Int) (s : List UInt8) (L : List Ver) : doAc (true, n, s) L = L.drop (ab n L - 1) := by unfold doAc; rw [if_pos rfl]
set_option maxRecDepth 100000 in
set_option maxHeartbeats 1000000 in
theorem refDone_any (a : Ac) (v : Value) (L : List Ver) (B k : Nat) (w : World) (hv : OR w B 36 2 v L.length (vc L)) (hk : LK L k) (hl : k < 5864062014804) (hB : B ≤ w.heap.size) :
    Calls Try.prog 11 #[v, .agg #[.bool a.1, .int .i64 a.2.1, .string ⟨a.2.2.toArray⟩]] w fun e w' => ∃ a' cap', e = .returned (.slice a' (doAc a L).length cap') ∧ OR w' B 36 2 (.slice a' (doAc a L).length cap') (doAc a L).length (vc (doAc a L)) ∧ Below w.heap.size w w' ∧ (∀ g, (Value.slice a' (doAc a L).length cap').ownBlock = some g → v.ownBlock = some g ∨ w.heap.size ≤ g) := by
  obtain ⟨pr, N, V⟩ := a
  dsimp only
  obtain ⟨W1, hW1⟩ : ∃ W1, w.alloc (.cells #[.bool pr, .int .i64 N, .string ⟨V.toArray⟩] 34) = W1 := ⟨_, rfl⟩
  have hb1 : Below w.heap.size w W1 := by rw [← hW1]; exact (Below.refl _ _).alloc (Nat.le_refl _) _
  have hk1 : W1.heap[w.heap.size]? = some (.cells #[.bool pr, .int .i64 N, .string ⟨V.toArray⟩] 34 (0, 0)) := by rw [← hW1]; exact alloc_newV w _
  have d0 : W1.cell? ⟨w.heap.size, 0, none⟩ = some (.bool pr) := by rw [cell_of_row _ _ 0 _ _ _ hk1]; rfl
  have d1 : W1.cell? ⟨w.heap.size, 1, none⟩ = some (.int .i64 N) := by rw [cell_of_row _ _ 1 _ _ _ hk1]; rfl
  have d2 : W1.cell? ⟨w.heap.size, 2, none⟩ = some (.string ⟨V.toArray⟩) := by rw [cell_of_row _ _ 2 _ _ _ hk1]; rfl
  have HO1 := hide (hv.later hb1)
  have HB1 := hide hb1
  have HBB : Hid (B ≤ W1.heap.size) := hide (Nat.le_trans hB hb1.size)
  have HPR := hide (refPrune_any v L N B k W1 HO1.out hk (Nat.le_of_lt hl) HBB.out)
  have HPT := hide (refPut_any v L N V B k W1 HO1.out hk hl HBB.out)
  obtain ⟨av, cv, rfl⟩ := hv.slc
  obtain ⟨ln, hln⟩ : ∃ ln, ln = L.length := ⟨_, rfl⟩
  rw [← hln] at HPR HPT ⊢
  clear hv hk hl hB hb1 hk1 HO1 hln
  cases pr
  · rw [doAc_put]
    obtain ⟨K, hK⟩ : ∃ K, K = ptL N V L := ⟨_, rfl⟩
    rw [← hK] at HPT ⊢
    clear HPR hK
    go_enter Try.func11, Try.ntmps11
    go_wp2_with fail
    refine HPT.out.mono ?_
    rintro e w2 ⟨v2, rfl, ho2, hb2, hfr2⟩
    obtain ⟨a2, c2, rfl⟩ := ho2.slc
    have HFR : Hid (∀ g, (Value.slice a2 K.length c2).ownBlock = some g → (Value.slice av ln cv).ownBlock = some g ∨ w.heap.size ≤ g) := hide (fun g hg => (hfr2 g hg).imp id (fun h => Nat.le_trans HB1.out.size h))
    clear hfr2
    have O2 := hide ho2
    have B2 := hide (HB1.out.trans (hb2.mono HB1.out.size))
    obtain ⟨l2, hl2⟩ : ∃ l2, l2 = K.length := ⟨_, rfl⟩
    rw [← hl2] at O2 HFR ⊢
    have HL2 := hide hl2
    clear ho2 hb2 d0 d1 d2 hW1 hl2 HPT
    go_wp2_with fail
    go_ret
    exact ⟨a2, c2, by rw [← HL2.out]; rfl, by rw [← HL2.out]; exact O2.out, B2.out, by rw [← HL2.out]; exact HFR.out⟩
  · rw [doAc_prune]
    obtain ⟨K, hK⟩ : ∃ K, K = L.drop (ab N L - 1) := ⟨_, rfl⟩
    rw [← hK] at HPR ⊢
    clear HPT hK
    go_enter Try.func11, Try.ntmps11
    go_wp2_with fail
    refine HPR.out.mono ?_
    rintro e w2 ⟨v2, rfl, ho2, hb2, hfr2⟩
    obtain ⟨a2, c2, rfl⟩ := ho2.slc
    have HFR : Hid (∀ g, (Value.slice a2 K.length c2).ownBlock = some g → (Value.slice av ln cv).ownBlock = some g ∨ w.heap.size ≤ g) := hide (fun g hg => (hfr2 g hg).imp id (fun h => Nat.le_trans HB1.out.size h))
    clear hfr2
    have O2 := hide ho2
    have B2 := hide (HB1.out.trans (hb2.mono HB1.out.size))
    obtain ⟨l2, hl2⟩ : ∃ l2, l2 = K.length := ⟨_, rfl⟩
    rw [← hl2] at O2 HFR ⊢
    have HL2 := hide hl2
    clear ho2 hb2 d0 d1 d2 hW1 hl2 HPR
    go_wp2_with fail
    go_ret
    exact ⟨a2, c2, by rw [← HL2.out]; rfl, by rw [← HL2.out]; exact O2.out, B2.out, by rw [← HL2.out]; exact HFR.out⟩
/-- The version behind a number. -/
def nx (last : Int) (L : List Ver) : Option Ver := L[ab last L]?
def nxP (last : Int) (L : List Ver) : Ver := match nx last L with | some p => p | none => (0, [])
def nxB (last : Int) (L : List Ver) : Bool := decide (ab last L < L.length)
def nbI (m k : Nat) : Int := if m < k then (m : Int) else -1
theorem Try.sizeVersion : (Try.prog.info? 36).map (·.size) = some 2 := by kernel_rfl
theorem setRowR {w : World} {g : Nat} {c c' : Array Value} (h : w.heap[g]? = some (.cells c 36 (0, 0))) : (w.setRow g c').heap[g]? = some (.cells c' 36 (0, 0)) := setRow_heap w g c c' _ _ h
set_option maxRecDepth 100000 in
set_option maxHeartbeats 2000000 in
theorem refNext_any (v : Value) (L : List Ver) (last : Int) (w : World) (hv : RV w v L) (hr : Ris L) (hl : L.length ≤ 4611686018427387904) :
    Calls Try.prog 14 #[v, .int .i64 last] w fun e w' => e = .returned (.tuple #[.agg #[.int .i64 (nxP last L).1, .string ⟨(nxP last L).2.toArray⟩], .bool (nxB last L)]) ∧ Below w.heap.size w w' := by
  obtain ⟨a, cap, rfl, hc⟩ := hv
  obtain ⟨W0, hW0⟩ : ∃ W0, w.alloc (.cells #[.int .i64 0, .string ⟨#[]⟩] 36) = W0 := ⟨_, rfl⟩
  have HB0 : Hid (Below w.heap.size w W0) := hide (by rw [← hW0]; exact (Below.refl _ _).alloc (Nat.le_refl _) _)
  have HK0 : Hid (W0.heap[w.heap.size]? = some (.cells #[.int .i64 0, .string ⟨#[]⟩] 36 (0, 0))) := hide (by rw [← hW0]; exact alloc_newV w _)
  have HC := hide hc
  have HR := hide hr
  have HL := hide hl
  have HML := hide (ab_le last L)
  obtain ⟨m, hm⟩ : ∃ m, m = ab last L := ⟨_, rfl⟩
  have HM := hide hm
  clear hc hr hl hm
  go_enter Try.func14, Try.ntmps14
  go_wp2_with fail
  go_loopw [6, 7] (fun b i wr => ∃ k : Nat, k ≤ L.length ∧ i = .int .i64 (k : Int) ∧ b = .int .i64 (nbI m k) ∧ Hid (Below w.heap.size w wr) ∧ Hid (wr.heap[w.heap.size]? = some (.cells #[.int .i64 0, .string ⟨#[]⟩] 36 (0, 0)))) (fun _ i _ => L.length - (intOf i).toNat)
  case atStart => exact ⟨0, Nat.zero_le _, rfl, by unfold nbI; rw [if_neg (by omega)], HB0, HK0⟩
  case round =>
    clear HB0 HK0
    obtain ⟨k, hk, rfl, rfl, HB, HK⟩ := hrel
    by_cases hlt : k < L.length
    · obtain ⟨⟨N, V⟩, hp⟩ : ∃ p, L[k]? = some p := ⟨_, List.getElem?_eq_getElem hlt⟩
      obtain ⟨g, off, rfl, q1, _⟩ := HC.out k _ hp
      have hd1 : decide ((k : Int) < (L.length : Int)) = true := by rw [decide_eq_true_eq]; omega
      have k0 : (0 : Int) ≤ (k : Int) := by omega
      have k1 : (k : Int) < (L.length : Int) := by omega
      have z1 := (HB.out.cell (World.block_lt_of_cell? _ _ q1)).trans q1
      dsimp only at z1
      have wk : wrap64 ((k : Int) + 1) = (k : Int) + 1 := by have := HL.out; unfold wrap64; omega
      rcases Nat.lt_trichotomy k m with hkm | hkm | hkm
      · have hd2 : decide (last < N) = false := decide_eq_false (by have := ab_lo (n := last) (i := k) (by rw [← HM.out]; exact hkm) hp; dsimp only at this; omega)
        have e1 : nbI m k = -1 := by unfold nbI; rw [if_neg (by omega)]
        have HE : Hid (Value.int .i64 (-1) = .int .i64 (nbI m (k + 1))) := hide (by unfold nbI; rw [if_neg (by omega)])
        rw [e1]
        clear e1 hkm hp q1
        go_wp2_with fail
        go_quiet (fail)
        have HB2 := hide (below_dq HB.out nq)
        have HK2 : Hid ((wr.drewN nq).heap[w.heap.size]? = some (.cells #[.int .i64 0, .string ⟨#[]⟩] 36 (0, 0))) := HK
        go_wp2_with fail
        go_roundw
        case rel => exact ⟨k + 1, by omega, by go_num, HE.out, HB2, HK2⟩
        case measure => rw [wk]; simp [intOf]; omega
      · have hd2 : decide (last < N) = true := decide_eq_true (by have := ab_hi (n := last) (i := k) HR.out (by rw [← HM.out]; omega) hp; dsimp only at this; exact this)
        have e1 : nbI m k = -1 := by unfold nbI; rw [if_neg (by omega)]
        have HE : Hid (Value.int .i64 (k : Int) = .int .i64 (nbI m (k + 1))) := hide (by unfold nbI; rw [if_pos (by omega), hkm])
        rw [e1]
        clear e1 hkm hp q1
        go_wp2_with fail
        go_quiet (fail)
        have HB2 := hide (below_dq HB.out nq)
        have HK2 : Hid ((wr.drewN nq).heap[w.heap.size]? = some (.cells #[.int .i64 0, .string ⟨#[]⟩] 36 (0, 0))) := HK
        go_wp2_with fail
        go_roundw
        case rel => exact ⟨k + 1, by omega, by go_num, HE.out, HB2, HK2⟩
        case measure => rw [wk]; simp [intOf]; omega
      · obtain ⟨⟨M, MV⟩, hpm⟩ : ∃ p, L[m]? = some p := ⟨_, List.getElem?_eq_getElem (by omega)⟩
        obtain ⟨_, _, ea, q2, _⟩ := HC.out m _ hpm
        cases ea
        have z2 := (HB.out.cell (World.block_lt_of_cell? _ _ q2)).trans q2
        dsimp only at z2
        have hd2 : decide (last < N) = true := decide_eq_true (by have := ab_hi (n := last) (i := k) HR.out (by rw [← HM.out]; omega) hp; dsimp only at this; exact this)
        have hd3 : decide (N < M) = false := decide_eq_false (by have := ris_lt HR.out hpm hp hkm; dsimp only at this; omega)
        have hd4 : decide ((m : Int) < 0) = false := decide_eq_false (by omega)
        have m0 : (0 : Int) ≤ (m : Int) := by omega
        have m1 : (m : Int) < (L.length : Int) := by omega
        have e1 : nbI m k = (m : Int) := by unfold nbI; rw [if_pos (by omega)]
        have HE : Hid (Value.int .i64 (m : Int) = .int .i64 (nbI m (k + 1))) := hide (by unfold nbI; rw [if_pos (by omega)])
        rw [e1]
        clear e1 hkm hp q1 hpm q2
        go_wp2_with fail
        go_quiet (fail)
        have HB2 := hide (below_dq HB.out nq)
        have HK2 : Hid ((wr.drewN nq).heap[w.heap.size]? = some (.cells #[.int .i64 0, .string ⟨#[]⟩] 36 (0, 0))) := HK
        go_wp2_with fail
        go_roundw
        case rel => exact ⟨k + 1, by omega, by go_num, HE.out, HB2, HK2⟩
        case measure => rw [wk]; simp [intOf]; omega
    · have e : k = L.length := by omega
      subst e
      have d9 : decide ((L.length : Int) < (L.length : Int)) = false := decide_eq_false (by omega)
      by_cases hmL : m < L.length
      · obtain ⟨⟨M, MV⟩, hpm⟩ : ∃ p, L[m]? = some p := ⟨_, List.getElem?_eq_getElem hmL⟩
        have e1 : nbI m L.length = (m : Int) := by unfold nbI; rw [if_pos hmL]
        obtain ⟨g, off, rfl, q1, q2⟩ := HC.out m _ hpm
        have z1 := (HB.out.cell (World.block_lt_of_cell? _ _ q1)).trans q1
        have z2 := (HB.out.cell (World.block_lt_of_cell? _ _ q2)).trans q2
        dsimp only at z1 z2
        have hd4 : decide ((m : Int) < 0) = false := decide_eq_false (by omega)
        have m0 : (0 : Int) ≤ (m : Int) := by omega
        have m1 : (m : Int) < (L.length : Int) := by omega
        have HE : Hid (nxP last L = (M, MV) ∧ nxB last L = true) := hide ⟨by unfold nxP nx; rw [← HM.out, hpm], by unfold nxB; rw [← HM.out]; exact decide_eq_true hmL⟩
        rw [e1]
        clear e1 hpm q1 q2 hmL
        go_wp2_with (refine wpList_store_row rfl 36 (.tmp 4) _ rfl w.heap.size #[.int .i64 M, .string ⟨MV.toArray⟩] rfl rfl _ _ HK.out Try.sizeVersion rfl (by simp [Value.oneCell']) ?_)
        rw [HE.out.1, HE.out.2]
        refine bodyPost_ret (v := .tuple #[.agg #[.int .i64 M, .string ⟨MV.toArray⟩], .bool true]) ?_ rfl ⟨rfl, belowRow HB.out (Nat.le_refl _)⟩
        rw [results_cell_tmp rfl]
        simp only [asAddr]
        have hld := run_loadVar_row (P := Try.prog) (wr.setRow w.heap.size #[.int .i64 M, .string ⟨MV.toArray⟩]) w.heap.size 36 36 #[.int .i64 M, .string ⟨MV.toArray⟩] (0, 0) _ (setRowR HK.out) Try.underlying36 rfl Try.sizeVersion
        simp [Result.andThen, hld]
      · have e1 : nbI m L.length = -1 := by unfold nbI; rw [if_neg hmL]
        have HE : Hid (nxP last L = (0, []) ∧ nxB last L = false) := hide ⟨by unfold nxP nx; rw [← HM.out, List.getElem?_eq_none (by omega)], by unfold nxB; rw [← HM.out]; exact decide_eq_false hmL⟩
        rw [e1]
        clear e1 hmL
        go_wp2_with (refine wpList_store_row rfl 36 (.tmp 4) _ rfl w.heap.size #[.int .i64 0, .string ⟨#[]⟩] rfl rfl _ _ HK.out Try.sizeVersion rfl (by simp [Value.oneCell']) ?_)
        rw [HE.out.1, HE.out.2]
        refine bodyPost_ret (v := .tuple #[.agg #[.int .i64 0, .string ⟨#[]⟩], .bool false]) ?_ rfl ⟨rfl, belowRow HB.out (Nat.le_refl _)⟩
        rw [results_cell_tmp rfl]
        simp only [asAddr]
        have hld := run_loadVar_row (P := Try.prog) (wr.setRow w.heap.size #[.int .i64 0, .string ⟨#[]⟩]) w.heap.size 36 36 #[.int .i64 0, .string ⟨#[]⟩] (0, 0) _ (setRowR HK.out) Try.underlying36 rfl Try.sizeVersion
        simp [Result.andThen, hld]
end Go.Proofs.Ytechjcmolccdjaa
