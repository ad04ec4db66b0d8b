/-
  My own text: the document's Walk.
-/
import Derived.Test.YtechjcmolccdjaaHE2
namespace Go.Proofs.Ytechjcmolccdjaa
open Go.RowKit Go.Shelf

theorem nx_yes {last : Int} {L : List Ver} (h : nxB last L = true) : nx last L = some (nxP last L) := by
  unfold nxB at h
  have h' := of_decide_eq_true h
  unfold nxP
  obtain ⟨p, hp⟩ : ∃ p, nx last L = some p := ⟨_, List.getElem?_eq_getElem h'⟩
  rw [hp]
theorem nx_no {last : Int} {L : List Ver} (h : nxB last L = false) : nx last L = none := by
  unfold nxB at h
  have h' := of_decide_eq_false h
  exact List.getElem?_eq_none (by omega)
/-- What Walk answers. -/
abbrev WalkTo (acts : List Ac) (L : List Ver) (stop : Int) (B : Nat) (w : World) (e : Ending) (w' : World) : Prop :=
  ∃ (U : List Ver) (a1 : Option Addr) (c1 : Nat) (a2 : Option Addr) (c2 : Nat), e = .returned (.tuple #[.slice a1 U.length c1, .slice a2 (stA acts L U.length).length c2]) ∧ WS acts L stop U ∧ WEnd acts L stop U ∧ OR w' B 36 2 (.slice a1 U.length c1) U.length (vc U) ∧ OR w' B 36 2 (.slice a2 (stA acts L U.length).length c2) (stA acts L U.length).length (vc (stA acts L U.length)) ∧ Below w.heap.size w w'
set_option maxRecDepth 100000 in
set_option maxHeartbeats 4000000 in
theorem refWalk_any (v va : Value) (acts : List Ac) (L : List Ver) (stop : Int) (B j : Nat) (w : World) (hv : OR w B 36 2 v L.length (vc L)) (hva : RAc w va acts) (hk : LK L j) (hN : ∀ a ∈ acts, a.2.1 ≤ 9223372036854775807) (hl : j + 2 * acts.length + 2 ≤ 5864062014804) (hB : B ≤ w.heap.size) :
    Calls Try.prog 6 #[v, va, .int .i64 stop] w (WalkTo acts L stop B w) := by
  obtain ⟨a0, c0, rfl⟩ := hv.slc
  obtain ⟨pa, pcap, rfl, hpc⟩ := hva
  obtain ⟨i0, hi, hiz⟩ := Option.map_eq_some_iff.1 Try.infoVersion
  simp only [Prod.mk.injEq] at hiz
  obtain ⟨hz0, hz1, hz2⟩ := hiz
  have HI := hide (And.intro hi (And.intro hz0 (And.intro hz1 hz2)))
  have HO0 := hide hv
  have HPC := hide hpc
  have HLK := hide (fun k => stA_LK hk hN k)
  have HL := hide hl
  have HBB := hide hB
  clear hv hpc hk hN hl hB hi hz0 hz1 hz2
  go_enter Try.func6, Try.ntmps6
  go_wp2_with fail
  go_loopw [0, 8, 9, 10] (fun l o la i wr => ∃ (U : List Ver) (a1 : Option Addr) (c1 : Nat) (a2 : Option Addr) (c2 : Nat), i = .int .i64 (U.length : Int) ∧ o = .slice a1 U.length c1 ∧ la = .int .i64 (lastN U) ∧ l = .slice a2 (stA acts L U.length).length c2 ∧ Hid (WS acts L stop U) ∧ Hid (1 ≤ U.length → (U.length : Int) ≠ stop) ∧ Hid (OR wr B 36 2 (.slice a2 (stA acts L U.length).length c2) (stA acts L U.length).length (vc (stA acts L U.length))) ∧ Hid (OR wr w.heap.size 36 2 (.slice a1 U.length c1) U.length (vc U)) ∧ Hid (∀ g, (Value.slice a1 U.length c1).ownBlock = some g → (Value.slice a2 (stA acts L U.length).length c2).ownBlock ≠ some g) ∧ Hid (Below w.heap.size w wr)) (fun _ _ _ i _ => j + 2 * acts.length + 1 - (intOf i).toNat)
  case atStart => exact ⟨[], none, 0, a0, c0, rfl, rfl, rfl, by rw [List.length_nil, stA_zero], hide (WS.nil _ _ _), hide (fun h => by simp at h), hide (by rw [List.length_nil, stA_zero]; exact HO0.out), hide (OR.nil _ _ _ _), hide (fun g hg => by cases hg), hide (Below.refl _ _)⟩
  case round =>
    clear HO0
    obtain ⟨U, a1, c1, a2, c2, rfl, rfl, rfl, rfl, HW, HS, HOL, HOU, HAP, HB⟩ := hrel
    obtain ⟨M, hM⟩ : ∃ M, M = stA acts L U.length := ⟨_, rfl⟩
    rw [← hM] at HOL HAP ⊢
    have HLM : Hid (LK M (j + acts.length)) := hide (by rw [hM]; exact HLK.out _)
    have HRM : Hid (U.length ≤ M.length + acts.length) := hide (by rw [hM]; exact HW.out.room)
    have HMM := hide hM
    clear hM
    have hd1 : decide ((U.length : Int) ≤ wrap64 ((M.length : Int) + (acts.length : Int))) = true := by
      have h1 := HRM.out; have h2 := HLM.out.len; have h3 := HL.out
      rw [decide_eq_true_eq]; unfold wrap64; omega
    have wk : wrap64 ((U.length : Int) + 1) = (U.length : Int) + 1 := by have h1 := HRM.out; have h2 := HLM.out.len; have h3 := HL.out; unfold wrap64; omega
    obtain ⟨p, hp⟩ : ∃ p, p = nxP (lastN U) M := ⟨_, rfl⟩
    obtain ⟨N, V⟩ := p
    have HNX := hide (refNext_any (.slice a2 M.length c2) M (lastN U) wr HOL.out.rv HLM.out.ris (by have := HLM.out.len; have := HL.out; omega))
    rw [← hp] at HNX
    dsimp only at HNX
    have HP := hide hp
    clear hp
    obtain ⟨lu, hlu⟩ : ∃ lu, lu = U.length := ⟨_, rfl⟩
    obtain ⟨lm, hlm⟩ : ∃ lm, lm = M.length := ⟨_, rfl⟩
    obtain ⟨la, hla⟩ : ∃ la, la = lastN U := ⟨_, rfl⟩
    have HLU := hide hlu
    have HLMM := hide hlm
    have HLA := hide hla
    rw [← hlu] at hd1 wk HOU HAP ⊢
    rw [← hlm] at hd1 HOL HNX HAP ⊢
    rw [← hla] at HNX ⊢
    clear hlu hlm hla
    go_wp2_with fail
    refine HNX.out.mono ?_
    rintro e w2 ⟨rfl, hb2⟩
    clear HNX
    have HB2 := hide (HB.out.trans (hb2.mono HB.out.size))
    have HOL2 := hide (HOL.out.later hb2)
    have HOU2 := hide (HOU.out.later hb2)
    clear hb2 HB HOL HOU
    obtain ⟨W3, hW3⟩ : ∃ W3, w2.alloc (.cells #[.int .i64 N, .string ⟨V.toArray⟩] 36) = W3 := ⟨_, rfl⟩
    have hb3 : Below w2.heap.size w2 W3 := by rw [← hW3]; exact (Below.refl _ _).alloc (Nat.le_refl _) _
    have hk3 : W3.heap[w2.heap.size]? = some (.cells #[.int .i64 N, .string ⟨V.toArray⟩] 36 (0, 0)) := by rw [← hW3]; exact alloc_newV w2 _
    have HK3 := hide hk3
    have g0 : W3.cell? ⟨w2.heap.size, 0, none⟩ = some (.int .i64 N) := by rw [cell_of_row W3 _ 0 _ _ _ hk3]; rfl
    have g1 : W3.cell? ⟨w2.heap.size, 1, none⟩ = some (.string ⟨V.toArray⟩) := by rw [cell_of_row W3 _ 1 _ _ _ hk3]; rfl
    have HB3 := hide (HB2.out.trans (hb3.mono HB2.out.size))
    have HOL3 := hide (HOL2.out.later hb3)
    have HOU3 := hide (HOU2.out.later hb3)
    have HNE : Hid (∀ q, (Value.slice a1 lu c1).ownBlock = some q → q ≠ w2.heap.size) := hide (fun q hq => by have := (HOU2.out.lt hq).2; omega)
    have HNEL : Hid (∀ q, (Value.slice a2 lm c2).ownBlock = some q → q ≠ w2.heap.size) := hide (fun q hq => by have := (HOL2.out.lt hq).2; omega)
    clear hb3 hk3 HOL2 HOU2 HB2
    cases hB : nxB (lastN U) M with
    | false =>
      rw [HLA.out] at *
      rw [hB]
      have HE : Hid (WEnd acts L stop U) := hide (.inl (by rw [← HMM.out]; exact nx_no hB))
      clear hB
      go_wp2_with (refine wpList_store_row rfl 36 _ _ rfl w2.heap.size #[.int .i64 N, .string ⟨V.toArray⟩] rfl rfl _ _ (alloc_newV w2 _) Try.sizeVersion rfl (by simp [Value.oneCell']) ?_; rw [World.setRow_alloc_new])
      go_ret2
      refine ⟨U, a1, c1, a2, c2, ?_, HW.out, HE.out, ?_, ?_, HB3.out⟩
      · rw [← HMM.out, ← HLMM.out, ← HLU.out]; rfl
      · rw [← HLU.out]; exact HOU3.out.low HBB.out
      · rw [← HMM.out, ← HLMM.out]; exact HOL3.out
    | true =>
      have HPX : Hid (nx (lastN U) M = some (N, V)) := hide (by rw [nx_yes hB, ← HP.out])
      have hB' : nxB la M = true := by rw [HLA.out]; exact hB
      rw [hB']
      have HWP : Hid (WS acts L stop (U ++ [(N, V)])) := hide (HW.out.push (by rw [← HMM.out]; exact HLM.out.ris) (by rw [← HMM.out]; exact HPX.out) HS.out)
      have HUL : Hid ((U ++ [(N, V)]).length = lu + 1) := hide (by rw [List.length_append, HLU.out]; rfl)
      obtain ⟨W4, hW4⟩ : ∃ W4, W3.alloc (.cells #[.int .i64 N, .string ⟨V.toArray⟩] 36) = W4 := ⟨_, rfl⟩
      have HW4 := hide hW4
      have hb4 : Below W3.heap.size W3 W4 := by rw [← hW4]; exact (Below.refl _ _).alloc (Nat.le_refl _) _
      have HO4 := hide (HOU3.out.later hb4)
      have HOL4 := hide (HOL3.out.later hb4)
      have HK4 : Hid (W4.heap[w2.heap.size]? = some (.cells #[.int .i64 N, .string ⟨V.toArray⟩] 36 (0, 0))) := hide ((hb4.block _ (Array.getElem?_eq_some_iff.1 HK3.out).1).trans HK3.out)
      have HN4 : Hid (∀ j u, ([.int .i64 N, .string ⟨V.toArray⟩] : List Value)[j]? = some u → W4.cell? ((⟨W3.heap.size, 0, none⟩ : Addr).add j) = some u) := hide (fun j u hj => by
        rw [← hW4, Addr.add_lit, cell_of_row _ W3.heap.size _ _ _ _ (alloc_newV W3 _)]
        match j, hj with
        | 0, hj => cases hj; rfl
        | 1, hj => cases hj; rfl)
      have HZ4 : Hid (w.heap.size ≤ W4.heap.size) := hide (by have := hb4.size; have := HB3.out.size; omega)
      have HSZ : Hid (lu + 1 ≤ 5864062014804) := hide (by have h1 := HRM.out; have h2 := HLM.out.len; have h3 := HL.out; have h4 := HLU.out; omega)
      clear hb4 hB hB'
      go_wp2_with (first
        | (refine wpList_store_row rfl 36 _ _ rfl w2.heap.size #[.int .i64 N, .string ⟨V.toArray⟩] rfl rfl _ _ (alloc_newV w2 _) Try.sizeVersion rfl (by simp [Value.oneCell']) ?_; rw [World.setRow_alloc_new])
        | (at_builtin; refine wp_append_or W4 w.heap.size 24 36 i0 _ 2 24 rfl _ _ rfl Try.underlying24 HI.out.1 HI.out.2.1 HI.out.2.2.1 HI.out.2.2.2 rfl (by decide) (.slice a1 lu c1) lu (vc U) rfl HO4.out ⟨W3.heap.size, 0, none⟩ 1 [.int .i64 N, .string ⟨V.toArray⟩] rfl rfl HN4.out (by intro u hu; simp at hu; rcases hu with rfl | rfl <;> rfl) (by have := HSZ.out; unfold maxLen; omega) (by have := HSZ.out; omega) HZ4.out ?_))
      intro v' w5 r1 r2 r3
      obtain ⟨a5, c5, rfl⟩ := r1.slc
      have HOU5 : Hid (OR w5 w.heap.size 36 2 (.slice a5 (lu + 1) c5) (lu + 1) (vc (U ++ [(N, V)]))) := hide (by rw [← vc_snoc]; exact r1)
      have HOL5 : Hid (OR w5 B 36 2 (.slice a2 lm c2) lm (vc M)) := hide (HOL4.out.kept (fun g hg => r2.block g (HOL4.out.lt hg).2 (fun e => HAP.out g e.symm hg)))
      have HAP5 : Hid (∀ g, (Value.slice a5 (lu + 1) c5).ownBlock = some g → (Value.slice a2 lm c2).ownBlock ≠ some g) := hide (fun g hg => by
        rcases r3 g hg with h | h
        · exact HAP.out g h
        · intro e; have := (HOL4.out.lt e).2; omega)
      have HB5 := hide (row_push (p := (N, V)) HB3.out HOU3.out HW4.out r2)
      have hk5 : w5.heap[w2.heap.size]? = some (.cells #[.int .i64 N, .string ⟨V.toArray⟩] 36 (0, 0)) := (r2.block _ (Array.getElem?_eq_some_iff.1 HK4.out).1 (fun e => HNE.out _ e.symm rfl)).trans HK4.out
      have y0 : w5.cell? ⟨w2.heap.size, 0, none⟩ = some (.int .i64 N) := by rw [cell_of_row w5 _ 0 _ _ _ hk5]; rfl
      clear r1 r2 r3 hk5 hW3 hW4 HW4 g0 g1 HO4 HOL4 HN4 HOL3 HOU3 HB3 HAP
      by_cases hlt : lu < acts.length
      · obtain ⟨⟨pr, AN, AV⟩, hpa⟩ : ∃ p, acts[lu]? = some p := ⟨_, List.getElem?_eq_getElem hlt⟩
        obtain ⟨g, off, rfl, q0, q1, q2⟩ := HPC.out lu _ hpa
        have hd2 : decide ((lu : Int) < (acts.length : Int)) = true := by rw [decide_eq_true_eq]; omega
        have k0 : (0 : Int) ≤ (lu : Int) := by omega
        have k1 : (lu : Int) < (acts.length : Int) := by omega
        have z0 : w5.cell? ⟨g, off + lu * 3, none⟩ = some (.bool pr) := (HB5.out.cell (World.block_lt_of_cell? _ _ q0)).trans q0
        have z1 : w5.cell? ⟨g, off + lu * 3 + 1, none⟩ = some (.int .i64 AN) := (HB5.out.cell (World.block_lt_of_cell? _ _ q1)).trans q1
        have z2 : w5.cell? ⟨g, off + lu * 3 + 2, none⟩ = some (.string ⟨AV.toArray⟩) := (HB5.out.cell (World.block_lt_of_cell? _ _ q2)).trans q2
        have HMP0 : Hid (stA acts L (lu + 1) = doAc (pr, AN, AV) M) := hide (by rw [stA_succ hpa, HMM.out, HLU.out])
        clear hpa q0 q1 q2
        go_wp2_with fail
        have hdn := refDone_any (pr, AN, AV) (.slice a2 lm c2) M B (j + acts.length) w5 (by have := HOL5.out; rw [HLMM.out] at this ⊢; exact this) HLM.out (by have := HL.out; omega) (by have := HBB.out; have := HB5.out.size; omega)
        refine hdn.mono ?_
        rintro e w6 ⟨a6, c6, rfl, ho6, hb6, hfr6⟩
        obtain ⟨M2, hM2⟩ : ∃ M2, M2 = doAc (pr, AN, AV) M := ⟨_, rfl⟩
        rw [← hM2] at ho6 hfr6 ⊢
        have HMP : Hid (M2 = stA acts L (lu + 1)) := hide (by rw [HMP0.out, hM2])
        obtain ⟨l6, hl6⟩ : ∃ l6, l6 = M2.length := ⟨_, rfl⟩
        rw [← hl6] at ho6 hfr6 ⊢
        have HL6 := hide hl6
        have HO6 := hide ho6
        have HAP6 : Hid (∀ g, (Value.slice a5 (lu + 1) c5).ownBlock = some g → (Value.slice a6 l6 c6).ownBlock ≠ some g) := hide (fun g hg e => by
          rcases hfr6 g e with h | h
          · exact HAP5.out g hg h
          · have := (HOU5.out.lt hg).2; omega)
        have HOU6 := HOU5.out.later hb6
        have HB6 := hide (HB5.out.trans (hb6.mono HB5.out.size))
        clear HOU5 HAP5 HOL5
        have HOU5 := hide HOU6
        clear HOU6 ho6 hb6 hfr6 hM2 hl6 hdn z0 z1 z2 y0
        by_cases hst : ((lu + 1 : Nat) : Int) = stop
        · have d5 : (((lu + 1 : Nat) : Int) == stop) = true := by rw [beq_iff_eq]; exact hst
          have HE : Hid (WEnd acts L stop (U ++ [(N, V)])) := hide (.inr ⟨by simp, by rw [← hst, HLU.out]; simp⟩)
          obtain ⟨lv, hlv⟩ : ∃ lv, lv = lu + 1 := ⟨_, rfl⟩
          rw [← hlv] at d5 HOU5 ⊢
          have HLV := hide hlv
          clear hst hlv
          go_wp2_with fail
          go_ret2
          refine ⟨U ++ [(N, V)], a5, c5, a6, c6, ?_, HWP.out, HE.out, ?_, ?_, HB6.out⟩
          · rw [HUL.out, ← HMP.out, ← HL6.out, ← HLV.out]; rfl
          · rw [HUL.out, ← HLV.out]; exact HOU5.out.low HBB.out
          · rw [HUL.out, ← HMP.out, ← HL6.out]; exact HO6.out
        · have d5 : (((lu + 1 : Nat) : Int) == stop) = false := by rw [beq_eq_false_iff_ne]; exact hst
          have HS2 : Hid (1 ≤ (U ++ [(N, V)]).length → ((U ++ [(N, V)]).length : Int) ≠ stop) := hide (fun _ => by rw [HUL.out]; exact hst)
          obtain ⟨lv, hlv⟩ : ∃ lv, lv = lu + 1 := ⟨_, rfl⟩
          rw [← hlv] at d5 HOU5 HAP6 ⊢
          have HLV := hide hlv
          clear hst hlv
          go_wp2_with fail
          go_roundw
          case rel =>
            refine ⟨U ++ [(N, V)], a5, c5, a6, c6, by rw [HUL.out]; go_num, by rw [HUL.out, HLV.out], by rw [lastN_snoc], by rw [HUL.out, ← HMP.out, ← HL6.out], HWP, HS2, hide ?_, hide ?_, hide ?_, HB6⟩
            · rw [HUL.out, ← HMP.out, ← HL6.out]; exact HO6.out
            · rw [HUL.out, ← HLV.out]; exact HOU5.out
            · rw [HUL.out, ← HMP.out, ← HL6.out, ← HLV.out]; exact HAP6.out
          case measure => rw [wk]; have h1 := HRM.out; have h2 := HLM.out.len; have h3 := HLU.out; simp [intOf]; omega
      · have hd2 : decide ((lu : Int) < (acts.length : Int)) = false := by rw [decide_eq_false_iff_not]; omega
        have HMP : Hid (M = stA acts L (lu + 1)) := hide (by rw [stA_end (by omega), HMM.out, HLU.out])
        by_cases hst : ((lu + 1 : Nat) : Int) = stop
        · have d5 : (((lu + 1 : Nat) : Int) == stop) = true := by rw [beq_iff_eq]; exact hst
          have HE : Hid (WEnd acts L stop (U ++ [(N, V)])) := hide (.inr ⟨by simp, by rw [← hst, HLU.out]; simp⟩)
          obtain ⟨lv, hlv⟩ : ∃ lv, lv = lu + 1 := ⟨_, rfl⟩
          rw [← hlv] at d5 HOU5 ⊢
          have HLV := hide hlv
          clear hst hlv
          go_wp2_with fail
          go_ret2
          refine ⟨U ++ [(N, V)], a5, c5, a2, c2, ?_, HWP.out, HE.out, ?_, ?_, HB5.out⟩
          · rw [HUL.out, ← HMP.out, ← HLMM.out, ← HLV.out]; rfl
          · rw [HUL.out, ← HLV.out]; exact HOU5.out.low HBB.out
          · rw [HUL.out, ← HMP.out, ← HLMM.out]; exact HOL5.out
        · have d5 : (((lu + 1 : Nat) : Int) == stop) = false := by rw [beq_eq_false_iff_ne]; exact hst
          have HS2 : Hid (1 ≤ (U ++ [(N, V)]).length → ((U ++ [(N, V)]).length : Int) ≠ stop) := hide (fun _ => by rw [HUL.out]; exact hst)
          obtain ⟨lv, hlv⟩ : ∃ lv, lv = lu + 1 := ⟨_, rfl⟩
          rw [← hlv] at d5 HOU5 HAP5 ⊢
          have HLV := hide hlv
          clear hst hlv
          go_wp2_with fail
          go_roundw
          case rel =>
            refine ⟨U ++ [(N, V)], a5, c5, a2, c2, by rw [HUL.out]; go_num, by rw [HUL.out, HLV.out], by rw [lastN_snoc], by rw [HUL.out, ← HMP.out, ← HLMM.out], HWP, HS2, hide ?_, hide ?_, hide ?_, HB5⟩
            · rw [HUL.out, ← HMP.out, ← HLMM.out]; exact HOL5.out
            · rw [HUL.out, ← HLV.out]; exact HOU5.out
            · rw [HUL.out, ← HMP.out, ← HLMM.out, ← HLV.out]; exact HAP5.out
          case measure => rw [wk]; have h1 := HRM.out; have h2 := HLM.out.len; have h3 := HLU.out; simp [intOf]; omega
end Go.Proofs.Ytechjcmolccdjaa
