/-
  My own text: layer 17: rising, LegKeys, Keys, by the program.
-/
import Derived.Test.YtdjhbecbbmdimaaGreatDoorVK2
import Derived.Test.YtdjhbecbbmdimaaGreatDoorGAM
import Derived.Test.YtdjhbecbbmdimaaGreatDoorGM
import Derived.Test.YtdjhbecbbmdimaaGreatDoorVQ
import Derived.Test.YtdjhbecbbmdimaaGreatDoorG5
namespace Go.Proofs.YtdjhbecbbmdimaaGreatDoor
open Go.RowKit

set_option maxRecDepth 100000 in
set_option maxHeartbeats 1000000 in
theorem rising_any (v : Value) (B : Nat) (L : List Ky) (w : World) (h : KY.OM w B v L) (hl : L.length ≤ 8796093022208) :
    Calls Tryz.prog 19 #[v] w fun e w' => ∃ v', e = .returned v' ∧ KY.OM w' B v' (ks L) ∧ w.grownBy w' v.ownBlock := by
  by_cases h0 : 0 < L.length
  · have HS := hide (sortK_any v B L w h h0 (by omega))
    obtain ⟨g, cap, rfl, _, _, _⟩ := om_shape h h0
    have HL := hide hl
    clear h h0 hl
    go_enter Tryz.func19, Tryz.ntmps19
    go_wp2_with fail
    refine HS.out.mono ?_
    rintro e w1 ⟨L', rfl, hp, hs, hO, hg⟩
    have hlen : L'.length = L.length := hp.length_eq
    have HC := hide (compactK_any _ B L' w1 hO (by have := HL.out; omega))
    have HK : Hid (dd L' = ks L) := hide (ks_eq (dd_inc hs) (fun z => by rw [dd_mem]; exact hp.mem_iff))
    have HG := hide hg
    clear hp hs hO hg hlen
    go_wp2_with fail
    refine HC.out.mono ?_
    rintro e w2 ⟨v', rfl, hO2, hg2⟩
    rw [HK.out] at hO2
    obtain ⟨a2, c2, hv2⟩ := KY.OM.slice hO2
    subst hv2
    have HO2 := hide hO2
    have HG2 := hide (grown_trans HG.out hg2)
    clear hO2 hg2
    go_wp2_with fail
    go_ret
    exact ⟨_, rfl, HO2.out, HG2.out⟩
  · have hL : L = [] := List.eq_nil_of_length_eq_zero (by omega)
    subst hL
    obtain ⟨a, cap, rfl⟩ := KY.OM.slice h
    have HS := hide (sortK0_any a cap (.func (.func 32) #[] #[]) w)
    have HC := hide (compactK_any _ B [] w h hl)
    clear h hl h0
    go_enter Tryz.func19, Tryz.ntmps19
    go_wp2_with fail
    refine HS.out.mono ?_
    rintro e w1 ⟨rfl, rfl⟩
    go_wp2_with fail
    refine HC.out.mono ?_
    rintro e w2 ⟨v', rfl, hO2, hg2⟩
    obtain ⟨a2, c2, hv2⟩ := KY.OM.slice hO2
    subst hv2
    have HO2 := hide hO2
    have HG2 := hide hg2
    clear hO2 hg2
    go_wp2_with fail
    go_ret
    exact ⟨_, rfl, HO2.out, HG2.out⟩
theorem KY.om_blk3 {w : World} {B g : Nat} {L : List KY.El} {A : Array Value} (hg : w.heap[g]? = some (.cells A 39 (0, 0))) (hA : A = (KY.mc L).toArray) (hB : B ≤ g) (hl : L.length ≤ 1000) :
    KY.OM w B (.slice (some ⟨g, 0, none⟩) L.length L.length) L := by
  subst hA
  refine ⟨by rw [KY.mc_len], .inr ⟨g, L.length, (KY.mc L).toArray, rfl, hB, hg, Nat.le_refl _, by unfold maxLen; omega, by simp [KY.mc_len], ?_⟩⟩
  rw [← KY.mc_len]
  simp
theorem recordKey_any (id : Int) (w : World) : Calls Tryz.prog 18 #[.int .i64 id] w fun e w' => e = .returned (.agg #[.int .i64 (-1), .int .i64 id]) ∧ Below w.heap.size w w' := by
  have B0 := hide ((Below.refl w.heap.size w).alloc (Nat.le_refl _) (.cells #[.int .i64 (-1), .int .i64 id] 39))
  obtain ⟨d0, d1⟩ := pair_cells (alloc_new w (.cells #[.int .i64 (-1), .int .i64 id] 39)) rfl
  go_enter Tryz.func18, Tryz.ntmps18
  go_wp2_with fail
  exact bodyPost_ret (v := .agg #[.int .i64 (-1), .int .i64 id]) (by simp [results, Tryz.results18, go_sem]) rfl ⟨rfl, B0.out⟩
set_option maxRecDepth 100000 in
theorem source_any (a b c d e : Int) (w : World) : Calls Tryz.prog 21 #[.agg #[.int .i64 a, .int .i64 b, .int .i64 c, .int .i64 d, .int .i64 e]] w fun x w' => x = .returned (.agg #[.int .i64 a, .int .i64 c]) ∧ Below w.heap.size w w' := by
  have B0 := hide (two_below w (.cells #[.int .i64 a, .int .i64 b, .int .i64 c, .int .i64 d, .int .i64 e] 43) (.cells #[.int .i64 a, .int .i64 c] 39))
  obtain ⟨d0, d1⟩ := pair_cells (two_new w (.cells #[.int .i64 a, .int .i64 b, .int .i64 c, .int .i64 d, .int .i64 e] 43) (.cells #[.int .i64 a, .int .i64 c] 39)).2 rfl
  obtain ⟨x0, x1, x2, x3, x4⟩ := five_cells (two_new w (.cells #[.int .i64 a, .int .i64 b, .int .i64 c, .int .i64 d, .int .i64 e] 43) (.cells #[.int .i64 0, .int .i64 0] 39)).1 rfl
  go_enter Tryz.func21, Tryz.ntmps21
  go_wp2_with fail
  exact bodyPost_ret (v := .agg #[.int .i64 a, .int .i64 c]) (by simp [results, Tryz.results21, go_sem]) rfl ⟨rfl, B0.out⟩
set_option maxRecDepth 100000 in
theorem target_any (a b c d e : Int) (w : World) : Calls Tryz.prog 22 #[.agg #[.int .i64 a, .int .i64 b, .int .i64 c, .int .i64 d, .int .i64 e]] w fun x w' => x = .returned (.agg #[.int .i64 b, .int .i64 c]) ∧ Below w.heap.size w w' := by
  have B0 := hide (two_below w (.cells #[.int .i64 a, .int .i64 b, .int .i64 c, .int .i64 d, .int .i64 e] 43) (.cells #[.int .i64 b, .int .i64 c] 39))
  obtain ⟨d0, d1⟩ := pair_cells (two_new w (.cells #[.int .i64 a, .int .i64 b, .int .i64 c, .int .i64 d, .int .i64 e] 43) (.cells #[.int .i64 b, .int .i64 c] 39)).2 rfl
  obtain ⟨x0, x1, x2, x3, x4⟩ := five_cells (two_new w (.cells #[.int .i64 a, .int .i64 b, .int .i64 c, .int .i64 d, .int .i64 e] 43) (.cells #[.int .i64 0, .int .i64 0] 39)).1 rfl
  go_enter Tryz.func22, Tryz.ntmps22
  go_wp2_with fail
  exact bodyPost_ret (v := .agg #[.int .i64 b, .int .i64 c]) (by simp [results, Tryz.results22, go_sem]) rfl ⟨rfl, B0.out⟩
set_option maxRecDepth 100000 in
set_option maxHeartbeats 4000000 in
theorem legKeys_any (id : Int) (v : Value) (L : List LG.El) (w : World) (h : LG.RM w v L) (hl : L.length ≤ 3518437208800) :
    Calls Tryz.prog 7 #[.int .i64 id, v] w fun e w' => ∃ v', e = .returned v' ∧ KY.OM w' w.heap.size v' (lkK id L) ∧ Below w.heap.size w w' := by
  have HRK := hide (recordKey_any id w)
  have HR := hide h
  obtain ⟨a, cap, rfl⟩ := LG.rm_lt h
  have HL := hide hl
  clear h hl
  go_enter Tryz.func7, Tryz.ntmps7
  go_wp2_with fail
  refine HRK.out.mono ?_
  rintro e w1 ⟨rfl, hb1⟩
  have HO0 : Hid (KY.OM (w1.alloc (.cells #[.int .i64 (-1), .int .i64 id] 39)) w.heap.size (.slice (some ⟨w1.heap.size, 0, none⟩) 1 1) [(-1, id)]) := hide ⟨rfl, .inr ⟨w1.heap.size, 1, _, rfl, hb1.size, alloc_new w1 _, Nat.le_refl _, by decide, rfl, rfl⟩⟩
  have HB0 := hide (hb1.alloc hb1.size (.cells #[.int .i64 (-1), .int .i64 id] 39))
  clear hb1 HRK
  go_wp2_with fail
  generalize w1.alloc (.cells #[.int .i64 (-1), .int .i64 id] 39) = W0 at HO0 HB0 ⊢
  go_loopw [5, 13] (fun l i wr => ∃ (k : Nat) (M : List Ky) (ad : Option Addr) (cp : Nat), k ≤ L.length ∧ i = .int .i64 (k : Int) ∧ l = .slice ad M.length cp ∧ Hid (M = (-1, id) :: lgK (L.take k)) ∧ Hid (KY.OM wr w.heap.size (.slice ad M.length cp) M) ∧ Hid (Below w.heap.size w wr)) (fun _ i _ => L.length - (intOf i).toNat)
  case atStart => exact ⟨0, [(-1, id)], some ⟨w1.heap.size, 0, none⟩, 1, Nat.zero_le _, rfl, rfl, hide (by simp [lgK]), HO0, HB0⟩
  case round =>
    clear HO0 HB0
    obtain ⟨k, M, ad, cp, hk, rfl, rfl, HM, HO, HB⟩ := hrel
    by_cases hlt : k < L.length
    · obtain ⟨⟨q0, q1, q2, q3, q4⟩, hx⟩ : ∃ p, L[k]? = some p := ⟨_, List.getElem?_eq_getElem hlt⟩
      have hd : decide ((k : Int) < (L.length : Int)) = true := by rw [decide_eq_true_eq]; omega
      obtain ⟨a', cap', hv', _, hcs⟩ := HR.out
      injection hv' with e1 e2 e3
      subst e1
      obtain ⟨b, off, ha, hbl, hc⟩ := hcs.resolve_left (fun h => by rw [h] at hlt; simp at hlt)
      subst ha
      obtain ⟨c0, c1, c2, c3, c4⟩ := hc k _ hx
      have z0 := (HB.out.cell (p := ⟨b, _, none⟩) hbl).trans c0
      have z1 := (HB.out.cell (p := ⟨b, _, none⟩) hbl).trans c1
      have z2 := (HB.out.cell (p := ⟨b, _, none⟩) hbl).trans c2
      have z3 := (HB.out.cell (p := ⟨b, _, none⟩) hbl).trans c3
      have z4 := (HB.out.cell (p := ⟨b, _, none⟩) hbl).trans c4
      have k0 : (0 : Int) ≤ (k : Int) := by omega
      have k1 : (k : Int) < (L.length : Int) := by omega
      clear c0 c1 c2 c3 c4 hc hcs e2 e3
      obtain ⟨O, hOO⟩ : ∃ O, wr.heap.size = O := ⟨_, rfl⟩
      have b0 := (Below.refl wr.heap.size wr).alloc (Nat.le_refl _) (.cells #[.int .i64 q0, .int .i64 q1, .int .i64 q2, .int .i64 q3, .int .i64 q4] 43)
      have HV0 := hide (HB.out.trans (b0.mono HB.out.size))
      have HO0 := hide (HO.out.later b0)
      have NB0 : Hid ((wr.alloc (.cells #[.int .i64 q0, .int .i64 q1, .int .i64 q2, .int .i64 q3, .int .i64 q4] 43)).heap[O]? = some (.cells #[.int .i64 q0, .int .i64 q1, .int .i64 q2, .int .i64 q3, .int .i64 q4] 43 (0, 0))) := hide (by rw [← hOO]; exact alloc_new wr _)
      have HMl : Hid (M.length = 1 + k * 2) := hide (by rw [HM.out]; simp [lgK_len, List.length_take, Nat.min_eq_left (Nat.le_of_lt hlt)]; omega)
      have HWK : Hid (wrap64 ((k : Int) + 1) = (k : Int) + 1) := hide (by have := HL.out; unfold wrap64; omega)
      have HM2 : Hid (M ++ [(q0, q2), (q1, q2)] = (-1, id) :: lgK (L.take (k + 1))) := hide (by rw [lgK_take hx, HM.out]; rfl)
      clear b0 hx
      go_wp2_with fail
      generalize wr.alloc (.cells #[.int .i64 q0, .int .i64 q1, .int .i64 q2, .int .i64 q3, .int .i64 q4] 43) = V0 at HV0 HO0 NB0 ⊢
      clear z0 z1 z2 z3 z4 hOO
      have HS0 := hide (five_cells NB0.out rfl)
      have HVd : Hid (Below w.heap.size w V0.drew) := hide HV0.out.drew
      have HOd : Hid (KY.OM V0.drew w.heap.size (.slice ad M.length cp) M) := hide HO0.out
      have NBd : Hid (V0.drew.heap[O]? = some (.cells #[.int .i64 q0, .int .i64 q1, .int .i64 q2, .int .i64 q3, .int .i64 q4] 43 (0, 0))) := hide NB0.out
      refine z_begins (S := fun W : World => W.cell? ⟨O, 0, none⟩ = some (.int .i64 q0) ∧ W.cell? ⟨O, 1, none⟩ = some (.int .i64 q1) ∧ W.cell? ⟨O, 2, none⟩ = some (.int .i64 q2) ∧ W.cell? ⟨O, 3, none⟩ = some (.int .i64 q3) ∧ W.cell? ⟨O, 4, none⟩ = some (.int .i64 q4)) 7 8 #[false, false, false, false, false, false, false, false] (by kernel_rfl) (by kernel_rfl) (by kernel_rfl) HS0.out (fun hHeld => ?_)
      refine zk (v := ?_) 0 17 #[true, false, false, false, false, false, false, false] rfl rfl (by kernel_rfl) (by kernel_rfl) (by kernel_rfl) (by kernel_rfl) (fun _ _ _ h => h) (by kernel_rfl) (by rfl) ?hy hHeld ?_
      case hy => intro W _; first | (go_simp; done) | (go_simp; with_reducible rfl)
      simp only [List.setIfInBounds_toArray, List.set_cons_zero, List.set_cons_succ]
      refine zk (v := ?_) 1 18 #[true, true, false, false, false, false, false, false] rfl rfl (by kernel_rfl) (by kernel_rfl) (by kernel_rfl) (by kernel_rfl) (fun _ _ _ h => h) (by kernel_rfl) (by rfl) ?hy hHeld ?_
      case hy => rintro W ⟨s0, s1, s2, s3, s4⟩; first | (go_simp; done) | (go_simp; with_reducible rfl)
      simp only [List.setIfInBounds_toArray, List.set_cons_zero, List.set_cons_succ]
      refine zk (v := ?_) 3 20 #[true, true, false, true, false, false, false, false] rfl rfl (by kernel_rfl) (by kernel_rfl) (by kernel_rfl) (by kernel_rfl) (fun _ _ _ h => h) (by kernel_rfl) (by rfl) ?hy hHeld ?_
      case hy => rintro W ⟨s0, s1, s2, s3, s4⟩; first | (go_simp; done) | (go_simp; with_reducible rfl)
      simp only [List.setIfInBounds_toArray, List.set_cons_zero, List.set_cons_succ]
      refine z_ready 2 #[true, true, true, true, false, false, false, false] rfl (by kernel_rfl) (by kernel_rfl) (by rfl) (fun K hK => ?_)
      refine op_call_fn 21 #[.agg #[.int .i64 q0, .int .i64 q1, .int .i64 q2, .int .i64 q3, .int .i64 q4]] (by kernel_rfl) ?_
      refine (source_any q0 q1 q2 q3 q4 _).mono ?_
      rintro e w1 ⟨rfl, hb1⟩
      refine ⟨_, rfl, ?_⟩
      go_simp
      have HV1 := hide (HVd.out.trans (hb1.mono HVd.out.size))
      have NB1 := hide (blk_later NBd.out hb1)
      have HO1 := hide (HOd.out.later hb1)
      clear hb1
      refine hK.out _ _ (fun _ => five_cells NB1.out rfl) (fun hHeld => ?_)
      clear hK K
      refine z_ready 4 #[true, true, true, true, true, false, false, false] rfl (by kernel_rfl) (by kernel_rfl) (by rfl) (fun K hK => ?_)
      refine op_call_fn 22 #[.agg #[.int .i64 q0, .int .i64 q1, .int .i64 q2, .int .i64 q3, .int .i64 q4]] (by kernel_rfl) ?_
      refine (target_any q0 q1 q2 q3 q4 _).mono ?_
      rintro e w2 ⟨rfl, hb2⟩
      refine ⟨_, rfl, ?_⟩
      go_simp
      have HV2 := hide (HV1.out.trans (hb2.mono HV1.out.size))
      have NB2 := hide (blk_later NB1.out hb2)
      have HO2 := hide (HO1.out.later hb2)
      clear hb2
      refine hK.out _ _ (fun _ => five_cells NB2.out rfl) (fun hHeld => ?_)
      clear hK K
      have b3 := (Below.refl w2.heap.size w2).alloc (Nat.le_refl _) (.cells #[.int .i64 q0, .int .i64 q2, .int .i64 q1, .int .i64 q2] 39)
      have HV3 := hide (HV2.out.trans (b3.mono HV2.out.size))
      have NB3 := hide (blk_later NB2.out b3)
      have HO3 := hide (HO2.out.later b3)
      have hK3 : KY.RM (w2.alloc (.cells #[.int .i64 q0, .int .i64 q2, .int .i64 q1, .int .i64 q2] 39)) (.slice (some ⟨w2.heap.size, 0, none⟩) 2 2) [(q0, q2), (q1, q2)] := (KY.om_blk3 (B := 0) (L := [(q0, q2), (q1, q2)]) (alloc_new w2 _) rfl (Nat.zero_le _) (show 2 ≤ 1000 by decide)).rm
      obtain ⟨v4, w4, hrun, hO4, hg4⟩ := KY.run_append_rm (w2.alloc (.cells #[.int .i64 q0, .int .i64 q2, .int .i64 q1, .int .i64 q2] 39)) w.heap.size 23 _ M HO3.out _ _ hK3 (by have := HMl.out; have := HL.out; simp; omega) (by have := HV2.out.size; have := HB.out.size; simp; omega)
      have HV4 := hide (HV3.out.grown hg4 HV3.out.size (fun g h => (World.ownsRow.lt HO3.out g h).1))
      have NB4 := hide ((hg4.block O (Array.getElem?_eq_some_iff.1 NB3.out).1 (fun e => by obtain ⟨c2, fz, h2⟩ := ownsRow_kind HO3.out _ e.symm; rw [NB3.out] at h2; injection h2 with h2; injection h2 with _ h2 _; exact absurd h2 (by decide))).trans NB3.out)
      have HO4 := hide hO4
      have HRUN := hide hrun
      clear b3 hK3
      refine z_ready 5 #[true, true, true, true, true, true, false, false] rfl (by kernel_rfl) (by kernel_rfl) (by rfl) (fun K hK => ?_)
      go_simp
      refine hK.out _ _ (fun _ => five_cells NB3.out rfl) (fun hHeld => ?_)
      clear hK K
      refine z_ready 6 #[true, true, true, true, true, true, true, false] rfl (by kernel_rfl) (by kernel_rfl) (by rfl) (fun K hK => ?_)
      refine op_append_gen _ _ rfl _ ⟨w2.heap.size, 0, none⟩ 2 2 rfl rfl v4 w4 HRUN.out ?_
      simp only [Act.put, List.setIfInBounds_toArray]
      refine hK.out _ _ (fun _ => five_cells NB4.out rfl) (fun hHeld => ?_)
      clear hK K
      refine z_ready 7 #[true, true, true, true, true, true, true, true] rfl (by kernel_rfl) (by kernel_rfl) (by rfl) (fun K hK => ?_)
      go_simp
      refine hK.out _ _ (fun h => absurd rfl h) (fun _ => ?_)
      clear hK K
      refine z_done (by kernel_rfl) ?_ _
      clear hHeld hrun
      obtain ⟨ad2, cp2, hv2⟩ := KY.OM.slice HO4.out
      go_wp2_with fail
      go_roundw
      case rel => exact ⟨k + 1, M ++ [(q0, q2), (q1, q2)], ad2, cp2, hlt, by first | rfl | (rw [HWK.out]; rfl), hv2, HM2, by rw [← hv2]; exact HO4, HV4⟩
      case measure => first | exact meas_up hlt | (rw [HWK.out]; exact meas_up hlt)
    · have hk2 : k = L.length := by omega
      have hd : decide ((k : Int) < (L.length : Int)) = false := by rw [decide_eq_false_iff_not]; omega
      have HRi := hide (rising_any _ w.heap.size M wr HO.out (by have := HL.out; rw [HM.out]; simp [lgK_len, List.length_take]; omega))
      have HMk : Hid (ks M = lkK id L) := hide (by rw [HM.out, hk2, List.take_length]; rfl)
      clear hk2
      go_wp2_with fail
      refine HRi.out.mono ?_
      rintro e w1 ⟨v', rfl, hO1, hg1⟩
      have HO1 : Hid (KY.OM w1 w.heap.size v' (lkK id L)) := hide (by rw [← HMk.out]; exact hO1)
      have HB1 := hide (HB.out.grown hg1 HB.out.size (fun g h => (World.ownsRow.lt HO.out g h).1))
      obtain ⟨a1, c1, hv1⟩ := KY.OM.slice hO1
      subst hv1
      clear hO1 hg1
      go_wp2_with fail
      go_ret
      exact ⟨_, rfl, HO1.out, HB1.out⟩
end Go.Proofs.YtdjhbecbbmdimaaGreatDoor
