/-
  My own text: layer 23: fits (printed by mklw2.py).
-/
import Derived.Test.YtmgjonifoeeemaaLW1
import Derived.Test.YtmgjonifoeeemaaUPick
namespace Go.Proofs.Ytmgjonifoeeemaa
open Go.RowKit

theorem run_append_tw (w : World) (B : Nat) (ty : TypeId) (v : Value) (M : List TW.El) (x y : Int) (g : Nat) (hown : TW.OM w B v M) (hy : w.heap[g]? = some (.cells #[.int .i64 x, .int .i64 y] 31 (0, 0))) (hn : M.length + 1 ≤ 8796093022208) (hB : B ≤ w.heap.size) :
    ∃ v' w', (Builtin.append_ #[22, 22] ty #[v, .slice (some ⟨g, 0, none⟩) 1 1]).run Try.prog w = .ok v' w' ∧ TW.OM w' B v' (M ++ [(x, y)]) ∧ w.grownBy w' v.ownBlock := by
  obtain ⟨i0, hi, hz0, hz1, hz2⟩ := info_parts TW.Try.infoMk
  obtain ⟨h0, h1⟩ := TW.cellsA hy rfl
  obtain ⟨v', w', hrun, r1, r2, _⟩ := run_append_own (P := Try.prog) w B 22 ty 31 i0 _ 2 16 Try.underlying22 hi hz0 hz1 hz2 rfl (by decide) v M.length (TW.mc M) hown ⟨g, 0, none⟩ 1 1 [.int .i64 x, .int .i64 y] rfl (fun j u hj => by
    match j, hj with
    | 0, hj => simp at hj; subst hj; simpa [Addr.add] using h0
    | 1, hj => simp at hj; subst hj; simpa [Addr.add] using h1) (by intro u hu; simp at hu; rcases hu with rfl | rfl <;> rfl) (by unfold maxLen; omega) (by omega) hB
  refine ⟨v', w', hrun, ?_, r2⟩
  unfold TW.OM
  rw [List.length_append, TW.mc_app]
  exact r1
/-- Pairs brought to name things. -/
def fitP (n : Nat) (L : List (Int × Int)) : List (Int × Int) := if n = 0 then [] else L.map fun p => (p.1 % (n : Int), p.2 % (n : Int))
theorem fitP_len (n : Nat) (L : List (Int × Int)) : (fitP n L).length ≤ L.length := by unfold fitP; split <;> simp
theorem fitP_ok (n : Nat) (L : List (Int × Int)) : ∀ (j : Nat) (p : Int × Int), (fitP n L)[j]? = some p → namB (n : Int) p = true := by
  intro j p hp
  unfold fitP at hp
  split at hp
  · simp at hp
  · rename_i h
    rw [List.getElem?_map] at hp
    cases hq : L[j]? with
    | none => rw [hq] at hp; cases hp
    | some q =>
      rw [hq] at hp
      cases hp
      rw [namB_iff]
      have h1 : (0 : Int) < (n : Int) := by omega
      exact ⟨⟨Int.emod_nonneg _ (by omega), Int.emod_nonneg _ (by omega)⟩, ⟨Int.emod_lt_of_pos _ h1, Int.emod_lt_of_pos _ h1⟩⟩
theorem fitP_take {n : Nat} {L : List (Int × Int)} {k : Nat} {p : Int × Int} (hn : ¬ n = 0) (h : L[k]? = some p) : fitP n (L.take (k + 1)) = fitP n (L.take k) ++ [(p.1 % (n : Int), p.2 % (n : Int))] := by
  unfold fitP
  rw [if_neg hn, if_neg hn, List.take_add_one, h, List.map_append]
  rfl
theorem fitP_none {n : Nat} {L : List (Int × Int)} (hn : n = 0) : fitP n L = [] := if_pos hn
set_option maxRecDepth 100000 in
set_option maxHeartbeats 4000000 in
theorem fits_any (n0 : Int) (v : Value) (L : List (Int × Int)) (w : World) (hv : TW.RM w v L) (hl : L.length ≤ 8796093022200) :
    Calls Try.prog 4 #[.int .i64 n0, v] w fun e w' => ∃ (n : Nat) (vo : Value), n ≤ 200 ∧ e = .returned (.tuple #[.int .i64 (n : Int), vo]) ∧ TW.RM w' vo (fitP n L) ∧ Below w.heap.size w w' := by
  obtain ⟨a, cap, rfl, _, hr⟩ := hv
  have HR := hide hr
  have HL := hide hl
  obtain ⟨n, hn⟩ : ∃ n : Nat, Hid (n0 % 201 = (n : Int)) := ⟨(n0 % 201).toNat, hide (by omega)⟩
  have HP := hide (pick_any n0 201)
  rw [hn.out] at HP
  have HN : Hid (n ≤ 200) := hide (by have := hn.out; omega)
  have HPK : Hid (¬ n = 0 → ∀ (q : Int) (W : World), Calls Try.prog 7 #[.int .i64 q, .int .i64 (n : Int)] W fun e w' => e = .returned (.int .i64 (q % (n : Int))) ∧ w' = W) := hide (fun h q W => pick_any q (n : Int) W (by omega) (by have := HN.out; omega))
  clear hr hl hn
  go_enter Try.func4, Try.ntmps4
  go_wp2_with fail
  refine (HP.out _ (by omega) (by omega)).mono ?_
  rintro e w1 ⟨rfl, hw⟩
  obtain rfl := hw.symm
  clear HP
  go_wp2_with fail
  go_loopw [6, 7] (fun o i wr => ∃ j : Nat, j ≤ L.length ∧ i = .int .i64 (j : Int) ∧ Hid (TW.OM wr w.heap.size o (fitP n (L.take j))) ∧ Hid (Below w.heap.size w wr)) (fun _ i _ => L.length - (intOf i).toNat)
  case atStart => exact ⟨0, Nat.zero_le _, rfl, hide (by rw [List.take_zero]; unfold fitP; split <;> exact TW.OM.nil _ _), hide (Below.refl _ _)⟩
  case round =>
    obtain ⟨j, hj, rfl, HO, HB⟩ := hrel
    by_cases hlt : j < L.length
    · have hd1 : decide ((j : Int) < (L.length : Int)) = true := by rw [decide_eq_true_eq]; omega
      have hd1' : decide (j < L.length) = true := decide_eq_true hlt
      have k0 : (0 : Int) ≤ (j : Int) := by omega
      have k1 : (j : Int) < (L.length : Int) := by omega
      have wk : wrap64 ((j : Int) + 1) = (j : Int) + 1 := by have := HL.out; unfold wrap64; omega
      by_cases h0 : n = 0
      · have hd2 : decide ((0 : Int) < (n : Int)) = false := by rw [decide_eq_false_iff_not]; omega
        have hd2' : decide (0 < n) = false := by rw [decide_eq_false_iff_not]; omega
        have HO2 : Hid (TW.OM wr w.heap.size u6 (fitP n (L.take (j + 1)))) := hide (by have h := HO.out; rw [fitP_none h0] at h ⊢; exact h)
        clear HO h0
        go_wp2_with fail
        go_roundw
        case rel => exact ⟨j + 1, by omega, by go_num, HO2, HB⟩
        case measure => first | (rw [wk]; simp [intOf]; omega) | (simp [intOf]; omega)
      · have hd2 : decide ((0 : Int) < (n : Int)) = true := by rw [decide_eq_true_eq]; omega
        have hd2' : decide (0 < n) = true := by rw [decide_eq_true_eq]; omega
        obtain ⟨⟨q0, q1⟩, hp⟩ : ∃ p, L[j]? = some p := ⟨_, List.getElem?_eq_getElem hlt⟩
        obtain ⟨b, off, rfl, hgl, hc⟩ := HR.out.resolve_left (fun h => by rw [h] at hlt; simp at hlt)
        have HP0 := hide (HPK.out h0 q0)
        have HP1 := hide (HPK.out h0 q1)
        have HT := hide (fitP_take (n := n) h0 hp)
        obtain ⟨m0, hm0⟩ : ∃ m, q0 % (n : Int) = m := ⟨_, rfl⟩
        obtain ⟨m1, hm1⟩ : ∃ m, q1 % (n : Int) = m := ⟨_, rfl⟩
        dsimp only at HT
        rw [hm0] at HP0 HT
        rw [hm1] at HP1 HT
        obtain ⟨M, hM⟩ : ∃ M, Hid (fitP n (L.take j) = M) := ⟨_, hide rfl⟩
        have HML : Hid (M.length ≤ j) := hide (by rw [← hM.out]; exact Nat.le_trans (fitP_len _ _) (by rw [List.length_take]; omega))
        rw [hM.out] at HT HO
        obtain ⟨D, hD⟩ : ∃ x, wr.drew = x := ⟨_, rfl⟩
        have hbD : Below wr.heap.size wr D := by rw [← hD]; exact (Below.refl _ _).drew
        have HBD := hide (HB.out.trans (hbD.mono HB.out.size))
        have zd0 : D.cell? ⟨b, off + j * 2, none⟩ = some (.int .i64 q0) := (HBD.out.cell (p := ⟨b, _, none⟩) hgl).trans (hc j _ hp).1
        have zd1 : D.cell? ⟨b, off + j * 2 + 1, none⟩ = some (.int .i64 q1) := (HBD.out.cell (p := ⟨b, _, none⟩) hgl).trans (hc j _ hp).2
        have hbA : Below D.heap.size D (D.alloc (.cells #[.int .i64 m0, .int .i64 m1] 31)) := (Below.refl _ _).alloc (Nat.le_refl _) _
        have za0 := (hbA.cell (p := ⟨b, off + j * 2, none⟩) (Nat.lt_of_lt_of_le hgl HBD.out.size)).trans zd0
        have za1 := (hbA.cell (p := ⟨b, off + j * 2 + 1, none⟩) (Nat.lt_of_lt_of_le hgl HBD.out.size)).trans zd1
        have hoD := (HO.out.later hbD).later hbA
        obtain ⟨v9, w9, hrun, hO9, hg9⟩ := run_append_tw _ w.heap.size 22 u6 M m0 m1 D.heap.size hoD (alloc_new D _) (by have := HML.out; have := HL.out; omega) (Nat.le_trans HBD.out.size hbA.size)
        obtain ⟨oa, oc, hov⟩ := TW.OM.slice HO.out
        obtain ⟨ol, hol⟩ : ∃ ol, M.length = ol := ⟨_, rfl⟩
        rw [hol] at hov
        subst hov
        obtain ⟨na, nc, hnv⟩ := TW.OM.slice hO9
        subst hnv
        have hBA := HBD.out.trans (hbA.mono HBD.out.size)
        have hlow : ∀ g, (Value.slice oa ol oc).ownBlock = some g → w.heap.size ≤ g := fun g hg => (World.ownsRow.lt HO.out g hg).1
        have HB9 : Hid (Below w.heap.size w w9) := hide (hBA.grown hg9 (Nat.le_trans HBD.out.size hbA.size) hlow)
        have HO9 : Hid (TW.OM w9 w.heap.size (.slice na (M ++ [(m0, m1)]).length nc) (fitP n (L.take (j + 1)))) := hide (by rw [HT.out]; exact hO9)
        have zw0 : w9.cell? ⟨b, off + j * 2, none⟩ = some (.int .i64 q0) := (HB9.out.cell (p := ⟨b, _, none⟩) hgl).trans (hc j _ hp).1
        have zw1 : w9.cell? ⟨b, off + j * 2 + 1, none⟩ = some (.int .i64 q1) := (HB9.out.cell (p := ⟨b, _, none⟩) hgl).trans (hc j _ hp).2
        have HRUN := hide hrun
        clear hp hc HPK HO hoD hrun hO9 hg9 hBA hlow hbD hbA hol h0 hgl
        go_wp2_with fail
        refine z_begins (S := fun W : World => W.cell? ⟨b, off + j * 2, none⟩ = some (.int .i64 q0) ∧ W.cell? ⟨b, off + j * 2 + 1, none⟩ = some (.int .i64 q1)) 18 19 #[false, false, false, false, false, false, false, false, false, false, false, false, false, false, false, false, false, false, false] (by kernel_rfl) (by kernel_rfl) (by kernel_rfl) (by rw [hD]; exact ⟨zd0, zd1⟩) (fun hHeld => ?_)
        rw [hD] at hHeld ⊢
        clear hD
        refine zk (v := ?_) 0 18 #[true, false, false, false, false, false, false, false, false, false, false, false, false, false, false, false, false, false, false] rfl rfl (by kernel_rfl) (by kernel_rfl) (by kernel_rfl) (by kernel_rfl) (fun _ _ _ h => h) (by kernel_rfl) (by rfl) ?hy hHeld ?_
        case hy => rintro W ⟨s1, s2⟩; first | (go_simp; done) | (go_simp; with_reducible rfl)
        simp only [List.setIfInBounds_toArray, List.set_cons_zero, List.set_cons_succ]
        refine zk (v := ?_) 1 19 #[true, true, false, false, false, false, false, false, false, false, false, false, false, false, false, false, false, false, false] rfl rfl (by kernel_rfl) (by kernel_rfl) (by kernel_rfl) (by kernel_rfl) (fun _ _ _ h => h) (by kernel_rfl) (by rfl) ?hy hHeld ?_
        case hy => rintro W ⟨s1, s2⟩; first | (go_simp; done) | (go_simp; with_reducible rfl)
        simp only [List.setIfInBounds_toArray, List.set_cons_zero, List.set_cons_succ]
        refine zk (v := ?_) 2 20 #[true, true, true, false, false, false, false, false, false, false, false, false, false, false, false, false, false, false, false] rfl rfl (by kernel_rfl) (by kernel_rfl) (by kernel_rfl) (by kernel_rfl) (fun _ _ _ h => h) (by kernel_rfl) (by rfl) ?hy hHeld ?_
        case hy => rintro W ⟨s1, s2⟩; first | (go_simp; done) | (go_simp; with_reducible rfl)
        simp only [List.setIfInBounds_toArray, List.set_cons_zero, List.set_cons_succ]
        refine zk (v := ?_) 3 21 #[true, true, true, true, false, false, false, false, false, false, false, false, false, false, false, false, false, false, false] rfl rfl (by kernel_rfl) (by kernel_rfl) (by kernel_rfl) (by kernel_rfl) (fun _ _ _ h => h) (by kernel_rfl) (by rfl) ?hy hHeld ?_
        case hy => rintro W ⟨s1, s2⟩; first | (go_simp; done) | (go_simp; with_reducible rfl)
        simp only [List.setIfInBounds_toArray, List.set_cons_zero, List.set_cons_succ]
        refine zk (v := ?_) 4 22 #[true, true, true, true, true, false, false, false, false, false, false, false, false, false, false, false, false, false, false] rfl rfl (by kernel_rfl) (by kernel_rfl) (by kernel_rfl) (by kernel_rfl) (fun _ _ _ h => h) (by kernel_rfl) (by rfl) ?hy hHeld ?_
        case hy => rintro W ⟨s1, s2⟩; first | (go_simp; done) | (go_simp; with_reducible rfl)
        simp only [List.setIfInBounds_toArray, List.set_cons_zero, List.set_cons_succ]
        refine zk (v := ?_) 5 23 #[true, true, true, true, true, true, false, false, false, false, false, false, false, false, false, false, false, false, false] rfl rfl (by kernel_rfl) (by kernel_rfl) (by kernel_rfl) (by kernel_rfl) (fun _ _ _ h => h) (by kernel_rfl) (by rfl) ?hy hHeld ?_
        case hy => rintro W ⟨s1, s2⟩; first | (go_simp; done) | (go_simp; with_reducible rfl)
        simp only [List.setIfInBounds_toArray, List.set_cons_zero, List.set_cons_succ]
        refine zk (v := ?_) 6 24 #[true, true, true, true, true, true, true, false, false, false, false, false, false, false, false, false, false, false, false] rfl rfl (by kernel_rfl) (by kernel_rfl) (by kernel_rfl) (by kernel_rfl) (fun _ _ _ h => h) (by kernel_rfl) (by rfl) ?hy hHeld ?_
        case hy => rintro W ⟨s1, s2⟩; first | (go_simp; done) | (go_simp; with_reducible rfl)
        simp only [List.setIfInBounds_toArray, List.set_cons_zero, List.set_cons_succ]
        refine zk (v := ?_) 8 26 #[true, true, true, true, true, true, true, false, true, false, false, false, false, false, false, false, false, false, false] rfl rfl (by kernel_rfl) (by kernel_rfl) (by kernel_rfl) (by kernel_rfl) (fun _ _ _ h => h) (by kernel_rfl) (by rfl) ?hy hHeld ?_
        case hy => rintro W ⟨s1, s2⟩; first | (go_simp; done) | (go_simp; with_reducible rfl)
        simp only [List.setIfInBounds_toArray, List.set_cons_zero, List.set_cons_succ]
        refine zk (v := ?_) 9 27 #[true, true, true, true, true, true, true, false, true, true, false, false, false, false, false, false, false, false, false] rfl rfl (by kernel_rfl) (by kernel_rfl) (by kernel_rfl) (by kernel_rfl) (fun _ _ _ h => h) (by kernel_rfl) (by rfl) ?hy hHeld ?_
        case hy => rintro W ⟨s1, s2⟩; first | (go_simp; done) | (go_simp; with_reducible rfl)
        simp only [List.setIfInBounds_toArray, List.set_cons_zero, List.set_cons_succ]
        refine zk (v := ?_) 10 28 #[true, true, true, true, true, true, true, false, true, true, true, false, false, false, false, false, false, false, false] rfl rfl (by kernel_rfl) (by kernel_rfl) (by kernel_rfl) (by kernel_rfl) (fun _ _ _ h => h) (by kernel_rfl) (by rfl) ?hy hHeld ?_
        case hy => rintro W ⟨s1, s2⟩; first | (go_simp; done) | (go_simp; with_reducible rfl)
        simp only [List.setIfInBounds_toArray, List.set_cons_zero, List.set_cons_succ]
        refine zk (v := ?_) 11 29 #[true, true, true, true, true, true, true, false, true, true, true, true, false, false, false, false, false, false, false] rfl rfl (by kernel_rfl) (by kernel_rfl) (by kernel_rfl) (by kernel_rfl) (fun _ _ _ h => h) (by kernel_rfl) (by rfl) ?hy hHeld ?_
        case hy => rintro W ⟨s1, s2⟩; first | (go_simp; done) | (go_simp; with_reducible rfl)
        simp only [List.setIfInBounds_toArray, List.set_cons_zero, List.set_cons_succ]
        refine zk (v := ?_) 12 30 #[true, true, true, true, true, true, true, false, true, true, true, true, true, false, false, false, false, false, false] rfl rfl (by kernel_rfl) (by kernel_rfl) (by kernel_rfl) (by kernel_rfl) (fun _ _ _ h => h) (by kernel_rfl) (by rfl) ?hy hHeld ?_
        case hy => rintro W ⟨s1, s2⟩; first | (go_simp; done) | (go_simp; with_reducible rfl)
        simp only [List.setIfInBounds_toArray, List.set_cons_zero, List.set_cons_succ]
        refine zk (v := ?_) 13 31 #[true, true, true, true, true, true, true, false, true, true, true, true, true, true, false, false, false, false, false] rfl rfl (by kernel_rfl) (by kernel_rfl) (by kernel_rfl) (by kernel_rfl) (fun _ _ _ h => h) (by kernel_rfl) (by rfl) ?hy hHeld ?_
        case hy => rintro W ⟨s1, s2⟩; first | (go_simp; done) | (go_simp; with_reducible rfl)
        simp only [List.setIfInBounds_toArray, List.set_cons_zero, List.set_cons_succ]
        refine z_ready 7 #[true, true, true, true, true, true, true, true, true, true, true, true, true, true, false, false, false, false, false] rfl (by kernel_rfl) (by kernel_rfl) (by rfl) (fun K hK => ?_)
        refine op_call_fn 7 #[.int .i64 q0, .int .i64 (n : Int)] (by kernel_rfl) ?_
        refine (HP0.out D).mono ?_
        rintro e w' ⟨rfl, hw⟩
        obtain rfl := hw.symm
        refine ⟨_, rfl, ?_⟩
        go_simp
        refine hK.out _ _ (fun _ => ⟨zd0, zd1⟩) (fun hHeld => ?_)
        clear hK K
        refine z_ready 14 #[true, true, true, true, true, true, true, true, true, true, true, true, true, true, true, false, false, false, false] rfl (by kernel_rfl) (by kernel_rfl) (by rfl) (fun K hK => ?_)
        refine op_call_fn 7 #[.int .i64 q1, .int .i64 (n : Int)] (by kernel_rfl) ?_
        refine (HP1.out D).mono ?_
        rintro e w' ⟨rfl, hw⟩
        obtain rfl := hw.symm
        refine ⟨_, rfl, ?_⟩
        go_simp
        refine hK.out _ _ (fun _ => ⟨zd0, zd1⟩) (fun hHeld => ?_)
        clear hK K
        refine z_ready 15 #[true, true, true, true, true, true, true, true, true, true, true, true, true, true, true, true, false, false, false] rfl (by kernel_rfl) (by kernel_rfl) (by rfl) (fun K hK => ?_)
        go_simp
        refine hK.out _ _ (fun _ => ⟨zd0, zd1⟩) (fun hHeld => ?_)
        clear hK K
        refine z_ready 16 #[true, true, true, true, true, true, true, true, true, true, true, true, true, true, true, true, true, false, false] rfl (by kernel_rfl) (by kernel_rfl) (by rfl) (fun K hK => ?_)
        go_simp
        refine hK.out _ _ (fun _ => ⟨za0, za1⟩) (fun hHeld => ?_)
        clear hK K
        refine z_ready 17 #[true, true, true, true, true, true, true, true, true, true, true, true, true, true, true, true, true, true, false] rfl (by kernel_rfl) (by kernel_rfl) (by rfl) (fun K hK => ?_)
        refine op_append_gen _ _ rfl (.slice oa ol oc) ⟨D.heap.size, 0, none⟩ 1 1 rfl rfl _ w9 HRUN.out ?_
        simp only [Act.put, List.setIfInBounds_toArray]
        refine hK.out _ _ (fun _ => ⟨zw0, zw1⟩) (fun hHeld => ?_)
        clear hK K
        refine z_ready 18 #[true, true, true, true, true, true, true, true, true, true, true, true, true, true, true, true, true, true, true] rfl (by kernel_rfl) (by kernel_rfl) (by rfl) (fun K hK => ?_)
        go_simp
        refine hK.out _ _ (fun h => absurd rfl h) (fun _ => ?_)
        clear hK K
        refine z_done (by kernel_rfl) ?_ _
        clear zd0 zd1 za0 za1 zw0 zw1 HRUN HP0 HP1
        go_wp2_with fail
        go_roundw
        case rel => exact ⟨j + 1, by omega, by go_num, by have h := HO9; rw [List.length_append] at h; exact h, HB9⟩
        case measure => first | (rw [wk]; simp [intOf]; omega) | (simp [intOf]; omega)
    · have e : j = L.length := by omega
      subst e
      have hd1 : decide ((L.length : Int) < (L.length : Int)) = false := by simp
      have hd1' : decide (L.length < L.length) = false := by simp
      have HRM : Hid (TW.RM wr u6 (fitP n L)) := hide (by have h := HO.out.rm; rw [List.take_length] at h; exact h)
      go_wp2_with fail
      go_ret2
      exact ⟨n, _, HN.out, rfl, HRM.out, HB.out⟩
end Go.Proofs.Ytmgjonifoeeemaa
