/-
  My own text: the law PrioKnown.
-/
import Derived.Test.YtolmngjppnmkoaaPC8
import Derived.Test.YtolmngjppnmkoaaSC2
namespace Go.Proofs.Ytolmngjppnmkoaa
open Go.RowKit

theorem s3c_app (a b : List Stp) : s3c (a ++ b) = s3c a ++ s3c b := by
  induction a with
  | nil => rfl
  | cons p t ih => show _ :: _ :: _ :: s3c (t ++ b) = _; rw [ih]; rfl
theorem o3_lit (w : World) (cs : Array Value) (L : List Stp) (hc : cs.toList = s3c L) (hn : L.length ≤ 1000) : O3 (w.alloc (.cells cs 26)) w.heap.size (.slice (some ⟨w.heap.size, 0, none⟩) L.length L.length) L :=
  ⟨s3c_len L, .inr ⟨_, _, cs, rfl, Nat.le_refl _, alloc_new w _, Nat.le_refl _, by unfold maxLen; omega, by rw [← Array.length_toList, hc, s3c_len], by rw [hc, List.take_of_length_le (by rw [s3c_len]; omega)]⟩⟩
theorem om_lit (w : World) (cs : Array Value) (L : List Pr) (hc : cs.toList = mc L) (hn : L.length ≤ 1000) : OM (w.alloc (.cells cs 33)) w.heap.size (.slice (some ⟨w.heap.size, 0, none⟩) L.length L.length) L :=
  ⟨mc_len L, .inr ⟨_, _, cs, rfl, Nat.le_refl _, alloc_new w _, Nat.le_refl _, by unfold maxLen; omega, by rw [← Array.length_toList, hc, mc_len], by rw [hc, List.take_of_length_le (by rw [mc_len]; omega)]⟩⟩
theorem os_lit (w : World) (cs : Array Value) (L : List SG.St) (hc : cs.toList = SG.tc L) (hn : L.length ≤ 1000) : SG.OS (w.alloc (.cells cs 9)) w.heap.size (.slice (some ⟨w.heap.size, 0, none⟩) L.length L.length) L :=
  ⟨by rw [SG.tc_len, Nat.mul_one], .inr ⟨_, _, cs, rfl, Nat.le_refl _, alloc_new w _, Nat.le_refl _, by unfold maxLen; omega, by rw [← Array.length_toList, hc, SG.tc_len, Nat.mul_one], by rw [hc, List.take_of_length_le (by rw [SG.tc_len]; omega)]⟩⟩
/-- Some steps more. -/
theorem wp_append_3 {ops : Array Oper} {rest : List Oper} {o : Oper} {a : Act} {Q : Exit → Act → World → Prop} (w : World) (B : Nat) (hgd : o.guard = none) (s x : Operand)
    (ho : o.op = .call { callee := .builtin .append, args := #[s, x], argTypes := #[22, 22] }) (v : Value) (L : List Stp) (hs : a.eval s = v) (hO : O3 w B v L) (b : Nat) (M : List Stp) (hx : a.eval x = .slice (some ⟨b, 0, none⟩) M.length M.length) (cs : Array Value) (hb : w.heap[b]? = some (.cells cs 26 (0, 0))) (hcs : cs.toList = s3c M) (hn : L.length + M.length ≤ 1000000) (hB : B ≤ w.heap.size)
    (h : ∀ v' w', O3 w' B v' (L ++ M) → w.grownBy w' v.ownBlock → wpList Try.prog ops Q rest (a.put o.dst v') w') : wpList Try.prog ops Q (o :: rest) a w := by
  obtain ⟨i0, hi, hz0, hz1, hz2⟩ := info_parts Try.infoS3
  obtain ⟨v', w', hrun, r1, r2, r3⟩ := run_append_own2 (P := Try.prog) w B 22 o.type 26 i0 _ 3 24 Try.underlying22 hi hz0 hz1 hz2 rfl (by decide) v L.length (s3c L) hO ⟨b, 0, none⟩ M.length M.length (s3c M) (s3c_len M) (fun j u hj => by
    rw [Addr.add_lit, cell_of_row _ _ _ _ _ _ hb, Nat.zero_add, ← Array.getElem?_toList, hcs]; exact hj) (s3c_one M) (by unfold maxLen; omega) (by omega) hB
  have r1' : O3 w' B v' (L ++ M) := by
    unfold O3
    rw [List.length_append, s3c_app]; exact r1
  refine wpList_plain hgd fun K hK => ?_
  unfold Oper.wp
  simp [execOp, ho, resolve, invoke, builtin, hs, hx, hrun, Result.andThen]
  exact hK _ _ (h v' w' r1' r2)
def known1 : List Stp := [(1, 5, 1), (1, 5, 2), (3, 2, 0), (2, 0, 0), (4, 0, 0), (3, 9, 0), (7, 0, 0), (-1, 0, 0), (5, 0, 0)]
def told1 : List Pr := [(5, 1), (5, 2), (5, 2), (5, 1), (1, 0), (-1, -1), (-1, -1), (-1, -1), (-1, -1)]
def known2 : List Stp := [(1, 3, 1), (1, 5, 2), (1, 5, 3), (0, 0, 0), (0, 0, 0), (0, 0, 0), (0, 0, 0)]
def told2 : List Pr := [(3, 1), (5, 2), (5, 3), (5, 2), (5, 3), (3, 1), (-1, -1)]
theorem known1_ok : pl (kB false) [] 0 known1 = told1 := by decide
theorem known2_ok : pl (kB true) [] 0 known2 = told2 := by decide
theorem k_step {w5 wr w6 : World} {v : Value} {o : Obj} {L : List Stp} (HB : Below w5.heap.size w5 wr) (HO : O3 wr w5.heap.size v L) (r2 : (wr.alloc o).grownBy w6 v.ownBlock) : Below w5.heap.size w5 w6 := by
  have q := HB.alloc HB.size o
  exact q.trans (below_gb r2 q.size (fun g hg => (HO.lt g hg).1))
theorem six_at {w : World} {g t : Nat} {ty : TypeId} {fz : Nat × Nat} (h : w.heap[g]? = some (.cells #[.int .i64 1, .int .i64 2, .int .i64 3, .int .i64 7, .int .i64 100, .int .i64 1099511627776] ty fz)) (ht : t < 6) : ∃ u : Int, w.cell? ⟨g, t, none⟩ = some (.int .i64 u) ∧ 0 < u := by
  match t, ht with
  | 0, _ => exact ⟨_, by rw [cell_of_row _ _ _ _ _ _ h]; rfl, by decide⟩
  | 1, _ => exact ⟨_, by rw [cell_of_row _ _ _ _ _ _ h]; rfl, by decide⟩
  | 2, _ => exact ⟨_, by rw [cell_of_row _ _ _ _ _ _ h]; rfl, by decide⟩
  | 3, _ => exact ⟨_, by rw [cell_of_row _ _ _ _ _ _ h]; rfl, by decide⟩
  | 4, _ => exact ⟨_, by rw [cell_of_row _ _ _ _ _ _ h]; rfl, by decide⟩
  | 5, _ => exact ⟨_, by rw [cell_of_row _ _ _ _ _ _ h]; rfl, by decide⟩
set_option maxRecDepth 100000 in
set_option maxHeartbeats 40000000 in
theorem prioKnown_law (w : World) : Calls Try.prog 7 #[] w fun e w' => e = .returned (.bool true) ∧ Below w.heap.size w w' := by
  go_enter Try.func7, Try.ntmps7
  go_wp2_with fail
  refine (playP_any false _ known1 _ (o3_lit w _ known1 rfl (by decide)).r3 (by decide)).mono ?_
  rintro e w1 ⟨v1, rfl, o1, b1⟩
  rw [known1_ok] at o1
  have O1 := hide o1
  have B1 : Hid (Below w.heap.size w w1) := hide (((Below.refl _ _).alloc (Nat.le_refl _) _).trans (b1.mono (by simp)))
  clear o1 b1
  go_wp2_with fail
  refine (sameM_any _ _ told1 told1 _ (O1.out.lat ((Below.refl _ _).alloc (Nat.le_refl _) _)).rm (om_lit w1 _ told1 rfl (by decide)).rm (by decide) (by decide)).mono ?_
  rw [decide_eq_true (rfl : told1 = told1)]
  rintro e w2 ⟨rfl, b2⟩
  have B2 : Hid (Below w.heap.size w w2) := hide (B1.out.trans ((((Below.refl _ _).alloc (Nat.le_refl _) _).trans (b2.mono (by simp))).mono B1.out.size))
  clear b2 O1 B1
  go_wp2_with fail
  refine (playP_any true _ known2 _ (o3_lit w2 _ known2 rfl (by decide)).r3 (by decide)).mono ?_
  rintro e w1 ⟨v1, rfl, o1, b1⟩
  rw [known2_ok] at o1
  have O1 := hide o1
  have B1 : Hid (Below w.heap.size w w1) := hide (B2.out.trans ((((Below.refl _ _).alloc (Nat.le_refl _) _).trans (b1.mono (by simp))).mono B2.out.size))
  clear o1 b1 B2
  go_wp2_with fail
  refine (sameM_any _ _ told2 told2 _ (O1.out.lat ((Below.refl _ _).alloc (Nat.le_refl _) _)).rm (om_lit w1 _ told2 rfl (by decide)).rm (by decide) (by decide)).mono ?_
  rw [decide_eq_true (rfl : told2 = told2)]
  rintro e w2 ⟨rfl, b2⟩
  have B2 : Hid (Below w.heap.size w w2) := hide (B1.out.trans ((((Below.refl _ _).alloc (Nat.le_refl _) _).trans (b2.mono (by simp))).mono B1.out.size))
  clear b2 O1 B1
  have HPN := hide (playP_any true (.slice none 0 0) [] w2 ⟨none, 0, rfl, by simp, .inl rfl⟩ (by simp))
  go_wp2_with fail
  refine HPN.out.mono ?_
  rintro e w3 ⟨v3, rfl, o3, b3⟩
  have B3 := hide (B2.out.trans (b3.mono B2.out.size))
  obtain ⟨a3, c3, hv3⟩ := rm_lt o3.rm
  have hv3' : v3 = .slice a3 0 c3 := hv3
  subst hv3'
  have HWK := hide (works_any w3)
  clear o3 b3 hv3 B2 HPN
  go_wp2_with fail
  refine HWK.out.mono ?_
  rintro e w4 ⟨rfl, b4⟩
  have B4 := hide (B3.out.trans (b4.mono B3.out.size))
  clear b4 B3 HWK
  go_wp2_with fail
  obtain ⟨W4, hW4⟩ : ∃ W, Hid (w4.alloc (.cells #[.int .i64 1, .int .i64 2, .int .i64 3, .int .i64 7, .int .i64 100, .int .i64 1099511627776] 3) = W) := ⟨_, hide rfl⟩
  rw [hW4.out]
  have HN4 : Hid (W4.heap[w4.heap.size]? = some (.cells #[.int .i64 1, .int .i64 2, .int .i64 3, .int .i64 7, .int .i64 100, .int .i64 1099511627776] 3 (0, 0))) := hide (by rw [← hW4.out]; exact alloc_new w4 _)
  have BB4 : Hid (Below w.heap.size w W4) := hide (by rw [← hW4.out]; exact B4.out.alloc B4.out.size _)
  clear B4
  go_loopw [65] (fun i wr => ∃ t : Nat, i = .int .i64 (t : Int) ∧ t ≤ 6 ∧ Hid (Below W4.heap.size W4 wr)) (fun i _ => 6 - (intOf i).toNat)
  case atStart => exact ⟨0, rfl, by omega, hide (Below.refl _ _)⟩
  case round =>
    obtain ⟨t0, rfl, ht0, HR⟩ := hrel
    by_cases htn0 : t0 < 6
    · have d1 : decide ((t0 : Int) < 6) = true := by rw [decide_eq_true_eq]; omega
      have k0 : (0 : Int) ≤ (t0 : Int) := by omega
      have k1 : (t0 : Int) < 6 := by omega
      have wt : wrap64 ((t0 : Int) + 1) = (t0 : Int) + 1 := wrap_up htn0 (by omega)
      obtain ⟨u, x0, hu⟩ := six_at (blk_later HN4.out HR.out) htn0
      have hu0 : ¬ u = 0 := by omega
      have hu1 : (u == 0) = false := by rw [beq_eq_false_iff_ne]; exact hu0
      go_wp2_with fail
      obtain ⟨w5, rfl⟩ : ∃ w5, w5 = wr := ⟨wr, rfl⟩
      go_loopw [5, 6, 7] (fun vs x i wr => ∃ (t : Nat) (y : Int) (L : List Stp), x = .int .i64 y ∧ i = .int .i64 (t : Int) ∧ t ≤ 600 ∧ L.length ≤ 2 * t ∧ Hid (O3 wr w5.heap.size vs L) ∧ Hid (Below w5.heap.size w5 wr)) (fun _ _ i _ => 600 - (intOf i).toNat)
      case atStart => exact ⟨0, 12345, [], rfl, rfl, by omega, by simp, hide (World.ownsRow_nil _ _ _ 3), hide (Below.refl _ _)⟩
      case round =>
        obtain ⟨t, y, L, rfl, rfl, ht, hl, HO, HB⟩ := hrel
        by_cases htn : t < 600
        · have e1 : decide ((t : Int) < 600) = true := by rw [decide_eq_true_eq]; omega
          have wt2 : wrap64 ((t : Int) + 1) = (t : Int) + 1 := wrap_up htn (by omega)
          by_cases hc : (t : Int) % 3 = 2
          · have c1 : ((t : Int) % 3 == 2) = true := by rw [beq_iff_eq]; exact hc
            have c2 : decide ((t : Int) % 3 = 2) = true := decide_eq_true hc
            clear hc
            go_wp2_with (at_builtin; refine wp_append_3 _ w5.heap.size rfl _ _ rfl _ _ rfl (World.ownsRow.alloc HO.out _) _ [(_, _, _)] rfl _ (alloc_new _ _) rfl (by simp; omega) (by have := HB.out.size; simp; omega) ?_; intro v6 w6 r1 r2; replace HB := hide (k_step HB.out HO.out r2); replace HO := hide r1; clear r1 r2)
            go_roundw
            case rel => exact ⟨t + 1, _, _, rfl, by first | rfl | (rw [wt2]; rfl), htn, by simp; omega, HO, HB⟩
            case measure => first | exact meas_lt htn | (rw [wt2]; exact meas_lt htn)
          · have c1 : ((t : Int) % 3 == 2) = false := by rw [beq_eq_false_iff_ne]; exact hc
            have c2 : decide ((t : Int) % 3 = 2) = false := decide_eq_false hc
            go_wp2_with (at_builtin; refine wp_append_3 _ w5.heap.size rfl _ _ rfl _ _ rfl (World.ownsRow.alloc HO.out _) _ [(_, _, _)] rfl _ (alloc_new _ _) rfl (by simp; omega) (by have := HB.out.size; simp; omega) ?_; intro v6 w6 r1 r2; replace HB := hide (k_step HB.out HO.out r2); replace HO := hide r1; clear r1 r2)
            go_roundw
            case rel => exact ⟨t + 1, _, _, rfl, by first | rfl | (rw [wt2]; rfl), htn, by simp; omega, HO, HB⟩
            case measure => first | exact meas_lt htn | (rw [wt2]; exact meas_lt htn)
        · have e1 : decide ((t : Int) < 600) = false := by rw [decide_eq_false_iff_not]; omega
          go_wp2_with (at_builtin; refine wp_append_3 _ w5.heap.size rfl _ _ rfl _ _ rfl (World.ownsRow.alloc HO.out _) _ [(_, _, _), (_, _, _), (_, _, _)] rfl _ (alloc_new _ _) rfl (by simp; omega) (by have := HB.out.size; simp; omega) ?_; intro v6 w6 r1 r2; replace HB := hide (k_step HB.out HO.out r2); replace HO := hide r1; clear r1 r2)
          obtain ⟨L6, hL6⟩ : ∃ L6, L ++ [(1, -9223372036854775808, 0), (1, 9223372036854775807, 0), (1, -1, -1)] = L6 := ⟨_, rfl⟩
          have hl6 : L6.length ≤ 1203 := by rw [← hL6]; simp; omega
          rw [hL6] at HO
          clear hL6
          go_loopw [5, 8] (fun vs i wr => ∃ (t : Nat) (L : List Stp), i = .int .i64 (t : Int) ∧ t ≤ 620 ∧ L.length ≤ 1203 + t ∧ Hid (O3 wr w5.heap.size vs L) ∧ Hid (Below w5.heap.size w5 wr)) (fun _ i _ => 620 - (intOf i).toNat)
          case atStart => exact ⟨0, L6, rfl, by omega, by omega, HO, HB⟩
          case round =>
            obtain ⟨t, L, rfl, ht, hl, HO, HB⟩ := hrel
            by_cases htn : t < 620
            · have e2 : decide ((t : Int) < 620) = true := by rw [decide_eq_true_eq]; omega
              have wt2 : wrap64 ((t : Int) + 1) = (t : Int) + 1 := wrap_up htn (by omega)
              go_wp2_with (at_builtin; refine wp_append_3 _ w5.heap.size rfl _ _ rfl _ _ rfl (World.ownsRow.alloc HO.out _) _ [(_, _, _)] rfl _ (alloc_new _ _) rfl (by simp; omega) (by have := HB.out.size; simp; omega) ?_; intro v6 w6 r1 r2; replace HB := hide (k_step HB.out HO.out r2); replace HO := hide r1; clear r1 r2)
              go_roundw
              case rel => exact ⟨t + 1, _, by first | rfl | (rw [wt2]; rfl), htn, by simp; omega, HO, HB⟩
              case measure => first | exact meas_lt htn | (rw [wt2]; exact meas_lt htn)
            · have e2 : decide ((t : Int) < 620) = false := by rw [decide_eq_false_iff_not]; omega
              have HL7 : Hid (L.length ≤ 10000) := hide (by omega)
              go_wp2_with fail
              obtain ⟨w7, rfl⟩ : ∃ w7, w7 = wr := ⟨wr, rfl⟩
              obtain ⟨sa, sc, hvs⟩ := HO.out.r3.slc
              subst hvs
              go_loopw [9] (fun i wr => ∃ (t : Nat), i = .int .i64 (t : Int) ∧ t ≤ 2 ∧ Hid (Below w7.heap.size w7 wr)) (fun i _ => 2 - (intOf i).toNat)
              case atStart => exact ⟨0, rfl, by omega, hide (Below.refl _ _)⟩
              case round =>
                obtain ⟨t, rfl, ht, HB8⟩ := hrel
                by_cases htn : t < 2
                · have e3 : decide ((t : Int) < 2) = true := by rw [decide_eq_true_eq]; omega
                  have wt2 : wrap64 ((t : Int) + 1) = (t : Int) + 1 := wrap_up htn (by omega)
                  obtain ⟨f, hf⟩ : ∃ f, ((t : Int) == 1) = f := ⟨_, rfl⟩
                  have hf2 : decide ((t : Int) = 1) = f := by rw [← hf]; by_cases h : (t : Int) = 1 <;> simp [h]
                  have HP := hide (playP_any f _ L wr (HO.out.r3.later HB8.out) (by have := HL7.out; omega))
                  have HPL : Hid ((pl (kB f) [] 0 L).length ≤ 10000) := hide (by rw [pl_len]; exact HL7.out)
                  obtain ⟨P, hP⟩ : ∃ P, pl (kB f) [] 0 L = P := ⟨_, rfl⟩
                  rw [hP] at HP HPL
                  go_wp2_with fail
                  refine HP.out.mono ?_
                  rintro e w8 ⟨v8, rfl, o8, b8⟩
                  have O8 := hide o8
                  have B8 := hide (HB8.out.trans (b8.mono HB8.out.size))
                  have HQ8 := hide (rplay_any f _ L w8 (HO.out.r3.later B8.out) (by have := HL7.out; omega))
                  rw [hP] at HQ8
                  clear o8 b8 HP
                  go_wp2_with fail
                  refine HQ8.out.mono ?_
                  rintro e w9 ⟨v9, rfl, o9, b9⟩
                  have HS9 := hide (sameM_any _ _ P P w9 (O8.out.lat b9).rm o9.rm (by have := HPL.out; omega) (by have := HPL.out; omega))
                  rw [decide_eq_true (rfl : P = P)] at HS9
                  have B9 := hide (B8.out.trans (b9.mono B8.out.size))
                  clear o9 b9 HQ8 O8 B8
                  go_wp2_with fail
                  refine HS9.out.mono ?_
                  rintro e w10 ⟨rfl, b10⟩
                  have B10 := hide (B9.out.trans (b10.mono B9.out.size))
                  clear b10 HS9 B9
                  go_wp2_with fail
                  go_roundw
                  case rel => exact ⟨t + 1, by first | rfl | (rw [wt2]; rfl), htn, B10⟩
                  case measure => first | exact meas_lt htn | (rw [wt2]; exact meas_lt htn)
                · have e3 : decide ((t : Int) < 2) = false := by rw [decide_eq_false_iff_not]; omega
                  have HF : Hid (Below W4.heap.size W4 wr) := hide (HR.out.trans ((HB.out.trans (HB8.out.mono HB.out.size)).mono HR.out.size))
                  go_wp2_with fail
                  go_roundw
                  case rel => exact ⟨t0 + 1, by first | rfl | (rw [wt]; rfl), htn0, HF⟩
                  case measure => first | exact meas_lt htn0 | (rw [wt]; exact meas_lt htn0)
    · have d1 : decide ((t0 : Int) < 6) = false := by rw [decide_eq_false_iff_not]; omega
      have HX := hide (SG.prioSorts_law _ [[98, 98], [97], [99, 99], [100]] _ (os_lit wr #[.string ⟨#[98, 98]⟩, .string ⟨#[97]⟩, .string ⟨#[99, 99]⟩, .string ⟨#[100]⟩] [[98, 98], [97], [99, 99], [100]] rfl (by decide)).rt (by decide))
      go_wp2_with fail
      refine HX.out.mono ?_
      rintro e w9 ⟨rfl, b9⟩
      have HB9 : Hid (Below w.heap.size w w9) := hide (by
        have q := BB4.out.trans (HR.out.mono BB4.out.size)
        exact (q.alloc q.size _).trans (b9.mono (by have := q.size; simp; omega)))
      clear b9
      go_wp2_with fail
      go_ret
      exact ⟨rfl, HB9.out⟩
end Go.Proofs.Ytolmngjppnmkoaa
