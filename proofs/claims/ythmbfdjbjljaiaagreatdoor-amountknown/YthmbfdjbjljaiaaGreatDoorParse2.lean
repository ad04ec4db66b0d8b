/-
  My own text: decimal texts, read: whole.
-/
import Derived.Test.YthmbfdjbjljaiaaGreatDoorParse
namespace Go.Proofs.YthmbfdjbjljaiaaGreatDoor
open Go.RowKit

theorem okc_range {c : UInt8} {x : Nat} (h : c.toNat = x) (h2 : okc c = true) : x = 46 ∨ (48 ≤ x ∧ x ≤ 57) := by
  unfold okc at h2; rw [h] at h2; simp at h2; omega
theorem isNum_all {l : List UInt8} (h : isNum l = true) : l.all okc = true := by unfold isNum at h; simp at h; simp; exact h.1.1
theorem ret_pe {a c : Int} {v v' : Value} (h : a = c) (h' : v = v') : Ending.returned (.tuple #[.int .i64 a, v]) = .returned (.tuple #[.int .i64 c, v']) := by rw [h, h']
theorem rd_yes {m d : Int} {a : List Int} (h : rd 0 a = some m) (h2 : m ≤ (9223372036854775807 - d) / 10) : rd 0 (a ++ [d]) = some (m * 10 + d) := by rw [rd_snoc h, if_neg (by omega)]
theorem rd_no {m d : Int} {a : List Int} (h : rd 0 a = some m) (h2 : (9223372036854775807 - d) / 10 < m) : rd 0 (a ++ [d]) = none := by rw [rd_snoc h, if_pos h2]
theorem errV_p {k m : Int} (h : k = m) : errV m = errV k := by rw [h]
theorem split_take {l : List UInt8} {k : Nat} (L : List Int) : digs l ++ L = digs (l.take k) ++ (digs (l.drop k) ++ L) := by
  rw [← List.append_assoc, ← digs_app, List.take_append_drop]
theorem rep_split {j n : Nat} (h : j ≤ n) : List.replicate n (0 : Int) = List.replicate j 0 ++ List.replicate (n - j) 0 := by
  rw [List.replicate_append_replicate, show j + (n - j) = n from by omega]

set_option maxRecDepth 100000 in
set_option maxHeartbeats 2000000 in
theorem parse_fit (l : List UInt8) (s : Nat) (w : World) (hl : l.length ≤ 140737488355328) (hs : s ≤ 18) :
    Calls Tryz.prog 23 #[.string ⟨l.toArray⟩, .int .i64 s] w fun e w' => e = .returned (.tuple #[.int .i64 (pV l s), errV (pE l s)]) ∧ w' = w := by
  have hb : Hid (true = decide (0 ≤ (s : Int) ∧ (s : Int) ≤ 18)) := by simp [Hid]; omega
  have hns : ¬ ((s : Int) < 0 ∨ (18 : Int) < s) := by omega
  cases hnum : isNum l
  · have H := hide (p_text hns hnum)
    have HN := hide hnum
    clear hnum hns
    go_enter Tryz.func23, Tryz.ntmps23
    go_wp2_with fail
    refine (isScale_any s true _ hb).mono ?_
    rintro e w0 ⟨rfl, rfl⟩
    go_wp2_with fail
    refine (numeral_any l _ hl).mono ?_
    rintro e w1 ⟨rfl, rfl⟩
    rw [HN.out]
    go_wp2_with fail
    go_ret2
    exact ⟨ret_pe H.out.1.symm (errV_p (m := 6) H.out.2), rfl⟩
  · obtain ⟨b, Hb, HB⟩ : ∃ b : Nat, Hid (behind l = (b : Int)) ∧ Hid ((st l).2.2 = b) := ⟨_, behind_yes hnum, hide rfl⟩
    have HA := hide (isNum_all hnum)
    have HN := hide hnum
    have HNS := hide hns
    clear hnum hns
    by_cases hlong : s < b
    · have H := hide (p_long HNS.out HN.out (by rw [HB.out]; omega))
      go_enter Tryz.func23, Tryz.ntmps23
      go_wp2_with fail
      refine (isScale_any s true _ hb).mono ?_
      rintro e w0 ⟨rfl, rfl⟩
      go_wp2_with fail
      refine (numeral_any l _ hl).mono ?_
      rintro e w1 ⟨rfl, rfl⟩
      rw [HN.out, Hb.out]
      go_wp2_with fail
      go_ret2
      exact ⟨ret_pe H.out.1.symm (errV_p (m := 3) H.out.2), rfl⟩
    · go_enter Tryz.func23, Tryz.ntmps23
      go_wp2_with fail
      refine (isScale_any s true _ hb).mono ?_
      rintro e w0 ⟨rfl, rfl⟩
      go_wp2_with fail
      refine (numeral_any l _ hl).mono ?_
      rintro e w1 ⟨rfl, rfl⟩
      rw [HN.out, Hb.out]
      have HPR : Hid (prs l s = rd 0 (digs l ++ List.replicate (s - b) 0)) := by show prs l s = _; unfold prs; rw [HB.out]
      have Hov := hide (fun h => p_over (l := l) (s := s) hs HN.out (by rw [HB.out]; omega) h)
      have Hok := hide (fun (n : Int) h => p_ok (l := l) (s := s) (n := n) hs HN.out (by rw [HB.out]; omega) h)
      go_wp2_with fail
      go_loop [7, 8, 28] (fun o n i => ∃ (k : Nat) (N : Int) (ob : Bool), k ≤ l.length ∧ i = .int .i64 k ∧ n = .int .i64 N ∧ o = .bool ob ∧ Hid (rd 0 (digs (l.take k)) = some N) ∧ 0 ≤ N ∧ N ≤ 9223372036854775807) (fun _ _ i => l.length - (intOf i).toNat)
      case atStart => exact ⟨0, 0, true, Nat.zero_le _, rfl, rfl, rfl, hide rfl, by omega, by omega⟩
      case round =>
        obtain ⟨k, N, ob, hk, rfl, rfl, rfl, HR, n0, n1⟩ := hrel
        by_cases hlt : k < l.length
        · obtain ⟨c, Hc⟩ : ∃ c, Hid (l[k] = c) := ⟨_, hide rfl⟩
          have HT : Hid (l.take (k + 1) = l.take k ++ [c]) := by rw [take_snoc_b hlt, Hc.out]; exact hide rfl
          have hok : okc c = true := List.all_eq_true.1 HA.out c (by rw [← Hc.out]; exact List.getElem_mem hlt)
          have hsz : k < (⟨l.toArray⟩ : ByteArray).size := by rw [bytes_size]; exact hlt
          obtain ⟨x, hx, Hx⟩ : ∃ x : Nat, ((⟨l.toArray⟩ : ByteArray)[k]'hsz).toNat = x ∧ Hid (c.toNat = x) := ⟨_, rfl, by rw [← Hc.out]; exact hide rfl⟩
          have hrange : x = 46 ∨ (48 ≤ x ∧ x ≤ 57) := okc_range Hx.out hok
          clear Hc hok
          by_cases h46 : x = 46
          · have hb46 : ((x : Int) == 46) = true := by simp; omega
            have DP := hide (digs_point (l := l.take k) (Hx.out.trans h46))
            clear hrange
            go_wp2_with fail
            go_round
            case rel => exact ⟨k + 1, N, ob, by omega, by go_num, rfl, rfl, by rw [HT.out, DP.out]; exact HR, n0, n1⟩
            case measure => simp [intOf]; omega
          · have hb46 : ((x : Int) == 46) = false := by simp; omega
            have h1 : 48 ≤ x := by omega
            have h2 : x ≤ 57 := by omega
            have DD := hide (digs_digit (l := l.take k) (c := c) (by rw [Hx.out]; exact h46))
            clear hrange
            by_cases hfit : N ≤ (9223372036854775807 - ((x : Int) - 48)) / 10
            · have RY := hide (rd_yes HR.out hfit)
              have hn2 : N * 10 + ((x : Int) - 48) ≤ 9223372036854775807 := by omega
              go_wp2_with (go_at_call 54; refine (appendDigit_yes N ((x : Int) - 48) _ n0 (by omega) (by omega) hfit).mono ?_; rintro e w' ⟨rfl, rfl⟩)
              go_round
              case rel => exact ⟨k + 1, N * 10 + ((x : Int) - 48), true, by omega, by go_num, rfl, rfl, by rw [HT.out, DD.out, Hx.out]; exact RY, by omega, hn2⟩
              case measure => simp [intOf]; omega
            · have H := hide (Hov.out (by
                rw [HPR.out, split_take (k := k + 1), HT.out, DD.out, Hx.out]
                exact rd_none (rd_no HR.out (by omega))))
              go_wp2_with (go_at_call 54; refine (appendDigit_no N ((x : Int) - 48) _ (by omega) (by omega) (by omega)).mono ?_; rintro e w' ⟨rfl, rfl⟩)
              go_ret2
              exact ⟨ret_pe H.out.1.symm (errV_p (m := 9) H.out.2), rfl⟩
        · have HR2 : Hid (rd 0 (digs l) = some N) := by have h := HR.out; rw [List.take_of_length_le (by omega)] at h; exact h
          clear HR
          have hsb : (s : Int) - (b : Int) = ((s - b : Nat) : Int) := by omega
          obtain ⟨z, hz, Hz⟩ : ∃ z : Nat, (s : Int) - (b : Int) = (z : Int) ∧ Hid (s - b = z) := ⟨s - b, hsb, hide rfl⟩
          clear hsb
          rw [Hz.out] at HPR
          go_wp2_with fail
          go_loop [7, 8, 52] (fun o n i => ∃ (j : Nat) (M : Int) (ob : Bool), j ≤ z ∧ i = .int .i64 j ∧ n = .int .i64 M ∧ o = .bool ob ∧ Hid (rd 0 (digs l ++ List.replicate j 0) = some M) ∧ 0 ≤ M ∧ M ≤ 9223372036854775807) (fun _ _ i => z - (intOf i).toNat)
          case atStart => exact ⟨0, N, ob, Nat.zero_le _, rfl, rfl, rfl, by rw [List.replicate_zero, List.append_nil]; exact HR2, n0, n1⟩
          case round =>
            clear HR2 n0 n1
            obtain ⟨j, M, ob2, hj, rfl, rfl, rfl, HR, m0, m1⟩ := hrel
            by_cases hjt : j < z
            · by_cases hfit : M ≤ (9223372036854775807 - 0) / 10
              · have RY := hide (rd_yes HR.out hfit)
                go_wp2_with (go_at_call 54; refine (appendDigit_yes M 0 _ m0 (by omega) (by omega) hfit).mono ?_; rintro e w' ⟨rfl, rfl⟩)
                go_round
                case rel => exact ⟨j + 1, M * 10 + 0, true, by omega, by go_num, by go_num, rfl, by rw [rep_snoc, ← List.append_assoc]; exact RY, by omega, by omega⟩
                case measure => simp [intOf]; omega
              · have H := hide (Hov.out (by
                  rw [HPR.out, rep_split (show j + 1 ≤ z by omega), ← List.append_assoc, rep_snoc, ← List.append_assoc]
                  exact rd_none (rd_no HR.out (by omega))))
                go_wp2_with (go_at_call 54; refine (appendDigit_no M 0 _ (by omega) (by omega) (by omega)).mono ?_; rintro e w' ⟨rfl, rfl⟩)
                go_ret2
                exact ⟨ret_pe H.out.1.symm (errV_p (m := 9) H.out.2), rfl⟩
            · have hjz : j = z := by omega
              subst hjz
              have H := hide (Hok.out M (HPR.out.trans HR.out))
              go_wp2_with fail
              go_ret2
              exact ⟨ret_pe H.out.1.symm (errV_p (m := 0) H.out.2), rfl⟩
end Go.Proofs.YthmbfdjbjljaiaaGreatDoor
