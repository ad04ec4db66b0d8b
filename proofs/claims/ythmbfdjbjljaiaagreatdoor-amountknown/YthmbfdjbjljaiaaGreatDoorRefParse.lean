/-
  My own text: decimal texts, read by the document's answer; and wrong scales.
-/
import Derived.Test.YthmbfdjbjljaiaaGreatDoorParse2
namespace Go.Proofs.YthmbfdjbjljaiaaGreatDoor
open Go.RowKit

set_option maxHeartbeats 1000000 in
theorem parse_arg (l : List UInt8) (s : Int) (w : World) (h : s < 0 ∨ 18 < s) :
    Calls Tryz.prog 23 #[.string ⟨l.toArray⟩, .int .i64 s] w fun e w' => e = .returned (.tuple #[.int .i64 (pV l s), errV (pE l s)]) ∧ w' = w := by
  have H := hide (p_arg (l := l) h)
  have hb : Hid (false = decide (0 ≤ s ∧ s ≤ 18)) := by simp [Hid]; omega
  clear h
  go_enter Tryz.func23, Tryz.ntmps23
  go_wp2_with fail
  refine (isScale_any s false _ hb).mono ?_
  rintro e w0 ⟨rfl, rfl⟩
  go_wp2_with fail
  go_ret2
  exact ⟨ret_pe H.out.1.symm (errV_p (m := 1) H.out.2), rfl⟩
theorem parse_any (l : List UInt8) (s : Int) (w : World) (hl : l.length ≤ 140737488355328) :
    Calls Tryz.prog 23 #[.string ⟨l.toArray⟩, .int .i64 s] w fun e w' => e = .returned (.tuple #[.int .i64 (pV l s), errV (pE l s)]) ∧ w' = w := by
  by_cases h : s < 0 ∨ 18 < s
  · exact parse_arg l s w h
  · obtain ⟨b, rfl⟩ := Int.eq_ofNat_of_zero_le (show 0 ≤ s by omega)
    exact parse_fit l b w hl (by omega)

theorem ret_pi {a c b d : Int} (h : a = c) (h' : b = d) : Ending.returned (.tuple #[.int .i64 a, .int .i64 b]) = .returned (.tuple #[.int .i64 c, .int .i64 d]) := by rw [h, h']
set_option maxHeartbeats 1000000 in
theorem refParse_arg (l : List UInt8) (s : Int) (w : World) (h : s < 0 ∨ 18 < s) :
    Calls Tryz.prog 49 #[.string ⟨l.toArray⟩, .int .i64 s] w fun e w' => e = .returned (.tuple #[.int .i64 (pV l s), .int .i64 (pE l s)]) ∧ w' = w := by
  have H := hide (p_arg (l := l) h)
  by_cases h1 : s < 0
  · go_enter Tryz.func49, Tryz.ntmps49
    go_wp2
    go_ret2
    exact ⟨ret_pi H.out.1.symm H.out.2.symm, rfl⟩
  · have h2 : 18 < s := by omega
    clear h
    go_enter Tryz.func49, Tryz.ntmps49
    go_wp2
    go_ret2
    exact ⟨ret_pi H.out.1.symm H.out.2.symm, rfl⟩
set_option maxRecDepth 100000 in
set_option maxHeartbeats 2000000 in
theorem refParse_fit (l : List UInt8) (s : Nat) (w : World) (hl : l.length ≤ 140737488355328) (hs : s ≤ 18) :
    Calls Tryz.prog 49 #[.string ⟨l.toArray⟩, .int .i64 s] w fun e w' => e = .returned (.tuple #[.int .i64 (pV l s), .int .i64 (pE l s)]) ∧ w' = w := by
  have hns : ¬ ((s : Int) < 0 ∨ (18 : Int) < s) := by omega
  cases hnum : isNum l
  · have H := hide (p_text hns hnum)
    have HN := hide hnum
    clear hnum hns
    go_enter Tryz.func49, Tryz.ntmps49
    go_wp2_with fail
    refine (refNumeral_any l _ hl).mono ?_
    rintro e w1 ⟨x, rfl, hx, rfl⟩
    rw [HN.out]
    clear hx
    go_wp2_with fail
    go_ret2
    exact ⟨ret_pi H.out.1.symm H.out.2.symm, rfl⟩
  · obtain ⟨b, Hb, HB⟩ : ∃ b : Nat, Hid (behind l = (b : Int)) ∧ Hid ((st l).2.2 = b) := ⟨_, behind_yes hnum, hide rfl⟩
    have HA := hide (isNum_all hnum)
    have HN := hide hnum
    have HNS := hide hns
    clear hnum hns
    by_cases hlong : s < b
    · have H := hide (p_long HNS.out HN.out (by rw [HB.out]; omega))
      go_enter Tryz.func49, Tryz.ntmps49
      go_wp2_with fail
      refine (refNumeral_any l _ hl).mono ?_
      rintro e w1 ⟨x, rfl, hx, rfl⟩
      have hx2 := (hx HN.out).trans Hb.out
      subst hx2
      rw [HN.out]
      clear hx
      go_wp2_with fail
      go_ret2
      exact ⟨ret_pi H.out.1.symm H.out.2.symm, rfl⟩
    · go_enter Tryz.func49, Tryz.ntmps49
      go_wp2_with fail
      refine (refNumeral_any l _ hl).mono ?_
      rintro e w1 ⟨x, rfl, hx, rfl⟩
      have hx2 := (hx HN.out).trans Hb.out
      subst hx2
      rw [HN.out]
      clear hx
      have HPR : Hid (prs l s = rd 0 (digs l ++ List.replicate (s - b) 0)) := by show prs l s = _; unfold prs; rw [HB.out]
      have Hov := hide (fun h => p_over (l := l) (s := s) hs HN.out (by rw [HB.out]; omega) h)
      have Hok := hide (fun (n : Int) h => p_ok (l := l) (s := s) (n := n) hs HN.out (by rw [HB.out]; omega) h)
      go_wp2_with fail
      go_loop [0, 8] (fun t i => ∃ (j : Nat) (L : List UInt8), b + j ≤ s ∧ i = .int .i64 ((b + j : Nat) : Int) ∧ t = .string ⟨L.toArray⟩ ∧ Hid (L = l ++ List.replicate j 48) ∧ L.length = l.length + j) (fun _ i => s - (intOf i).toNat)
      case atStart => exact ⟨0, l, by omega, rfl, rfl, by simp [Hid], by omega⟩
      case round =>
        obtain ⟨j, L, hj, rfl, rfl, HL, hlen⟩ := hrel
        obtain ⟨i, hi, HI⟩ : ∃ i : Nat, ((b + j : Nat) : Int) = (i : Int) ∧ Hid (b + j = i) := ⟨b + j, rfl, hide rfl⟩
        rw [hi]
        clear hi
        by_cases hjs : i < s
        · obtain ⟨L', hcat, HL'⟩ : ∃ L' : List UInt8, (⟨L.toArray⟩ : ByteArray) ++ ⟨#[48]⟩ = ⟨L'.toArray⟩ ∧ Hid (L' = L ++ [48]) := ⟨L ++ [48], by rw [bytes_app]; simp, hide rfl⟩
          go_wp2_with fail
          go_round
          case rel => exact ⟨j + 1, L', by have := HI.out; omega, by rw [show ((b + (j + 1) : Nat) : Int) = (i : Int) + 1 by have := HI.out; omega], rfl, by rw [HL'.out, HL.out, List.append_assoc, ← List.replicate_succ']; exact hide rfl, by rw [HL'.out, List.length_append]; simp; omega⟩
          case measure => have := HI.out; simp [intOf]; omega
        · have hz : j = s - b := by have := HI.out; omega
          rw [← hz] at HPR
          have HD : Hid (digs L = digs l ++ List.replicate j 0) := by show digs L = _; rw [HL.out, digs_app, digs_zeros]
          have HAL : Hid (L.all okc = true) := by
            show L.all okc = true
            rw [HL.out, List.all_append, HA.out, Bool.true_and, List.all_eq_true]
            intro c hc
            rw [List.eq_of_mem_replicate hc]; rfl
          have hLl : L.length ≤ 140737488355346 := by have := HI.out; omega
          clear hz hlen HL HA
          go_wp2_with fail
          go_loop [9, 10] (fun n i => ∃ (k : Nat) (N : Int), k ≤ L.length ∧ i = .int .i64 k ∧ n = .int .i64 N ∧ Hid (rd 0 (digs (L.take k)) = some N) ∧ 0 ≤ N ∧ N ≤ 9223372036854775807) (fun _ i => L.length - (intOf i).toNat)
          case atStart => exact ⟨0, 0, Nat.zero_le _, rfl, rfl, hide rfl, by omega, by omega⟩
          case round =>
            obtain ⟨k, N, hk, rfl, rfl, HR, n0, n1⟩ := hrel
            by_cases hlt : k < L.length
            · obtain ⟨c, Hc⟩ : ∃ c, Hid (L[k] = c) := ⟨_, hide rfl⟩
              have HT : Hid (L.take (k + 1) = L.take k ++ [c]) := by rw [take_snoc_b hlt, Hc.out]; exact hide rfl
              have hok : okc c = true := List.all_eq_true.1 HAL.out c (by rw [← Hc.out]; exact List.getElem_mem hlt)
              have hsz : k < (⟨L.toArray⟩ : ByteArray).size := by rw [bytes_size]; exact hlt
              obtain ⟨x, hx, Hx⟩ : ∃ x : Nat, ((⟨L.toArray⟩ : ByteArray)[k]'hsz).toNat = x ∧ Hid (c.toNat = x) := ⟨_, rfl, by rw [← Hc.out]; exact hide rfl⟩
              have hrange : x = 46 ∨ (48 ≤ x ∧ x ≤ 57) := okc_range Hx.out hok
              clear Hc hok
              by_cases h46 : x = 46
              · have hb46 : ((x : Int) == 46) = true := by simp; omega
                have DP := hide (digs_point (l := L.take k) (Hx.out.trans h46))
                clear hrange
                go_wp2_with fail
                go_round
                case rel => exact ⟨k + 1, N, by omega, by go_num, rfl, by rw [HT.out, DP.out]; exact HR, n0, n1⟩
                case measure => simp [intOf]; omega
              · have hb46 : ((x : Int) == 46) = false := by simp; omega
                have h1 : 48 ≤ x := by omega
                have h2 : x ≤ 57 := by omega
                have DD := hide (digs_digit (l := L.take k) (c := c) (by rw [Hx.out]; exact h46))
                clear hrange
                by_cases hfit : N ≤ (9223372036854775807 - ((x : Int) - 48)) / 10
                · have RY := hide (rd_yes HR.out hfit)
                  have hn2 : 10 * N + ((x : Int) - 48) ≤ 9223372036854775807 := by omega
                  go_wp2_with fail
                  go_round
                  case rel => exact ⟨k + 1, 10 * N + ((x : Int) - 48), by omega, by go_num, rfl, by rw [HT.out, DD.out, Hx.out, Int.mul_comm 10 N]; exact RY, by omega, hn2⟩
                  case measure => simp [intOf]; omega
                · have H := hide (Hov.out (by
                    rw [HPR.out, ← HD.out, ← List.append_nil (digs L), split_take (k := k + 1), HT.out, DD.out, Hx.out]
                    exact rd_none (rd_no HR.out (by omega))))
                  have hfit2 : (9223372036854775807 - ((x : Int) - 48)) / 10 < N := by omega
                  go_wp2_with fail
                  go_ret2
                  exact ⟨ret_pi H.out.1.symm H.out.2.symm, rfl⟩
            · have HR2 : Hid (rd 0 (digs L) = some N) := by have h := HR.out; rw [List.take_of_length_le (by omega)] at h; exact h
              have H := hide (Hok.out N (by rw [HPR.out, ← HD.out]; exact HR2.out))
              go_wp2_with fail
              go_ret2
              exact ⟨ret_pi H.out.1.symm H.out.2.symm, rfl⟩
theorem refParse_any (l : List UInt8) (s : Int) (w : World) (hl : l.length ≤ 140737488355328) :
    Calls Tryz.prog 49 #[.string ⟨l.toArray⟩, .int .i64 s] w fun e w' => e = .returned (.tuple #[.int .i64 (pV l s), .int .i64 (pE l s)]) ∧ w' = w := by
  by_cases h : s < 0 ∨ 18 < s
  · exact refParse_arg l s w h
  · obtain ⟨b, rfl⟩ := Int.eq_ofNat_of_zero_le (show 0 ≤ s by omega)
    exact refParse_fit l b w hl (by omega)
end Go.Proofs.YthmbfdjbjljaiaaGreatDoor
