/-
  My own text: decimal texts, read: by the program, and by the document's answer.
-/
import Derived.Test.YthmbfdjbjljaiaaGreatDoorTexts
import Derived.Test.YthmbfdjbjljaiaaGreatDoorParseMath
namespace Go.Proofs.YthmbfdjbjljaiaaGreatDoor
open Go.RowKit

theorem ret_ib {a c : Int} {b d : Bool} (h : a = c) (h' : b = d) : Ending.returned (.tuple #[.int .i64 a, .bool b]) = .returned (.tuple #[.int .i64 c, .bool d]) := by rw [h, h']
theorem isNum_bad {l : List UInt8} {c : UInt8} (hc : c ∈ l) (h : okc c = false) : isNum l = false := by
  unfold isNum
  have : l.all okc = false := by
    rw [Bool.eq_false_iff]; intro h2
    have := List.all_eq_true.1 h2 c hc
    rw [h] at this; cases this
  rw [this]; rfl

/-- how many digits stand behind the point; 0 of no numeral -/
def behind (l : List UInt8) : Int := if isNum l = true then ((st l).2.2 : Int) else 0
theorem behind_yes {l : List UInt8} (h : isNum l = true) : behind l = ((st l).2.2 : Int) := if_pos h
theorem behind_no {l : List UInt8} (h : isNum l = false) : behind l = 0 := if_neg (by rw [h]; decide)
theorem okc_no {c : UInt8} {x : Nat} (h : c.toNat = x) (h1 : x ≠ 46) (h2 : x < 48 ∨ 57 < x) : okc c = false := by
  unfold okc; rw [h]; simp; omega
theorem okc_yes {c : UInt8} {x : Nat} (h : c.toNat = x) (h2 : x = 46 ∨ (48 ≤ x ∧ x ≤ 57)) : okc c = true := by
  unfold okc; rw [h]; simp; omega
theorem all_snoc {l : List UInt8} {c : UInt8} (h : l.all okc = true) (hc : okc c = true) : (l ++ [c]).all okc = true := by simp [h, hc]
theorem step_point {t : Nat × Nat × Nat} {c : UInt8} (h : c.toNat = 46) : step t c = (t.1, t.2.1 + 1, t.2.2) := if_pos h
theorem step_digit {t : Nat × Nat × Nat} {c : UInt8} (h : c.toNat ≠ 46) : step t c = (t.1 + 1, t.2.1, t.2.2 + t.2.1) := if_neg h
theorem stepR_point {t : Nat × Nat × Nat} {c : UInt8} (h : c.toNat = 46) : stepR t c = (t.1, t.2.1 + 1, t.2.2) := if_pos h
theorem stepR_digit {t : Nat × Nat × Nat} {c : UInt8} (h : c.toNat ≠ 46) : stepR t c = (t.1 + 1, t.2.1, if 0 < t.2.1 then t.2.2 + 1 else t.2.2) := if_neg h

set_option maxRecDepth 100000 in
set_option maxHeartbeats 1000000 in
theorem numeral_any (l : List UInt8) (w : World) (hl : l.length ≤ 140737488355328) :
    Calls Tryz.prog 53 #[.string ⟨l.toArray⟩] w fun e w' => e = .returned (.tuple #[.int .i64 (behind l), .bool (isNum l)]) ∧ w' = w := by
  go_enter Tryz.func53, Tryz.ntmps53
  go_wp2
  go_loop [4, 5, 6, 11] (fun d p b i => ∃ (k D Q : Nat) (B : Int), k ≤ l.length ∧ i = .int .i64 k ∧ d = .int .i64 D ∧ p = .int .i64 Q ∧ b = .int .i64 B ∧ Hid ((l.take k).all okc = true) ∧ Hid ((st (l.take k)).1 = D ∧ (st (l.take k)).2.1 = Q ∧ (Q ≤ 1 → B = ((st (l.take k)).2.2 : Int))) ∧ D ≤ k ∧ Q ≤ k ∧ (Q ≤ 1 → 0 ≤ B ∧ B ≤ k)) (fun _ _ _ i => l.length - (intOf i).toNat)
  case atStart => exact ⟨0, 0, 0, 0, Nat.zero_le _, rfl, rfl, rfl, rfl, rfl, ⟨rfl, rfl, fun _ => rfl⟩, by omega, by omega, fun _ => by omega⟩
  case round =>
    obtain ⟨k, D, Q, B, hk, rfl, rfl, rfl, rfl, HA, HS, hd, hp, hB⟩ := hrel
    have HB := hide hB
    clear hB
    by_cases hlt : k < l.length
    · obtain ⟨c, Hc⟩ : ∃ c, Hid (l[k] = c) := ⟨_, hide rfl⟩
      have HT : Hid (l.take (k + 1) = l.take k ++ [c]) := by rw [take_snoc_b hlt, Hc.out]; exact hide rfl
      have HM : Hid (c ∈ l) := by rw [← Hc.out]; exact List.getElem_mem hlt
      have hsz : k < (⟨l.toArray⟩ : ByteArray).size := by rw [bytes_size]; exact hlt
      obtain ⟨x, hx, Hx⟩ : ∃ x : Nat, ((⟨l.toArray⟩ : ByteArray)[k]'hsz).toNat = x ∧ Hid (c.toNat = x) := ⟨_, rfl, by rw [← Hc.out]; exact hide rfl⟩
      clear Hc
      by_cases h46 : x = 46
      · have hb : ((x : Int) == 46) = true := by simp; omega
        have ST := hide (step_point (t := st (l.take k)) (c := c) (Hx.out.trans h46))
        have OK := hide (okc_yes Hx.out (.inl h46))
        go_wp2
        go_round
        case rel =>
          refine ⟨k + 1, D, Q + 1, B, by omega, by go_num, rfl, by go_num, rfl, ?_, ?_, by omega, by omega, fun h => ?_⟩
          · rw [HT.out]; exact all_snoc HA.out OK.out
          · rw [HT.out, st_snoc, ST.out]
            exact ⟨HS.out.1, by show _ + 1 = _; rw [HS.out.2.1], fun h => HS.out.2.2 (by omega)⟩
          · have := HB.out (by omega); omega
        case measure => simp [intOf]; omega
      · have hb : ((x : Int) == 46) = false := by simp; omega
        by_cases hbad : x < 48 ∨ 57 < x
        · have NB := hide (isNum_bad HM.out (okc_no Hx.out h46 hbad))
          have BN := hide (behind_no NB.out)
          by_cases h48 : x < 48
          · go_wp2
            go_ret2
            exact ⟨ret_ib BN.out.symm NB.out.symm, rfl⟩
          · have h57 : 57 < x := by omega
            clear hbad
            go_wp2
            go_ret2
            exact ⟨ret_ib BN.out.symm NB.out.symm, rfl⟩
        · have h1 : 48 ≤ x := by omega
          have h2 : x ≤ 57 := by omega
          clear hbad
          have ST := hide (step_digit (t := st (l.take k)) (c := c) (by rw [Hx.out]; exact h46))
          have OK := hide (okc_yes Hx.out (.inr ⟨h1, h2⟩))
          by_cases hq : Q ≤ 1
          · have hBB := HB.out hq
            go_wp2
            go_round
            case rel =>
              refine ⟨k + 1, D + 1, Q, B + Q, by omega, by go_num, by go_num, rfl, rfl, ?_, ?_, by omega, by omega, fun h => by omega⟩
              · rw [HT.out]; exact all_snoc HA.out OK.out
              · rw [HT.out, st_snoc, ST.out]
                refine ⟨by show _ + 1 = _; rw [HS.out.1], HS.out.2.1, fun h => ?_⟩
                show B + Q = ((((st (l.take k)).2.2 + (st (l.take k)).2.1 : Nat)) : Int)
                have := HS.out.2.2 h
                have := HS.out.2.1
                omega
            case measure => simp [intOf]; omega
          · go_wp2
            go_round
            case rel =>
              refine ⟨k + 1, D + 1, Q, _, by omega, by go_num, by go_num, rfl, rfl, ?_, ?_, by omega, by omega, fun h => absurd h hq⟩
              · rw [HT.out]; exact all_snoc HA.out OK.out
              · rw [HT.out, st_snoc, ST.out]
                exact ⟨by show _ + 1 = _; rw [HS.out.1], HS.out.2.1, fun h => absurd h hq⟩
            case measure => simp [intOf]; omega
    · have hk' : l.take k = l := List.take_of_length_le (by omega)
      rw [hk'] at HA HS
      by_cases hyes : 0 < D ∧ Q ≤ 1
      · have NY : Hid (isNum l = true) := by
          show isNum l = true
          unfold isNum; rw [HA.out, HS.out.1, HS.out.2.1]; simp; omega
        have BY := hide (behind_yes NY.out)
        have E := hide (HS.out.2.2 hyes.2)
        obtain ⟨y1, y2⟩ := hyes
        have hD0 : ((D : Int) == 0) = false := by simp; omega
        go_wp2
        go_ret2
        exact ⟨ret_ib (E.out.trans BY.out.symm) NY.out.symm, rfl⟩
      · have NN : Hid (isNum l = false) := by
          show isNum l = false
          unfold isNum; rw [HA.out, HS.out.1, HS.out.2.1]; simp; omega
        have BN := hide (behind_no NN.out)
        by_cases hD : D = 0
        · have hD0 : ((D : Int) == 0) = true := by simp; omega
          go_wp2
          go_ret2
          exact ⟨ret_ib BN.out.symm NN.out.symm, rfl⟩
        · have hD0 : ((D : Int) == 0) = false := by simp; omega
          have hQ : 1 < Q := by omega
          go_wp2
          go_ret2
          exact ⟨ret_ib BN.out.symm NN.out.symm, rfl⟩

set_option maxRecDepth 100000 in
set_option maxHeartbeats 1000000 in
theorem refNumeral_any (l : List UInt8) (w : World) (hl : l.length ≤ 140737488355328) :
    Calls Tryz.prog 78 #[.string ⟨l.toArray⟩] w fun e w' => ∃ x, e = .returned (.tuple #[.int .i64 x, .bool (isNum l)]) ∧ (isNum l = true → x = behind l) ∧ w' = w := by
  go_enter Tryz.func78, Tryz.ntmps78
  go_wp2
  go_loop [4, 5, 6, 7] (fun d b p i => ∃ (k D Q B : Nat), k ≤ l.length ∧ i = .int .i64 k ∧ d = .int .i64 D ∧ p = .int .i64 Q ∧ b = .int .i64 B ∧ Hid ((l.take k).all okc = true) ∧ Hid (stR (l.take k) = (D, Q, B)) ∧ D ≤ k ∧ Q ≤ k ∧ B ≤ k) (fun _ _ _ i => l.length - (intOf i).toNat)
  case atStart => exact ⟨0, 0, 0, 0, Nat.zero_le _, rfl, rfl, rfl, rfl, rfl, rfl, by omega, by omega, by omega⟩
  case round =>
    obtain ⟨k, D, Q, B, hk, rfl, rfl, rfl, rfl, HA, HS, hd, hp, hB⟩ := hrel
    by_cases hlt : k < l.length
    · obtain ⟨c, Hc⟩ : ∃ c, Hid (l[k] = c) := ⟨_, hide rfl⟩
      have HT : Hid (l.take (k + 1) = l.take k ++ [c]) := by rw [take_snoc_b hlt, Hc.out]; exact hide rfl
      have HM : Hid (c ∈ l) := by rw [← Hc.out]; exact List.getElem_mem hlt
      have hsz : k < (⟨l.toArray⟩ : ByteArray).size := by rw [bytes_size]; exact hlt
      obtain ⟨x, hx, Hx⟩ : ∃ x : Nat, ((⟨l.toArray⟩ : ByteArray)[k]'hsz).toNat = x ∧ Hid (c.toNat = x) := ⟨_, rfl, by rw [← Hc.out]; exact hide rfl⟩
      clear Hc
      by_cases h46 : x = 46
      · have hb : ((x : Int) == 46) = true := by simp; omega
        have ST := hide (stepR_point (t := stR (l.take k)) (c := c) (Hx.out.trans h46))
        have OK := hide (okc_yes Hx.out (.inl h46))
        go_wp2
        go_round
        case rel =>
          refine ⟨k + 1, D, Q + 1, B, by omega, by go_num, rfl, by go_num, rfl, ?_, ?_, by omega, by omega, by omega⟩
          · rw [HT.out]; exact all_snoc HA.out OK.out
          · rw [HT.out, stR_snoc, ST.out, HS.out]; exact hide rfl
        case measure => simp [intOf]; omega
      · have hb : ((x : Int) == 46) = false := by simp; omega
        by_cases hbad : x < 48 ∨ 57 < x
        · have NB := hide (isNum_bad HM.out (okc_no Hx.out h46 hbad))
          by_cases h48 : x < 48
          · go_wp2
            go_ret2
            exact ⟨0, ret_ib rfl NB.out.symm, fun h => absurd (NB.out.symm.trans h) (by decide), rfl⟩
          · have h57 : 57 < x := by omega
            clear hbad
            go_wp2
            go_ret2
            exact ⟨0, ret_ib rfl NB.out.symm, fun h => absurd (NB.out.symm.trans h) (by decide), rfl⟩
        · have h1 : 48 ≤ x := by omega
          have h2 : x ≤ 57 := by omega
          clear hbad
          have ST := hide (stepR_digit (t := stR (l.take k)) (c := c) (by rw [Hx.out]; exact h46))
          have OK := hide (okc_yes Hx.out (.inr ⟨h1, h2⟩))
          by_cases hq : 0 < Q
          · go_wp2
            go_round
            case rel =>
              refine ⟨k + 1, D + 1, Q, B + 1, by omega, by go_num, by go_num, rfl, by go_num, ?_, ?_, by omega, by omega, by omega⟩
              · rw [HT.out]; exact all_snoc HA.out OK.out
              · rw [HT.out, stR_snoc, ST.out, HS.out]; show (_, _, if 0 < Q then B + 1 else B) = _; rw [if_pos hq]
            case measure => simp [intOf]; omega
          · go_wp2
            go_round
            case rel =>
              refine ⟨k + 1, D + 1, Q, B, by omega, by go_num, by go_num, rfl, rfl, ?_, ?_, by omega, by omega, by omega⟩
              · rw [HT.out]; exact all_snoc HA.out OK.out
              · rw [HT.out, stR_snoc, ST.out, HS.out]; show (_, _, if 0 < Q then B + 1 else B) = _; rw [if_neg hq]
            case measure => simp [intOf]; omega
    · have hk' : l.take k = l := List.take_of_length_le (by omega)
      rw [hk'] at HA HS
      have HE := hide (st_stR l)
      have HD : Hid ((st l).1 = D ∧ (st l).2.1 = Q) := ⟨by rw [HE.out.1, HS.out], by rw [HE.out.2.1, HS.out]⟩
      by_cases hyes : 0 < D ∧ Q ≤ 1
      · have NY : Hid (isNum l = true) := by
          show isNum l = true
          unfold isNum; rw [HA.out, HD.out.1, HD.out.2]; simp; omega
        have E : Hid ((B : Int) = behind l) := by
          show (B : Int) = behind l
          rw [behind_yes NY.out, HE.out.2.2 (by rw [HD.out.2]; exact hyes.2), HS.out]
        obtain ⟨y1, y2⟩ := hyes
        go_wp2
        go_ret2
        exact ⟨B, ret_ib rfl ((show decide ((Q : Int) ≤ 1) = true by simp; omega).trans NY.out.symm), fun _ => E.out, rfl⟩
      · have NN : Hid (isNum l = false) := by
          show isNum l = false
          unfold isNum; rw [HA.out, HD.out.1, HD.out.2]; simp; omega
        by_cases hD : 0 < D
        · have hQ : ¬ Q ≤ 1 := by omega
          go_wp2
          go_ret2
          exact ⟨B, ret_ib rfl ((show decide ((Q : Int) ≤ 1) = false by simp; omega).trans NN.out.symm), fun h => absurd (NN.out.symm.trans h) (by decide), rfl⟩
        · go_wp2
          go_ret2
          exact ⟨B, ret_ib rfl NN.out.symm, fun h => absurd (NN.out.symm.trans h) (by decide), rfl⟩
set_option maxHeartbeats 400000 in
theorem appendDigit_yes (n d : Int) (w : World) (n0 : 0 ≤ n) (d0 : 0 ≤ d) (d1 : d ≤ 9) (h : n ≤ (9223372036854775807 - d) / 10) :
    Calls Tryz.prog 54 #[.int .i64 n, .int .i64 d] w fun e w' => e = .returned (.tuple #[.int .i64 (n * 10 + d), .bool true]) ∧ w' = w := by
  have h2 : n * 10 + d ≤ 9223372036854775807 := by omega
  go_enter Tryz.func54, Tryz.ntmps54
  go_wp2
  go_ret2
  exact ⟨rfl, rfl⟩
set_option maxHeartbeats 400000 in
theorem appendDigit_no (n d : Int) (w : World) (d0 : 0 ≤ d) (d1 : d ≤ 9) (h : (9223372036854775807 - d) / 10 < n) :
    Calls Tryz.prog 54 #[.int .i64 n, .int .i64 d] w fun e w' => e = .returned (.tuple #[.int .i64 0, .bool false]) ∧ w' = w := by
  go_enter Tryz.func54, Tryz.ntmps54
  go_wp2
  go_ret2
  exact ⟨rfl, rfl⟩
end Go.Proofs.YthmbfdjbjljaiaaGreatDoor
