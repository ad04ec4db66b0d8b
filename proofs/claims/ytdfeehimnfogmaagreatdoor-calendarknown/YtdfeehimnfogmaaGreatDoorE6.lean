/-
  My own text: stepping over business days, counting them: the program's.
-/
import Derived.Test.YtdfeehimnfogmaaGreatDoorE4
import Derived.Test.YtdfeehimnfogmaaGreatDoorE5
import Derived.Test.YtdfeehimnfogmaaGreatDoorD9
namespace Go.Proofs.YtdfeehimnfogmaaGreatDoor
open Go.RowKit Go.Maps

theorem count_cn (p b : Nat) (we : Nat → Bool) (F : Int → Bool) (x y : Int) (w : World) (HC : Hid (Cal w p b we F)) (HS : Hid (∀ x, F x = true → weB we x = false)) (h1 : 1 ≤ x) (h2 : x ≤ y) (h3 : y ≤ 3652060) :
    Calls Tryz.prog 43 #[.pointer (some ⟨p, 0, none⟩), .int .i64 x, .int .i64 y] w fun e w' => e = .returned (.int .i64 (cn (bizB we F) x y)) ∧ Below w.heap.size w w' := by
  have h := count_any p b we F x (y - x).toNat w HC HS h1 (by omega)
  rw [show x + (((y - x).toNat : Nat) : Int) = y by omega] at h
  exact h
def AddS (g : Int → Bool) (n k v x : Int) : Prop := (dayB n = false ∧ v = 0 ∧ x = 8) ∨ (dayB n = true ∧ AddR g n k v x)
set_option maxRecDepth 100000 in
set_option maxHeartbeats 2000000 in
theorem Add_any (p b : Nat) (we : Nat → Bool) (F : Int → Bool) (n k : Int) (w : World) (HC : Hid (Cal w p b we F)) (HS : Hid (∀ x, F x = true → weB we x = false)) (k1 : -9223372036854775808 ≤ k) (k2 : k ≤ 9223372036854775807) :
    Calls Tryz.prog 19 #[.pointer (some ⟨p, 0, none⟩), .int .i64 n, .int .i64 k] w fun e w' => (∃ v x, e = .returned (.tuple #[.int .i64 v, errV x]) ∧ AddS (bizB we F) n k v x) ∧ Below w.heap.size w w' := by
  have HI := hide (fun W : World => isDay_any n W)
  cases hd : dayB n
  · have HDN := hide hd
    rw [hd] at HI
    clear hd
    go_enter Tryz.func19, Tryz.ntmps19
    go_wp2_with (go_at_call 32; refine (HI.out _).mono ?_; rintro e w' ⟨rfl, hw'⟩; have hw' := hw'.symm; subst hw')
    go_ret2
    exact ⟨⟨0, 8, rfl, .inl ⟨HDN.out, rfl, rfl⟩⟩, Below.refl _ _⟩
  · have HDY := hide hd
    rw [hd] at HI
    obtain ⟨n1, n2⟩ := (dayB_iff n).1 hd
    clear hd
    by_cases hk : 0 ≤ k
    · go_enter Tryz.func19, Tryz.ntmps19
      go_wp2_with (go_at_call 32; refine (HI.out _).mono ?_; rintro e w' ⟨rfl, hw'⟩; have hw' := hw'.symm; subst hw')
      go_loopw [1, 2] (fun m j wr => ∃ (m' j' : Int), m = .int .i64 m' ∧ j = .int .i64 j' ∧ 1 ≤ m' ∧ m' ≤ 3652059 ∧ 0 ≤ j' ∧ -9223372036854775808 ≤ j' ∧ j' ≤ 9223372036854775807 ∧ Hid (AddI (bizB we F) n k m' j') ∧ Hid (Below w.heap.size w wr)) (fun m _ _ => (3652059 - intOf m).toNat)
      case atStart => exact ⟨n, k, rfl, rfl, n1, n2, by omega, k1, k2, hide (AddI.start _ k n1 n2), hide (Below.refl _ _)⟩
      case round =>
        obtain ⟨m, j, rfl, rfl, m1, m2, j0, j1, j2, HA, HB⟩ := hrel
        by_cases hj : j = 0
        · subst hj
          have HD := hide (AddI.done HA.out)
          go_wp2
          go_ret2
          exact ⟨⟨m, 0, rfl, .inr ⟨HDY.out, HD.out⟩⟩, HB.out⟩
        have hjn : (j == 0) = false := by simpa using hj
        have hjn2 : (j != 0) = true := by simpa using hj
        by_cases hf : 3652059 - m < j
        · have HD := hide (AddI.out n1 n2 HA.out (.inl hf))
          skip
          go_wp2
          go_ret2
          exact ⟨⟨0, 8, rfl, .inr ⟨HDY.out, HD.out⟩⟩, HB.out⟩
        have hf2 : ¬ j < 1 - m := by omega
        have hpos : 0 < j := by omega
        have HI := hide (AddI.up HA.out (by omega) (by omega))
        have HCT := hide (fun (W : World) (h : Cal W p b we F) => count_cn p b we F (m + 1) (m + j + 1) W (hide h) HS (by omega) (by omega) (by omega))
        have hcb := cn_b (bizB we F) (show (m + 1 : Int) ≤ m + j + 1 by omega)
        obtain ⟨c, HCE⟩ : ∃ c, Hid (cn (bizB we F) (m + 1) (m + j + 1) = c) := ⟨_, hide rfl⟩
        rw [HCE.out] at HI HCT hcb
        obtain ⟨c0, c1⟩ := hcb
        go_wp2_with (go_at_call 43; refine (HCT.out _ (HC.out.later HB.out)).mono ?_; rintro e w2 ⟨rfl, hb2⟩)
        go_roundw
        case rel => exact ⟨m + j, j - c, by go_num, by go_num, by omega, by omega, by omega, by omega, by omega, HI, hide (HB.out.trans (hb2.mono HB.out.size))⟩
        case measure => simp [intOf]; omega
    · go_enter Tryz.func19, Tryz.ntmps19
      go_wp2_with (go_at_call 32; refine (HI.out _).mono ?_; rintro e w' ⟨rfl, hw'⟩; have hw' := hw'.symm; subst hw')
      go_loopw [1, 2] (fun m j wr => ∃ (m' j' : Int), m = .int .i64 m' ∧ j = .int .i64 j' ∧ 1 ≤ m' ∧ m' ≤ 3652059 ∧ j' ≤ 0 ∧ -9223372036854775808 ≤ j' ∧ j' ≤ 9223372036854775807 ∧ Hid (AddI (bizB we F) n k m' j') ∧ Hid (Below w.heap.size w wr)) (fun m _ _ => (intOf m).toNat)
      case atStart => exact ⟨n, k, rfl, rfl, n1, n2, by omega, k1, k2, hide (AddI.start _ k n1 n2), hide (Below.refl _ _)⟩
      case round =>
        obtain ⟨m, j, rfl, rfl, m1, m2, j0, j1, j2, HA, HB⟩ := hrel
        by_cases hj : j = 0
        · subst hj
          have HD := hide (AddI.done HA.out)
          go_wp2
          go_ret2
          exact ⟨⟨m, 0, rfl, .inr ⟨HDY.out, HD.out⟩⟩, HB.out⟩
        have hjn : (j == 0) = false := by simpa using hj
        have hjn2 : (j != 0) = true := by simpa using hj
        by_cases hf : j < 1 - m
        · have HD := hide (AddI.out n1 n2 HA.out (.inr hf))
          have hf2 : ¬ 3652059 - m < j := by omega
          go_wp2
          go_ret2
          exact ⟨⟨0, 8, rfl, .inr ⟨HDY.out, HD.out⟩⟩, HB.out⟩
        have hf2 : ¬ 3652059 - m < j := by omega
        have hpos : ¬ 0 < j := by omega
        have HI := hide (AddI.down HA.out (by omega) (by omega))
        have HCT := hide (fun (W : World) (h : Cal W p b we F) => count_cn p b we F (m + j) (m) W (hide h) HS (by omega) (by omega) (by omega))
        have hcb := cn_b (bizB we F) (show (m + j : Int) ≤ m by omega)
        obtain ⟨c, HCE⟩ : ∃ c, Hid (cn (bizB we F) (m + j) (m) = c) := ⟨_, hide rfl⟩
        rw [HCE.out] at HI HCT hcb
        obtain ⟨c0, c1⟩ := hcb
        go_wp2_with (go_at_call 43; refine (HCT.out _ (HC.out.later HB.out)).mono ?_; rintro e w2 ⟨rfl, hb2⟩)
        go_roundw
        case rel => exact ⟨m + j, j + c, by go_num, by go_num, by omega, by omega, by omega, by omega, by omega, HI, hide (HB.out.trans (hb2.mono HB.out.size))⟩
        case measure => simp [intOf]; omega
end Go.Proofs.YtdfeehimnfogmaaGreatDoor
