/-
  My own text: what the laws on slips call.
-/
import Derived.Test.YtkpmmcekcpbilabDoorSlip
namespace Go.Proofs.YtkpmmcekcpbilabDoor
open Go.RowKit

theorem lawDigit_any (c : UInt8) (w : World) :
    Calls Tryd.prog 8 #[.int .u8 (c.toNat : Int)] w fun e w' => e = .returned (.bool (isDg c)) ∧ w' = w := by
  obtain ⟨x, hx, Hx⟩ : ∃ x : Nat, c.toNat = x ∧ Hid (c.toNat = x) := ⟨_, rfl, hide rfl⟩
  rw [hx]; clear hx
  by_cases h1 : x < 48
  · have H := hide (isDg_no Hx.out (.inl h1))
    go_enter Tryd.func8, Tryd.ntmps8
    go_wp2
    go_ret
    exact ⟨ret_b (by rw [H.out]; try (simp; omega)), rfl⟩
  by_cases h2 : 57 < x
  · have H := hide (isDg_no Hx.out (.inr h2))
    go_enter Tryd.func8, Tryd.ntmps8
    go_wp2
    go_ret
    exact ⟨ret_b (by rw [H.out]; try (simp; omega)), rfl⟩
  have H := hide (isDg_yes Hx.out (by omega) (by omega))
  go_enter Tryd.func8, Tryd.ntmps8
  go_wp2
  go_ret
  exact ⟨ret_b (by rw [H.out]; try (simp; omega)), rfl⟩
theorem lawCapital_any (c : UInt8) (w : World) :
    Calls Tryd.prog 14 #[.int .u8 (c.toNat : Int)] w fun e w' => e = .returned (.bool (isCp c)) ∧ w' = w := by
  obtain ⟨x, hx, Hx⟩ : ∃ x : Nat, c.toNat = x ∧ Hid (c.toNat = x) := ⟨_, rfl, hide rfl⟩
  rw [hx]; clear hx
  by_cases h1 : x < 65
  · have H := hide (isCp_no Hx.out (.inl h1))
    go_enter Tryd.func14, Tryd.ntmps14
    go_wp2
    go_ret
    exact ⟨ret_b (by rw [H.out]; try (simp; omega)), rfl⟩
  by_cases h2 : 90 < x
  · have H := hide (isCp_no Hx.out (.inr h2))
    go_enter Tryd.func14, Tryd.ntmps14
    go_wp2
    go_ret
    exact ⟨ret_b (by rw [H.out]; try (simp; omega)), rfl⟩
  have H := hide (isCp_yes Hx.out (by omega) (by omega))
  go_enter Tryd.func14, Tryd.ntmps14
  go_wp2
  go_ret
  exact ⟨ret_b (by rw [H.out]; try (simp; omega)), rfl⟩
set_option maxHeartbeats 1000000 in
theorem pick_any (a : Int) (n : Nat) (w : World) (hn : 1 ≤ n) (hn2 : n ≤ 100) :
    Calls Tryd.prog 7 #[.int .i64 a, .int .i64 (n : Int)] w fun e w' => ∃ k : Nat, k < n ∧ e = .returned (.int .i64 (k : Int)) ∧ w' = w := by
  have hz : ((n : Int) == 0) = false := by simp; omega
  have hb1 : a.tmod n < n := Int.tmod_lt_of_pos a (by omega)
  have hb2 : -(n : Int) < a.tmod n := by
    have h := Int.lt_tmod_of_pos a (b := (n : Int)) (by omega)
    exact h
  obtain ⟨r, hr⟩ : ∃ r, a.tmod n = r := ⟨_, rfl⟩
  rw [hr] at hb1 hb2
  by_cases hneg : r < 0
  · obtain ⟨k, hk⟩ := Int.eq_ofNat_of_zero_le (show 0 ≤ r + n by omega)
    have HK := hide hk
    clear hk
    go_enter Tryd.func7, Tryd.ntmps7
    go_wp2
    go_ret
    exact ⟨k, by have := HK.out; omega, congrArg (fun z => Ending.returned (.int .i64 z)) HK.out, rfl⟩
  · obtain ⟨k, hk⟩ := Int.eq_ofNat_of_zero_le (show 0 ≤ r by omega)
    subst hk
    go_enter Tryd.func7, Tryd.ntmps7
    go_wp2
    go_ret
    exact ⟨k, by omega, rfl, rfl⟩
set_option maxRecDepth 100000 in
set_option maxHeartbeats 2000000 in
theorem turned_any (l : List UInt8) (k : Nat) (w : World) (hE : ErrType w) (hk : k + 1 < l.length) (hl : l.length ≤ 100) :
    Calls Tryd.prog 12 #[.string ⟨l.toArray⟩, .int .i64 (k : Int)] w fun e w' => e = .returned (.string ⟨(turnL l k).toArray⟩) ∧ Below w.heap.size w w' := by
  have hk0 : k < l.length := by omega
  have hs1 : k < (⟨l.toArray⟩ : ByteArray).size := by rw [bytes_size]; exact hk0
  have hs2 : k + 1 < (⟨l.toArray⟩ : ByteArray).size := by rw [bytes_size]; exact hk
  obtain ⟨x, hx, Hx⟩ : ∃ x, (⟨l.toArray⟩ : ByteArray)[k]'hs1 = x ∧ Hid (l.getD k 0 = x) := ⟨_, rfl, by rw [getD_at hk0]; exact hide rfl⟩
  obtain ⟨y, hy, Hy⟩ : ∃ y, (⟨l.toArray⟩ : ByteArray)[k + 1]'hs2 = y ∧ Hid (l.getD (k + 1) 0 = y) := ⟨_, rfl, by rw [getD_at hk]; exact hide rfl⟩
  have HP1 := hide (fun W : World => put_any l k y W hk0 hl)
  have HPL := hide (putL_len (c := y) hk0)
  have HP2 := hide (fun W : World => put_any (putL l k y) (k + 1) x W (by rw [HPL.out]; exact hk) (by rw [HPL.out]; exact hl))
  have HT : Hid (turnL l k = putL (putL l k y) (k + 1) x) := by show _ = _; unfold turnL; rw [Hx.out, Hy.out]
  rw [HT.out]
  obtain ⟨A, HA⟩ : ∃ A, Hid (putL l k y = A) := ⟨_, hide rfl⟩
  rw [HA.out] at HP1 HP2 ⊢
  obtain ⟨B, HB⟩ : ∃ B, Hid (putL A (k + 1) x = B) := ⟨_, hide rfl⟩
  rw [HB.out] at HP2 ⊢
  have HX := hide (show w.drew.rangeAt 0 0 [] ∧ ErrType w.drew ∧ Below w.heap.size w w.drew from ⟨fun j v hv => by simp at hv, hE, (Below.refl _ _).drew⟩)
  haveI : Nonempty (Grown w 0 []) := ⟨⟨_, HX.out⟩⟩
  clear HT HA HB HPL hE
  go_enter Tryd.func12, Tryd.ntmps12
  go_wp2_with fail
  refine region_class (C := fun w' => ∃ x : Grown w 0 [], w' = x.1) (by kernel_rfl) (by kernel_rfl) ⟨⟨_, HX.out⟩, rfl⟩ ?_
  repeat (first
    | go_big_quiet_skip
    | (go_big_quiet_want; go_big_quiet_op; first
        | go_big_quiet_on
        | (apply Exists.intro; refine ⟨fun x => ?_, ?_⟩; (first
            | (go_at_call_of 10 A; exact x.call (HP2.out x.1))
            | (go_at_call_of 10 l; exact x.call (HP1.out x.1))); go_big_quiet_on)))
  refine wpQuiet_nil ?_
  rintro w3 ⟨x, rfl⟩
  obtain ⟨w3, hw3⟩ := x
  have HB3 : Hid (Below w.heap.size w w3) := hide hw3.2.2
  dsimp only
  clear hw3 HX this
  go_wp2_with fail
  go_ret
  exact ⟨rfl, HB3.out⟩
end Go.Proofs.YtkpmmcekcpbilabDoor
