/-
  My own text: how many bytes a number needs (printed by mkw2.py).
-/
import Derived.Test.YthalmfbcdkihgaaDoorW1
import Derived.Lib.Tables
import Derived.Lib.BitFns
namespace Go.Proofs.YthalmfbcdkihgaaDoor
open Go.RowKit Go.Extern

theorem len8_rng {b : Int} (h1 : 1 ≤ b) (h2 : b ≤ 255) : 1 ≤ Lib.len8 b ∧ Lib.len8 b ≤ 8 := by
  rw [Lib.len8_of b (by omega) h2]
  have h3 := Lib.bitLen_le8' b (by omega) h2
  have h4 := Lib.bitLen_half b.toNat (by omega) (by omega)
  omega
theorem len8_at (b : Int) (h : b.toNat < Lib.len8tab.size) : ((Lib.len8tab[b.toNat]'h).toNat : Int) = Lib.len8 b := by
  unfold Lib.len8
  rw [getElem?_pos Lib.len8tab b.toNat h]; rfl
theorem ret_i {k : IntKind} {a b : Int} (h : a = b) : Ending.returned (.int k a) = .returned (.int k b) := by rw [h]

set_option maxRecDepth 100000 in
set_option maxHeartbeats 1000000 in
theorem len_1 (x : Int) (w : World) (h1 : 248 ≤ x) (h2 : x < 256) :
    Calls Tryd.prog 75 #[.int .u64 x] w fun e w' => (∃ t : Int, e = .returned (.int .i64 (0 + t)) ∧ 1 ≤ t ∧ t ≤ 8) ∧ w' = w := by
  have g0 : ¬ 4294967296 ≤ x := by omega
  have g1 : ¬ 65536 ≤ x := by omega
  have g2 : ¬ 256 ≤ x := by omega
  have g3 : 0 ≤ x := by omega
  have g4 : x < 256 := by omega
  have g5 : 1 ≤ x := by omega
  obtain ⟨l1, l2⟩ := len8_rng (b := x) (by omega) (by omega)
  go_enter Tryd.func75, Tryd.ntmps75
  go_wp2
  go_ret
  exact ⟨⟨Lib.len8 (x), ret_i (by rw [len8_at]; simp only [wrap64]; omega), l1, l2⟩, rfl⟩

set_option maxRecDepth 100000 in
set_option maxHeartbeats 1000000 in
theorem len_2 (x : Int) (w : World) (h1 : 256 ≤ x) (h2 : x < 65536) :
    Calls Tryd.prog 75 #[.int .u64 x] w fun e w' => (∃ t : Int, e = .returned (.int .i64 (8 + t)) ∧ 1 ≤ t ∧ t ≤ 8) ∧ w' = w := by
  have g0 : ¬ 4294967296 ≤ x := by omega
  have g1 : ¬ 65536 ≤ x := by omega
  have g2 : 256 ≤ x := by omega
  have g3 : 0 ≤ x / 256 := by omega
  have g4 : x / 256 < 256 := by omega
  have g5 : 1 ≤ x / 256 := by omega
  obtain ⟨l1, l2⟩ := len8_rng (b := x / 256) (by omega) (by omega)
  go_enter Tryd.func75, Tryd.ntmps75
  go_wp2
  go_ret
  exact ⟨⟨Lib.len8 (x / 256), ret_i (by rw [len8_at]; simp only [wrap64]; omega), l1, l2⟩, rfl⟩

set_option maxRecDepth 100000 in
set_option maxHeartbeats 1000000 in
theorem len_3 (x : Int) (w : World) (h1 : 65536 ≤ x) (h2 : x < 16777216) :
    Calls Tryd.prog 75 #[.int .u64 x] w fun e w' => (∃ t : Int, e = .returned (.int .i64 (16 + t)) ∧ 1 ≤ t ∧ t ≤ 8) ∧ w' = w := by
  have g0 : ¬ 4294967296 ≤ x := by omega
  have g1 : 65536 ≤ x := by omega
  have g2 : ¬ 256 ≤ x / 65536 := by omega
  have g3 : 0 ≤ x / 65536 := by omega
  have g4 : x / 65536 < 256 := by omega
  have g5 : 1 ≤ x / 65536 := by omega
  obtain ⟨l1, l2⟩ := len8_rng (b := x / 65536) (by omega) (by omega)
  go_enter Tryd.func75, Tryd.ntmps75
  go_wp2
  go_ret
  exact ⟨⟨Lib.len8 (x / 65536), ret_i (by rw [len8_at]; simp only [wrap64]; omega), l1, l2⟩, rfl⟩

set_option maxRecDepth 100000 in
set_option maxHeartbeats 1000000 in
theorem len_4 (x : Int) (w : World) (h1 : 16777216 ≤ x) (h2 : x < 4294967296) :
    Calls Tryd.prog 75 #[.int .u64 x] w fun e w' => (∃ t : Int, e = .returned (.int .i64 (24 + t)) ∧ 1 ≤ t ∧ t ≤ 8) ∧ w' = w := by
  have g0 : ¬ 4294967296 ≤ x := by omega
  have g1 : 65536 ≤ x := by omega
  have g2 : 256 ≤ x / 65536 := by omega
  have g3 : 0 ≤ x / 65536 / 256 := by omega
  have g4 : x / 65536 / 256 < 256 := by omega
  have g5 : 1 ≤ x / 65536 / 256 := by omega
  obtain ⟨l1, l2⟩ := len8_rng (b := x / 65536 / 256) (by omega) (by omega)
  go_enter Tryd.func75, Tryd.ntmps75
  go_wp2
  go_ret
  exact ⟨⟨Lib.len8 (x / 65536 / 256), ret_i (by rw [len8_at]; simp only [wrap64]; omega), l1, l2⟩, rfl⟩

set_option maxRecDepth 100000 in
set_option maxHeartbeats 1000000 in
theorem len_5 (x : Int) (w : World) (h1 : 4294967296 ≤ x) (h2 : x < 1099511627776) :
    Calls Tryd.prog 75 #[.int .u64 x] w fun e w' => (∃ t : Int, e = .returned (.int .i64 (32 + t)) ∧ 1 ≤ t ∧ t ≤ 8) ∧ w' = w := by
  have g0 : 4294967296 ≤ x := by omega
  have g1 : ¬ 65536 ≤ x / 4294967296 := by omega
  have g2 : ¬ 256 ≤ x / 4294967296 := by omega
  have g3 : 0 ≤ x / 4294967296 := by omega
  have g4 : x / 4294967296 < 256 := by omega
  have g5 : 1 ≤ x / 4294967296 := by omega
  obtain ⟨l1, l2⟩ := len8_rng (b := x / 4294967296) (by omega) (by omega)
  go_enter Tryd.func75, Tryd.ntmps75
  go_wp2
  go_ret
  exact ⟨⟨Lib.len8 (x / 4294967296), ret_i (by rw [len8_at]; simp only [wrap64]; omega), l1, l2⟩, rfl⟩

set_option maxRecDepth 100000 in
set_option maxHeartbeats 1000000 in
theorem len_6 (x : Int) (w : World) (h1 : 1099511627776 ≤ x) (h2 : x < 281474976710656) :
    Calls Tryd.prog 75 #[.int .u64 x] w fun e w' => (∃ t : Int, e = .returned (.int .i64 (40 + t)) ∧ 1 ≤ t ∧ t ≤ 8) ∧ w' = w := by
  have g0 : 4294967296 ≤ x := by omega
  have g1 : ¬ 65536 ≤ x / 4294967296 := by omega
  have g2 : 256 ≤ x / 4294967296 := by omega
  have g3 : 0 ≤ x / 4294967296 / 256 := by omega
  have g4 : x / 4294967296 / 256 < 256 := by omega
  have g5 : 1 ≤ x / 4294967296 / 256 := by omega
  obtain ⟨l1, l2⟩ := len8_rng (b := x / 4294967296 / 256) (by omega) (by omega)
  go_enter Tryd.func75, Tryd.ntmps75
  go_wp2
  go_ret
  exact ⟨⟨Lib.len8 (x / 4294967296 / 256), ret_i (by rw [len8_at]; simp only [wrap64]; omega), l1, l2⟩, rfl⟩

set_option maxRecDepth 100000 in
set_option maxHeartbeats 1000000 in
theorem len_7 (x : Int) (w : World) (h1 : 281474976710656 ≤ x) (h2 : x < 72057594037927936) :
    Calls Tryd.prog 75 #[.int .u64 x] w fun e w' => (∃ t : Int, e = .returned (.int .i64 (48 + t)) ∧ 1 ≤ t ∧ t ≤ 8) ∧ w' = w := by
  have g0 : 4294967296 ≤ x := by omega
  have g1 : 65536 ≤ x / 4294967296 := by omega
  have g2 : ¬ 256 ≤ x / 4294967296 / 65536 := by omega
  have g3 : 0 ≤ x / 4294967296 / 65536 := by omega
  have g4 : x / 4294967296 / 65536 < 256 := by omega
  have g5 : 1 ≤ x / 4294967296 / 65536 := by omega
  obtain ⟨l1, l2⟩ := len8_rng (b := x / 4294967296 / 65536) (by omega) (by omega)
  go_enter Tryd.func75, Tryd.ntmps75
  go_wp2
  go_ret
  exact ⟨⟨Lib.len8 (x / 4294967296 / 65536), ret_i (by rw [len8_at]; simp only [wrap64]; omega), l1, l2⟩, rfl⟩

set_option maxRecDepth 100000 in
set_option maxHeartbeats 1000000 in
theorem len_8 (x : Int) (w : World) (h1 : 72057594037927936 ≤ x) (h2 : x < 18446744073709551616) :
    Calls Tryd.prog 75 #[.int .u64 x] w fun e w' => (∃ t : Int, e = .returned (.int .i64 (56 + t)) ∧ 1 ≤ t ∧ t ≤ 8) ∧ w' = w := by
  have g0 : 4294967296 ≤ x := by omega
  have g1 : 65536 ≤ x / 4294967296 := by omega
  have g2 : 256 ≤ x / 4294967296 / 65536 := by omega
  have g3 : 0 ≤ x / 4294967296 / 65536 / 256 := by omega
  have g4 : x / 4294967296 / 65536 / 256 < 256 := by omega
  have g5 : 1 ≤ x / 4294967296 / 65536 / 256 := by omega
  obtain ⟨l1, l2⟩ := len8_rng (b := x / 4294967296 / 65536 / 256) (by omega) (by omega)
  go_enter Tryd.func75, Tryd.ntmps75
  go_wp2
  go_ret
  exact ⟨⟨Lib.len8 (x / 4294967296 / 65536 / 256), ret_i (by rw [len8_at]; simp only [wrap64]; omega), l1, l2⟩, rfl⟩

theorem nb_is {x : Int} {k : Nat} (h : 1 ≤ k) (hk : k ≤ 8) (_h0 : 248 ≤ x) (h1 : x < 256 ^ k) (h2 : k = 1 ∨ 256 ^ (k - 1) ≤ x) : nb x = k := by
  have : k = 1 ∨ k = 2 ∨ k = 3 ∨ k = 4 ∨ k = 5 ∨ k = 6 ∨ k = 7 ∨ k = 8 := by omega
  rcases this with rfl | rfl | rfl | rfl | rfl | rfl | rfl | rfl
  all_goals
    simp only [Int.reducePow, Nat.reduceSub] at h1 h2
    unfold nb
    repeat' split
    all_goals omega
theorem behind_small (x : Int) (w : World) (_h0 : 0 ≤ x) (h1 : x < 248) :
    Calls Tryd.prog 57 #[.int .u64 x] w fun e w' => e = .returned (.int .i64 0) ∧ w' = w := by
  go_enter Tryd.func57, Tryd.ntmps57
  go_wp2
  go_ret
  exact ⟨rfl, rfl⟩
theorem behind_of (x : Int) (b : Nat) (w : World) (h0 : 248 ≤ x) (h1 : x < 18446744073709551616) (hb : b ≤ 7)
    (hl : ∀ w : World, Calls Tryd.prog 75 #[.int .u64 x] w fun e w' => (∃ t : Int, e = .returned (.int .i64 (8 * (b : Int) + t)) ∧ 1 ≤ t ∧ t ≤ 8) ∧ w' = w) :
    Calls Tryd.prog 57 #[.int .u64 x] w fun e w' => e = .returned (.int .i64 ((b : Int) + 1)) ∧ w' = w := by
  have HL := hide hl
  clear hl
  go_enter Tryd.func57, Tryd.ntmps57
  go_wp2_with fail
  refine (HL.out _).mono ?_
  rintro e w1 ⟨⟨t, rfl, t1, t2⟩, rfl⟩
  have g0 : 0 ≤ 8 * (b : Int) + t := by omega
  have g1 : 8 * (b : Int) + t ≤ 64 := by omega
  obtain ⟨s, hs⟩ : ∃ s, Hid (8 * (b : Int) + t = s) := ⟨_, hide rfl⟩
  rw [hs.out] at g0 g1 ⊢
  go_wp2_with fail
  go_ret
  exact ⟨ret_i (by have := hs.out; omega), rfl⟩
theorem behind_big (x : Int) (w : World) (h0 : 248 ≤ x) (h1 : x < 18446744073709551616) :
    Calls Tryd.prog 57 #[.int .u64 x] w fun e w' => e = .returned (.int .i64 (nb x : Int)) ∧ w' = w := by
  by_cases c1 : x < 256
  · rw [nb_is (k := 1) (by decide) (by decide) h0 (by simp only [Int.reducePow]; omega) (.inl rfl)]
    exact (behind_of x 0 w h0 h1 (by decide) (fun W => (len_1 x W (by omega) (by omega)).mono fun e w1 h => h)).mono fun e w1 h => h
  by_cases c2 : x < 65536
  · rw [nb_is (k := 2) (by decide) (by decide) h0 (by simp only [Int.reducePow]; omega) (.inr (by simp only [Nat.reduceSub, Int.reducePow]; omega))]
    exact (behind_of x 1 w h0 h1 (by decide) (fun W => (len_2 x W (by omega) (by omega)).mono fun e w1 h => h)).mono fun e w1 h => h
  by_cases c3 : x < 16777216
  · rw [nb_is (k := 3) (by decide) (by decide) h0 (by simp only [Int.reducePow]; omega) (.inr (by simp only [Nat.reduceSub, Int.reducePow]; omega))]
    exact (behind_of x 2 w h0 h1 (by decide) (fun W => (len_3 x W (by omega) (by omega)).mono fun e w1 h => h)).mono fun e w1 h => h
  by_cases c4 : x < 4294967296
  · rw [nb_is (k := 4) (by decide) (by decide) h0 (by simp only [Int.reducePow]; omega) (.inr (by simp only [Nat.reduceSub, Int.reducePow]; omega))]
    exact (behind_of x 3 w h0 h1 (by decide) (fun W => (len_4 x W (by omega) (by omega)).mono fun e w1 h => h)).mono fun e w1 h => h
  by_cases c5 : x < 1099511627776
  · rw [nb_is (k := 5) (by decide) (by decide) h0 (by simp only [Int.reducePow]; omega) (.inr (by simp only [Nat.reduceSub, Int.reducePow]; omega))]
    exact (behind_of x 4 w h0 h1 (by decide) (fun W => (len_5 x W (by omega) (by omega)).mono fun e w1 h => h)).mono fun e w1 h => h
  by_cases c6 : x < 281474976710656
  · rw [nb_is (k := 6) (by decide) (by decide) h0 (by simp only [Int.reducePow]; omega) (.inr (by simp only [Nat.reduceSub, Int.reducePow]; omega))]
    exact (behind_of x 5 w h0 h1 (by decide) (fun W => (len_6 x W (by omega) (by omega)).mono fun e w1 h => h)).mono fun e w1 h => h
  by_cases c7 : x < 72057594037927936
  · rw [nb_is (k := 7) (by decide) (by decide) h0 (by simp only [Int.reducePow]; omega) (.inr (by simp only [Nat.reduceSub, Int.reducePow]; omega))]
    exact (behind_of x 6 w h0 h1 (by decide) (fun W => (len_7 x W (by omega) (by omega)).mono fun e w1 h => h)).mono fun e w1 h => h
  rw [nb_is (k := 8) (by decide) (by decide) h0 (by simp only [Int.reducePow]; omega) (.inr (by simp only [Nat.reduceSub, Int.reducePow]; omega))]
  exact (behind_of x 7 w h0 h1 (by decide) (fun W => (len_8 x W (by omega) (by omega)).mono fun e w1 h => h)).mono fun e w1 h => h
theorem behind_any (x : Int) (w : World) (h0 : 0 ≤ x) (h1 : x < 18446744073709551616) :
    Calls Tryd.prog 57 #[.int .u64 x] w fun e w' => e = .returned (.int .i64 (nb x : Int)) ∧ w' = w := by
  by_cases h : x < 248
  · rw [nb_small h]; exact behind_small x w h0 h
  · exact behind_big x w (by omega) h1
end Go.Proofs.YthalmfbcdkihgaaDoor
