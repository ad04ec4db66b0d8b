/-
  My own text: the document's own answers: how many bytes a number needs, what bytes begin with.
-/
import Derived.Test.YthalmfbcdkihgaaDoorWF2
import Derived.Test.YthalmfbcdkihgaaDoorW10
namespace Go.Proofs.YthalmfbcdkihgaaDoor
open Go.RowKit Go.Extern

def sz (x : Int) : Nat := if x < 248 then 1 else nb x
theorem sz_rng (x : Int) : 1 ≤ sz x ∧ sz x ≤ 8 := by
  unfold sz
  split
  · omega
  · exact ⟨nb_pos (by omega), nb_le x⟩
theorem sz_test {x : Int} (h0 : 0 ≤ x) (h1 : x < 18446744073709551616) {k : Nat} (k1 : 1 ≤ k) (k7 : k < 8) : (x / 2 ^ (8 * k) != 0) = decide (k < sz x) := by
  have : k = 1 ∨ k = 2 ∨ k = 3 ∨ k = 4 ∨ k = 5 ∨ k = 6 ∨ k = 7 := by omega
  rw [Bool.eq_iff_iff]
  unfold sz nb
  rcases this with rfl | rfl | rfl | rfl | rfl | rfl | rfl <;> simp only [Nat.reduceMul, Int.reducePow, bne_iff_ne, ne_eq, decide_eq_true_eq] <;> (repeat' split) <;> omega
theorem ret_int {a b : Int} (h : a = b) : Ending.returned (.int .i64 a) = .returned (.int .i64 b) := by rw [h]
set_option maxRecDepth 100000 in
set_option maxHeartbeats 1000000 in
theorem size_any (x : Int) (w : World) (h0 : 0 ≤ x) (h1 : x < 18446744073709551616) :
    Calls Tryd.prog 45 #[.int .u64 x] w fun e w' => e = .returned (.int .i64 (sz x : Int)) ∧ w' = w := by
  have HT : Hid (∀ k : Nat, 1 ≤ k → k < 8 → (x / 2 ^ (8 * k) != 0) = decide (k < sz x)) := hide fun k => sz_test h0 h1
  obtain ⟨s1, s8⟩ := sz_rng x
  obtain ⟨S, hS⟩ : ∃ S, Hid (sz x = S) := ⟨_, hide rfl⟩
  rw [hS.out] at HT s1 s8 ⊢
  go_enter Tryd.func45, Tryd.ntmps45
  go_wp2_with fail
  go_loop [3] (fun i => ∃ k : Nat, 1 ≤ k ∧ k ≤ S ∧ i = .int .i64 k) (fun i => S - (intOf i).toNat)
  case atStart => exact ⟨1, Nat.le_refl _, s1, rfl⟩
  case round =>
    obtain ⟨k, hk1, hk, rfl⟩ := hrel
    by_cases h8 : k < 8
    · have HK := HT.out k hk1 h8
      have d8 : decide ((k : Int) < 8) = true := by rw [decide_eq_true_eq]; omega
      obtain ⟨s, hs⟩ : ∃ s : Int, 8 * (k : Int) = s := ⟨_, rfl⟩
      have s0 : 0 ≤ s := by omega
      have s64 : s ≤ 64 := by omega
      have HS : Hid (s.toNat = 8 * k) := hide (by omega)
      rw [← HS.out] at HK
      obtain ⟨y, hy⟩ : ∃ y : Int, x / 2 ^ s.toNat = y := ⟨_, rfl⟩
      rw [hy] at HK
      clear HT
      by_cases hlt : k < S
      · rw [decide_eq_true hlt] at HK
        go_wp2_with fail
        go_round
        case rel => exact ⟨k + 1, by omega, by omega, by go_num⟩
        case measure => simp [intOf]; omega
      · rw [decide_eq_false hlt] at HK
        have hkS : k = S := by omega
        have HKS := hide hkS
        clear hkS hlt
        go_wp2_with fail
        go_ret
        exact ⟨ret_int (by have := HKS.out; omega), rfl⟩
    · have HKS : Hid (k = S) := hide (by omega)
      have d8 : decide ((k : Int) < 8) = false := by rw [decide_eq_false_iff_not]; omega
      go_wp2_with fail
      go_ret
      exact ⟨ret_int (by have := HKS.out; omega), rfl⟩
theorem ret_ub {a b c d e f : Int} (h : a = b) (h2 : c = d) (h3 : e = f) : Ending.returned (.tuple #[.int .u64 a, .int .i64 c, .int .i64 e]) = .returned (.tuple #[.int .u64 b, .int .i64 d, .int .i64 f]) := by rw [h, h2, h3]
set_option maxRecDepth 100000 in
set_option maxHeartbeats 2000000 in
theorem refUint_any (g : Nat) (v : Value) (l : List UInt8) (w : World) (hv : RG w g v l) (hl : l.length ≤ 140737488355328) :
    Calls Tryd.prog 72 #[v] w fun e w' => e = .returned (.tuple #[.int .u64 (beg l).1, .int .i64 ((beg l).2.1 : Int), .int .i64 (beg l).2.2]) ∧ w' = w := by
  obtain ⟨a, cap, rfl, hcap, hr⟩ := hv
  cases l with
  | nil =>
    go_enter Tryd.func72, Tryd.ntmps72
    go_wp2
    go_ret3
    exact ⟨rfl, rfl⟩
  | cons c t =>
    rcases hr with h | ⟨off, rfl, hg, hc⟩
    · cases h
    have hc0 : w.cell? ⟨g, off, none⟩ = some (.int .u8 (c.toNat : Int)) := hc 0 c rfl
    have HC := hide hc
    clear hc
    have hne : (((c :: t).length : Int) == 0) = false := by simp; omega
    rw [List.length_cons] at hne hl hcap ⊢
    have c8 := c.toNat_lt
    by_cases hlo : c.toNat < 248
    · rw [beg_lo hlo]
      go_enter Tryd.func72, Tryd.ntmps72
      go_wp2
      go_ret3
      exact ⟨rfl, rfl⟩
    · have hge : 248 ≤ (c.toNat : Int) := by omega
      obtain ⟨n, hn⟩ : ∃ n, Hid (c.toNat - 247 = n) := ⟨_, hide rfl⟩
      have n1 : 1 ≤ n := by have := hn.out; omega
      have n8 : n ≤ 8 := by have := hn.out; omega
      have hcn : (c.toNat : Int) - 247 = (n : Int) := by have := hn.out; omega
      by_cases hs : t.length < n
      · rw [beg_short hlo (by rw [hn.out]; exact hs)]
        go_enter Tryd.func72, Tryd.ntmps72
        go_wp2
        go_ret3
        exact ⟨rfl, rfl⟩
      · have hrng := bval_rng (t.take n)
        rw [List.length_take, Nat.min_eq_left (by omega)] at hrng
        have hx1 := pow_8 n8 hrng.2
        have hx0 := hrng.1
        have HSZ := hide (fun W : World => size_any (bval (t.take n)) W hx0 hx1)
        have HBO : Hid (nb (bval (t.take n)) = n → beg (c :: t) = (bval (t.take n), 1 + n, 0)) := hide (by intro h; rw [beg_ok hlo (by rw [hn.out]; exact hs) (by rw [hn.out]; exact h), hn.out])
        have HBB : Hid (¬ nb (bval (t.take n)) = n → beg (c :: t) = (0, 0, 4)) := hide (by intro h; rw [beg_bad hlo (by rw [hn.out]; exact hs) (by rw [hn.out]; exact h)])
        go_enter Tryd.func72, Tryd.ntmps72
        go_wp2_with fail
        go_loop [6, 7] (fun x i => ∃ k : Nat, k ≤ n ∧ i = .int .i64 ((k : Int) + 1) ∧ x = .int .u64 (bval (t.take k))) (fun _ i => n + 1 - (intOf i).toNat)
        case atStart => exact ⟨0, Nat.zero_le _, rfl, rfl⟩
        case round =>
          obtain ⟨k, hk, rfl, rfl⟩ := hrel
          by_cases hlt : k < n
          · obtain ⟨d, hd⟩ := some_at (l := t) (k := k) (by omega)
            have hx9 := HC.out (k + 1) d hd
            have HS : Hid (bval (t.take (k + 1)) = bval (t.take k) * 256 + (d.toNat : Int)) := hide (by rw [take_snoc hd, bval_snoc])
            have hr2 := bval_rng (t.take k)
            rw [List.length_take, Nat.min_eq_left (by omega)] at hr2
            obtain ⟨h0, h1⟩ := hr2
            have h2 := pow_le (k := k) (by omega) h1
            clear h1 hd
            obtain ⟨X, hX⟩ : ∃ X, Hid (bval (t.take k) = X) := ⟨_, hide rfl⟩
            rw [hX.out] at h0 h2 HS ⊢
            have d8 := d.toNat_lt
            have dle : decide ((k : Int) + 1 ≤ (n : Int)) = true := by rw [decide_eq_true_eq]; omega
            go_wp2_with fail
            go_round
            case rel => exact ⟨k + 1, by omega, by go_num, by rw [HS.out]⟩
            case measure => simp [intOf]; omega
          · have hk' : k = n := by omega
            subst hk'
            have dle : decide ((k : Int) + 1 ≤ (k : Int)) = false := by rw [decide_eq_false_iff_not]; omega
            obtain ⟨X, hX⟩ : ∃ X, Hid (bval (t.take k) = X) := ⟨_, hide rfl⟩
            rw [hX.out] at HSZ hx1 hx0 HBO HBB ⊢
            clear hrng
            by_cases hlow : X < 248
            · have HE := hide (HBB.out (by rw [nb_small hlow]; omega))
              clear HBB HBO
              go_wp2_with fail
              go_ret3
              exact ⟨by rw [HE.out]; rfl, rfl⟩
            · have hszn : sz X = nb X := by unfold sz; rw [if_neg hlow]
              rw [hszn] at HSZ
              have dlow : decide (X < 248) = false := by rw [decide_eq_false_iff_not]; exact hlow
              by_cases hnb : nb X = k
              · have HE := hide (HBO.out hnb)
                rw [hnb] at HSZ
                have hq : ((k : Int) != (k : Int)) = false := by simp
                clear HBO HBB hnb hszn
                go_wp2_with fail
                refine (HSZ.out _).mono ?_
                rintro e w1 ⟨rfl, hw⟩
                obtain rfl := hw.symm
                go_wp2_with fail
                go_ret3
                exact ⟨by rw [HE.out]; exact ret_ub rfl (by show (1 : Int) + (k : Int) = ((1 + k : Nat) : Int); omega) rfl, rfl⟩
              · have HE := hide (HBB.out hnb)
                obtain ⟨m, hm⟩ : ∃ m, Hid (nb X = m) := ⟨_, hide rfl⟩
                rw [hm.out] at HSZ hnb
                have hq : ((m : Int) != (k : Int)) = true := by simp; omega
                clear HBO HBB hnb hszn
                go_wp2_with fail
                refine (HSZ.out _).mono ?_
                rintro e w1 ⟨rfl, hw⟩
                obtain rfl := hw.symm
                go_wp2_with fail
                go_ret3
                exact ⟨by rw [HE.out]; rfl, rfl⟩
end Go.Proofs.YthalmfbcdkihgaaDoor
