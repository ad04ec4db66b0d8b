/-
  My own text: what bytes begin with: the program's.
-/
import Derived.Test.YthalmfbcdkihgaaDoorW5
import Derived.OwnWalk
namespace Go.Proofs.YthalmfbcdkihgaaDoor
open Go.RowKit Go.Extern

/-- The number with whose form bytes begin, how many bytes that has, the error. -/
def beg : List UInt8 → Int × Nat × Int
  | [] => (0, 0, 2)
  | c :: t => if c.toNat < 248 then ((c.toNat : Int), 1, 0) else if t.length < c.toNat - 247 then (0, 0, 2)
    else if nb (bval (t.take (c.toNat - 247))) = c.toNat - 247 then (bval (t.take (c.toNat - 247)), 1 + (c.toNat - 247), 0) else (0, 0, 4)
theorem beg_lo {c : UInt8} {t : List UInt8} (h : c.toNat < 248) : beg (c :: t) = ((c.toNat : Int), 1, 0) := by simp only [beg, if_pos h]
theorem beg_short {c : UInt8} {t : List UInt8} (h : ¬ c.toNat < 248) (h2 : t.length < c.toNat - 247) : beg (c :: t) = (0, 0, 2) := by simp only [beg, if_neg h, if_pos h2]
theorem beg_bad {c : UInt8} {t : List UInt8} (h : ¬ c.toNat < 248) (h2 : ¬ t.length < c.toNat - 247) (h3 : ¬ nb (bval (t.take (c.toNat - 247))) = c.toNat - 247) : beg (c :: t) = (0, 0, 4) := by simp only [beg, if_neg h, if_neg h2, if_neg h3]
theorem beg_ok {c : UInt8} {t : List UInt8} (h : ¬ c.toNat < 248) (h2 : ¬ t.length < c.toNat - 247) (h3 : nb (bval (t.take (c.toNat - 247))) = c.toNat - 247) : beg (c :: t) = (bval (t.take (c.toNat - 247)), 1 + (c.toNat - 247), 0) := by simp only [beg, if_neg h, if_neg h2, if_pos h3]

theorem ret_beg {a b c d : Int} {u v : Value} (h : a = b) (h2 : c = d) (h3 : u = v) : Ending.returned (.tuple #[.int .u64 a, .int .i64 c, u]) = .returned (.tuple #[.int .u64 b, .int .i64 d, v]) := by rw [h, h2, h3]
theorem pow_8 {k : Nat} (h : k ≤ 8) {x : Int} (hx : x < 256 ^ k) : x < 18446744073709551616 := by
  by_cases h8 : k = 8
  · subst h8; simpa only [Int.reducePow] using hx
  · have := pow_le (k := k) (by omega) hx; omega
set_option maxRecDepth 100000 in
set_option maxHeartbeats 1000000 in
theorem begins_any (g : Nat) (v : Value) (l : List UInt8) (w : World) (hv : RG w g v l) (hl : l.length ≤ 140737488355328) :
    Calls Tryd.prog 34 #[v] w fun e w' => e = .returned (.tuple #[.int .u64 (beg l).1, .int .i64 ((beg l).2.1 : Int), errV (beg l).2.2]) ∧ w' = w := by
  obtain ⟨a, cap, rfl, hcap, hr⟩ := hv
  cases l with
  | nil =>
    go_enter Tryd.func34, Tryd.ntmps34
    go_wp2
    go_ret3
    exact ⟨rfl, rfl⟩
  | cons c t =>
    rcases hr with h | ⟨off, rfl, hg, hc⟩
    · cases h
    have hc0 : w.cell? ⟨g, off, none⟩ = some (.int .u8 (c.toNat : Int)) := hc 0 c rfl
    have HC := hide hc
    clear hc
    have hne : (((c :: t).length : Int) == 0) = false := by simp; omega
    rw [List.length_cons] at hne hl hcap ⊢
    have c8 := c.toNat_lt
    by_cases hlo : c.toNat < 248
    · rw [beg_lo hlo]
      go_enter Tryd.func34, Tryd.ntmps34
      go_wp2
      go_ret3
      exact ⟨rfl, rfl⟩
    · have hge : 248 ≤ (c.toNat : Int) := by omega
      obtain ⟨n, hn⟩ : ∃ n, Hid (c.toNat - 247 = n) := ⟨_, hide rfl⟩
      have n1 : 1 ≤ n := by have := hn.out; omega
      have n8 : n ≤ 8 := by have := hn.out; omega
      have hcn : (c.toNat : Int) - 247 = (n : Int) := by have := hn.out; omega
      by_cases hs : t.length < n
      · rw [beg_short hlo (by rw [hn.out]; exact hs)]
        go_enter Tryd.func34, Tryd.ntmps34
        go_wp2
        go_ret3
        exact ⟨rfl, rfl⟩
      · have HRG : Hid (RG w g (.slice (some ⟨g, off + 1, none⟩) n (cap - 1)) (t.take n)) := hide (by
          refine ⟨_, _, by rw [List.length_take, Nat.min_eq_left (by omega)], by rw [List.length_take]; omega, .inr ⟨off + 1, rfl, hg, fun j d hj => ?_⟩⟩
          have := HC.out (j + 1) d (by
            rw [List.getElem?_take] at hj
            split at hj
            · exact hj
            · cases hj)
          rw [← this]; congr 2; omega)
        have HN := hide (numberOf_any g _ (t.take n) w HRG.out (by rw [List.length_take]; omega))
        have hrng := bval_rng (t.take n)
        rw [List.length_take, Nat.min_eq_left (by omega)] at hrng
        have hx1 := pow_8 n8 hrng.2
        have hx0 := hrng.1
        have HBH := hide (fun W : World => behind_any (bval (t.take n)) W hx0 hx1)
        have HBO : Hid (nb (bval (t.take n)) = n → beg (c :: t) = (bval (t.take n), 1 + n, 0)) := hide (by intro h; rw [beg_ok hlo (by rw [hn.out]; exact hs) (by rw [hn.out]; exact h), hn.out])
        have HBB : Hid (¬ nb (bval (t.take n)) = n → beg (c :: t) = (0, 0, 4)) := hide (by intro h; rw [beg_bad hlo (by rw [hn.out]; exact hs) (by rw [hn.out]; exact h)])
        obtain ⟨X, hX⟩ : ∃ X, Hid (bval (t.take n) = X) := ⟨_, hide rfl⟩
        rw [hX.out] at HN hx1 hx0 HBH HBO HBB
        clear hrng HRG
        by_cases hnb : nb X = n
        · rw [HBO.out hnb]
          rw [hnb] at HBH
          have hq : ((n : Int) != (n : Int)) = false := by simp
          clear HBO HBB hnb
          go_enter Tryd.func34, Tryd.ntmps34
          go_wp2_with fail
          refine HN.out.mono ?_
          rintro e w1 ⟨rfl, hw⟩
          obtain rfl := hw.symm
          go_wp2_with fail
          refine (HBH.out _).mono ?_
          rintro e w1 ⟨rfl, hw⟩
          obtain rfl := hw.symm
          go_wp2_with fail
          go_ret3
          exact ⟨ret_beg rfl (by omega) rfl, rfl⟩
        · rw [HBB.out hnb]
          obtain ⟨m, hm⟩ : ∃ m, Hid (nb X = m) := ⟨_, hide rfl⟩
          rw [hm.out] at HBH hnb
          have hq : ((m : Int) != (n : Int)) = true := by simp; omega
          clear HBO HBB hnb
          go_enter Tryd.func34, Tryd.ntmps34
          go_wp2_with fail
          refine HN.out.mono ?_
          rintro e w1 ⟨rfl, hw⟩
          obtain rfl := hw.symm
          go_wp2_with fail
          refine (HBH.out _).mono ?_
          rintro e w1 ⟨rfl, hw⟩
          obtain rfl := hw.symm
          go_wp2_with fail
          go_ret3
          exact ⟨rfl, rfl⟩
end Go.Proofs.YthalmfbcdkihgaaDoor
