/-
  My own text: the library's quotient of two words by one.
-/
import Derived.Test.YtmojckejjjlkjabBits
import Derived.Test.YtmojckejjjlkjabDivMath
import Derived.Test.YtmojckejjjlkjabShelf
import Derived.RegionTactic
import Derived.Deep.QuietTactic
import Derived.BigQuiet
namespace Go.Proofs.Ytmojckejjjlkjab
open Go.RowKit

theorem lz_any (y : Int) (w : World) (h0 : 0 ≤ y) (h1 : y < 18446744073709551616) :
    Calls Try.prog 24 #[.int .u64 y] w fun e w' => e = .returned (.int .i64 (lzI y)) ∧ w' = w := Try.bits_LeadingZeros64 y w h0 (by omega)

set_option maxHeartbeats 400000 in
theorem div64_zero (lo y : Int) (w : World) (l0 : 0 ≤ lo) (l1 : lo < 18446744073709551616) (y0 : 0 < y) (y1 : y < 9223372036854775808) :
    Calls Try.prog 22 #[.int .u64 0, .int .u64 lo, .int .u64 y] w fun e w' => e = .returned (.tuple #[.int .u64 (lo / y), .int .u64 (lo % y)]) ∧ Below w.heap.size w w' := by
  have hy : (y == 0) = false := by simp; omega
  have hq : 0 ≤ lo / y := Int.ediv_nonneg l0 (by omega)
  have hq2 : lo / y ≤ lo := Int.ediv_le_self _ l0
  go_enter Try.func22, Try.ntmps22
  go_wp2
  go_quiet (fail)
  go_wp2
  go_ret2
  exact ⟨rfl, below_drewN (Below.refl _ _) _⟩

theorem pow_pos' (n : Nat) : (0 : Int) < 2 ^ n := Int.pow_pos (by omega)
theorem pow_split {s : Int} (s1 : 1 ≤ s) (s2 : s ≤ 63) : (2 : Int) ^ s.toNat * 2 ^ (64 - s).toNat = 18446744073709551616 := by
  rw [← Int.pow_add, show s.toNat + (64 - s).toNat = 64 from by omega]; rfl
theorem or_raise {a b : Int} {n : Nat} (a0 : 0 ≤ a) (a1 : a * 2 ^ n < 18446744073709551616) (b0 : 0 ≤ b) (b1 : b < 2 ^ n) (b2 : b < 18446744073709551616) :
    bits .or .u64 (a * 2 ^ n) b = a * 2 ^ n + b := by
  obtain ⟨a, rfl⟩ := Int.eq_ofNat_of_zero_le a0
  obtain ⟨b, rfl⟩ := Int.eq_ofNat_of_zero_le b0
  have ea : ((a : Int) * 2 ^ n) = ((a * 2 ^ n : Nat) : Int) := by simp
  have eb : ((2 : Int) ^ n) = ((2 ^ n : Nat) : Int) := by simp
  rw [ea] at a1 ⊢
  rw [eb] at b1
  rw [bits_or_u64_nat _ _ (by omega) (by omega), Nat.mul_comm, ← Nat.two_pow_add_eq_or_of_lt (by omega)]
  simp

/-- The words, raised. -/
theorem raise {hi lo y s : Int} (h1 : hi < y) (l0 : 0 ≤ lo) (l1 : lo < 18446744073709551616) (s1 : 1 ≤ s) (s2 : s ≤ 63) (s4 : y * 2 ^ s.toNat < 18446744073709551616) :
    hi * 2 ^ s.toNat < 18446744073709551616 ∧ 0 ≤ lo / 2 ^ (64 - s).toNat ∧ lo / 2 ^ (64 - s).toNat < 2 ^ s.toNat ∧ hi * 2 ^ s.toNat + lo / 2 ^ (64 - s).toNat < y * 2 ^ s.toNat ∧
      (hi * 18446744073709551616 + lo) * 2 ^ s.toNat = (hi * 2 ^ s.toNat + lo / 2 ^ (64 - s).toNat) * 18446744073709551616 + lo * 2 ^ s.toNat % 18446744073709551616 := by
  have hp := pow_split s1 s2
  have p0 := pow_pos' s.toNat
  have p1 := pow_pos' (64 - s).toNat
  generalize (2 : Int) ^ s.toNat = P at *
  generalize (2 : Int) ^ (64 - s).toNat = R at *
  have a1 : (hi + 1) * P ≤ y * P := Int.mul_le_mul_of_nonneg_right (by omega) (by omega)
  rw [Int.add_mul, Int.one_mul] at a1
  have b0 : 0 ≤ lo / R := Int.ediv_nonneg l0 (by omega)
  have b1 : lo / R < P := Int.ediv_lt_of_lt_mul p1 (by omega)
  have c1 : lo * P / 18446744073709551616 = lo / R := by rw [← hp, Int.mul_comm lo P, Int.mul_ediv_mul_of_pos _ _ p0]
  refine ⟨by omega, b0, b1, by omega, ?_⟩
  rw [Int.add_mul, Int.mul_right_comm, ← c1]
  omega

theorem word_rest {u d q v x : Int} (h : x = u * 4294967296 + d - q * v) (x0 : 0 ≤ x) (x1 : x < 18446744073709551616) :
    IntKind.u64.wrap (IntKind.u64.wrap (IntKind.u64.wrap (u * 4294967296) + d) - IntKind.u64.wrap (q * v)) = x := by
  simp only [wrap_mod]; omega
theorem word_start {u v v1 v0 d : Int} (G : Guess u v v1 v0 d (u / v1) (u % v1)) (h : u < 18446744073709551616) :
    IntKind.u64.wrap (u - IntKind.u64.wrap (u / v1 * v1)) = u % v1 := by
  have := G.e; have := G.rn; have := G.qn
  have hp : 0 ≤ u / v1 * v1 := Int.mul_nonneg G.qn (by have := G.g.v1n; omega)
  rw [wrap_id hp (by omega), wrap_id (by omega) (by omega)]; omega

set_option maxHeartbeats 4000000 in
theorem div64_big (hi lo y : Int) (w : World) (h0 : 0 < hi) (h1 : hi < y) (l0 : 0 ≤ lo) (l1 : lo < 18446744073709551616) (y1 : y < 9223372036854775808) :
    Calls Try.prog 22 #[.int .u64 hi, .int .u64 lo, .int .u64 y] w fun e w' => e = .returned (.tuple #[.int .u64 ((hi * 18446744073709551616 + lo) / y), .int .u64 ((hi * 18446744073709551616 + lo) % y)]) ∧ Below w.heap.size w w' := by
  have hy : (y == 0) = false := by simp; omega
  have hh : (hi == 0) = false := by simp; omega
  obtain ⟨s1, s2, s3, s4⟩ := lz_bounds (y := y) (by omega) y1
  obtain ⟨r1, r2, r3, r4, r5⟩ := raise h1 l0 l1 s1 s2 s4
  have r0 : 0 ≤ hi * 2 ^ (lzI y).toNat := Int.mul_nonneg (by omega) (by have := pow_pos' (lzI y).toNat; omega)
  have H5 := hide r5
  clear r5
  have eor := or_raise (a := hi) (b := lo / 2 ^ (64 - lzI y).toNat) (n := (lzI y).toNat) (by omega) r1 r2 r3 (by omega)
  go_enter Try.func22, Try.ntmps22
  go_wp2_with fail
  refine (lz_any y _ (by omega) (by omega)).mono ?_
  rintro e w' ⟨rfl, rfl⟩
  generalize lzI y = s at *
  go_wp2_with fail
  have Hz := hide (wrap_mod (lo * 2 ^ s.toNat))
  have z0 : 0 ≤ IntKind.u64.wrap (lo * 2 ^ s.toNat) ∧ IntKind.u64.wrap (lo * 2 ^ s.toNat) < 18446744073709551616 := by rw [unhide Hz]; omega
  rw [← unhide Hz] at H5
  generalize hU : hi * 2 ^ s.toNat + lo / 2 ^ (64 - s).toNat = U at *
  generalize hV : y * 2 ^ s.toNat = V at *
  generalize IntKind.u64.wrap (lo * 2 ^ s.toNat) = Z at *
  clear Hz eor
  have HV := hide hV
  have hU0 : 0 ≤ U := by omega
  clear hU hV
  simp only [and32 (show 0 ≤ V by omega) s4, and32 z0.1 z0.2]
  have g : Digit U V (V / 4294967296) (V % 4294967296) (Z / 4294967296) := ⟨by omega, by omega, by omega, by omega, by omega, hU0, r4, by omega, by omega⟩
  have G := g.start
  have e1 := word_start G (by omega)
  simp only [e1]
  clear e1
  have b1 := g.v1n
  have b2 := g.v1b
  have b3 := g.v0n
  have b4 := g.v0b
  have b5 := g.dn
  have b6 := g.db
  have g2 : ∀ u, 0 ≤ u → u < V → Digit u V (V / 4294967296) (V % 4294967296) (Z % 4294967296) := fun u h h' => ⟨g.hv, g.v0n, g.v0b, g.v1n, g.v1b, h, h', by omega, by omega⟩
  have b7 : 0 ≤ Z % 4294967296 ∧ Z % 4294967296 < 4294967296 := by omega
  have Hz := hide (show Z = Z / 4294967296 * 4294967296 + Z % 4294967296 by omega)
  generalize V / 4294967296 = v1 at *
  generalize V % 4294967296 = v0 at *
  generalize Z / 4294967296 = d1 at *
  generalize Z % 4294967296 = d0 at *
  generalize U / v1 = q at *
  generalize U % v1 = r at *
  go_loop [15, 16] (fun a b => ∃ q r : Int, a = .int .u64 q ∧ b = .int .u64 r ∧ Guess U V v1 v0 d1 q r) (fun a _ => (intOf a).toNat)
  case atStart => exact ⟨q, r, rfl, rfl, G⟩
  case round =>
    clear G
    obtain ⟨q, r, rfl, rfl, G⟩ := hrel
    have c1 := G.qn
    have c2 := G.qb
    have c3 := G.rn
    have c4 := G.rb
    by_cases hq : 4294967296 ≤ q
    · by_cases hr : 4294967296 ≤ r + v1
      · have FH := hide (G.broke (Or.inl hq) hr)
        have q1b := digit_lt g FH.out.1
        obtain ⟨U2, HU2⟩ : ∃ U2, Hid (U2 = U * 4294967296 + d1 - (q - 1) * V) := ⟨_, hide rfl⟩
        have u20 : 0 ≤ U2 := by have := HU2.out; have := FH.out; omega
        have u21 : U2 < V := by have := HU2.out; have := FH.out; omega
        have eW := word_rest HU2.out u20 (by omega)
        have K := (g2 U2 u20 u21).start
        have e2 := word_start K (by omega)
        have k1 := K.qn
        have k2 := K.qb
        go_wp2_with fail
        clear eW e2 k1 k2
        generalize U2 / v1 = qs at *
        generalize U2 % v1 = rs at *
        go_loop [18, 16] (fun a b => ∃ q r : Int, a = .int .u64 q ∧ b = .int .u64 r ∧ Guess U2 V v1 v0 d0 q r) (fun a _ => (intOf a).toNat)
        case atStart => exact ⟨qs, rs, rfl, rfl, K⟩
        case round =>
          clear K
          obtain ⟨q', r', rfl, rfl, K⟩ := hrel
          have k1 := K.qn
          have k2 := K.qb
          have k3 := K.rn
          have k4 := K.rb
          by_cases kq : 4294967296 ≤ q'
          · by_cases kr : 4294967296 ≤ r' + v1
            · have F2H := hide (K.broke (Or.inl kq) kr)
              have q0b := digit_lt (g2 U2 u20 u21) F2H.out.1
              obtain ⟨rr, Hrr⟩ : ∃ rr, Hid (rr = U2 * 4294967296 + d0 - (q' - 1) * V) := ⟨_, hide rfl⟩
              have rr0 : 0 ≤ rr := by have := Hrr.out; have := F2H.out; omega
              have rr1 : rr < V := by have := Hrr.out; have := F2H.out; omega
              have eR := word_rest Hrr.out rr0 (by omega)
              have D := hide (divide_back HV.out (pow_pos' s.toNat) (show 0 < y by omega) H5.out Hz.out HU2.out Hrr.out rr0 rr1)
              go_wp2
              go_ret2
              exact ⟨ret_uu (unhide D).1 (unhide D).2, Below.refl _ _⟩
            · have F := K.next (Or.inl kq) (by omega)
              go_wp2
              go_round
              case rel => exact ⟨q' - 1, r' + v1, rfl, rfl, F⟩
              case measure => simp [intOf]; omega
          · have kp := half_prod (a := q') (b := v0) k1 (by omega) b3 (by omega)
            have ek := wrap_id kp.1 (by omega)
            by_cases kt : 4294967296 * r' + d0 < q' * v0
            · have k5 := (K.down (Or.inr kt)).1
              by_cases kr : 4294967296 ≤ r' + v1
              · have F2H := hide (K.broke (Or.inr kt) kr)
                have q0b := digit_lt (g2 U2 u20 u21) F2H.out.1
                obtain ⟨rr, Hrr⟩ : ∃ rr, Hid (rr = U2 * 4294967296 + d0 - (q' - 1) * V) := ⟨_, hide rfl⟩
                have rr0 : 0 ≤ rr := by have := Hrr.out; have := F2H.out; omega
                have rr1 : rr < V := by have := Hrr.out; have := F2H.out; omega
                have eR := word_rest Hrr.out rr0 (by omega)
                have D := hide (divide_back HV.out (pow_pos' s.toNat) (show 0 < y by omega) H5.out Hz.out HU2.out Hrr.out rr0 rr1)
                go_wp2
                go_ret2
                exact ⟨ret_uu (unhide D).1 (unhide D).2, Below.refl _ _⟩
              · have F := K.next (Or.inr kt) (by omega)
                go_wp2
                go_round
                case rel => exact ⟨q' - 1, r' + v1, rfl, rfl, F⟩
                case measure => simp [intOf]; omega
            · have F2H := hide (K.found (by omega))
              have q0b := digit_lt (g2 U2 u20 u21) F2H.out.1
              obtain ⟨rr, Hrr⟩ : ∃ rr, Hid (rr = U2 * 4294967296 + d0 - q' * V) := ⟨_, hide rfl⟩
              have rr0 : 0 ≤ rr := by have := Hrr.out; have := F2H.out; omega
              have rr1 : rr < V := by have := Hrr.out; have := F2H.out; omega
              have eR := word_rest Hrr.out rr0 (by omega)
              have D := hide (divide_back HV.out (pow_pos' s.toNat) (show 0 < y by omega) H5.out Hz.out HU2.out Hrr.out rr0 rr1)
              go_wp2
              go_ret2
              exact ⟨ret_uu (unhide D).1 (unhide D).2, Below.refl _ _⟩
      · have F := G.next (Or.inl hq) (by omega)
        go_wp2
        go_round
        case rel => exact ⟨q - 1, r + v1, rfl, rfl, F⟩
        case measure => simp [intOf]; omega
    · have hp := half_prod (a := q) (b := v0) c1 (by omega) b3 (by omega)
      have ep := wrap_id hp.1 (by omega)
      by_cases ht : 4294967296 * r + d1 < q * v0
      · have q1 := (G.down (Or.inr ht)).1
        by_cases hr : 4294967296 ≤ r + v1
        · have FH := hide (G.broke (Or.inr ht) hr)
          have q1b := digit_lt g FH.out.1
          obtain ⟨U2, HU2⟩ : ∃ U2, Hid (U2 = U * 4294967296 + d1 - (q - 1) * V) := ⟨_, hide rfl⟩
          have u20 : 0 ≤ U2 := by have := HU2.out; have := FH.out; omega
          have u21 : U2 < V := by have := HU2.out; have := FH.out; omega
          have eW := word_rest HU2.out u20 (by omega)
          have K := (g2 U2 u20 u21).start
          have e2 := word_start K (by omega)
          have k1 := K.qn
          have k2 := K.qb
          go_wp2_with fail
          clear eW e2 k1 k2
          generalize U2 / v1 = qs at *
          generalize U2 % v1 = rs at *
          go_loop [18, 16] (fun a b => ∃ q r : Int, a = .int .u64 q ∧ b = .int .u64 r ∧ Guess U2 V v1 v0 d0 q r) (fun a _ => (intOf a).toNat)
          case atStart => exact ⟨qs, rs, rfl, rfl, K⟩
          case round =>
            clear K
            obtain ⟨q', r', rfl, rfl, K⟩ := hrel
            have k1 := K.qn
            have k2 := K.qb
            have k3 := K.rn
            have k4 := K.rb
            by_cases kq : 4294967296 ≤ q'
            · by_cases kr : 4294967296 ≤ r' + v1
              · have F2H := hide (K.broke (Or.inl kq) kr)
                have q0b := digit_lt (g2 U2 u20 u21) F2H.out.1
                obtain ⟨rr, Hrr⟩ : ∃ rr, Hid (rr = U2 * 4294967296 + d0 - (q' - 1) * V) := ⟨_, hide rfl⟩
                have rr0 : 0 ≤ rr := by have := Hrr.out; have := F2H.out; omega
                have rr1 : rr < V := by have := Hrr.out; have := F2H.out; omega
                have eR := word_rest Hrr.out rr0 (by omega)
                have D := hide (divide_back HV.out (pow_pos' s.toNat) (show 0 < y by omega) H5.out Hz.out HU2.out Hrr.out rr0 rr1)
                go_wp2
                go_ret2
                exact ⟨ret_uu (unhide D).1 (unhide D).2, Below.refl _ _⟩
              · have F := K.next (Or.inl kq) (by omega)
                go_wp2
                go_round
                case rel => exact ⟨q' - 1, r' + v1, rfl, rfl, F⟩
                case measure => simp [intOf]; omega
            · have kp := half_prod (a := q') (b := v0) k1 (by omega) b3 (by omega)
              have ek := wrap_id kp.1 (by omega)
              by_cases kt : 4294967296 * r' + d0 < q' * v0
              · have k5 := (K.down (Or.inr kt)).1
                by_cases kr : 4294967296 ≤ r' + v1
                · have F2H := hide (K.broke (Or.inr kt) kr)
                  have q0b := digit_lt (g2 U2 u20 u21) F2H.out.1
                  obtain ⟨rr, Hrr⟩ : ∃ rr, Hid (rr = U2 * 4294967296 + d0 - (q' - 1) * V) := ⟨_, hide rfl⟩
                  have rr0 : 0 ≤ rr := by have := Hrr.out; have := F2H.out; omega
                  have rr1 : rr < V := by have := Hrr.out; have := F2H.out; omega
                  have eR := word_rest Hrr.out rr0 (by omega)
                  have D := hide (divide_back HV.out (pow_pos' s.toNat) (show 0 < y by omega) H5.out Hz.out HU2.out Hrr.out rr0 rr1)
                  go_wp2
                  go_ret2
                  exact ⟨ret_uu (unhide D).1 (unhide D).2, Below.refl _ _⟩
                · have F := K.next (Or.inr kt) (by omega)
                  go_wp2
                  go_round
                  case rel => exact ⟨q' - 1, r' + v1, rfl, rfl, F⟩
                  case measure => simp [intOf]; omega
              · have F2H := hide (K.found (by omega))
                have q0b := digit_lt (g2 U2 u20 u21) F2H.out.1
                obtain ⟨rr, Hrr⟩ : ∃ rr, Hid (rr = U2 * 4294967296 + d0 - q' * V) := ⟨_, hide rfl⟩
                have rr0 : 0 ≤ rr := by have := Hrr.out; have := F2H.out; omega
                have rr1 : rr < V := by have := Hrr.out; have := F2H.out; omega
                have eR := word_rest Hrr.out rr0 (by omega)
                have D := hide (divide_back HV.out (pow_pos' s.toNat) (show 0 < y by omega) H5.out Hz.out HU2.out Hrr.out rr0 rr1)
                go_wp2
                go_ret2
                exact ⟨ret_uu (unhide D).1 (unhide D).2, Below.refl _ _⟩
        · have F := G.next (Or.inr ht) (by omega)
          go_wp2
          go_round
          case rel => exact ⟨q - 1, r + v1, rfl, rfl, F⟩
          case measure => simp [intOf]; omega
      · have FH := hide (G.found (by omega))
        have q1b := digit_lt g FH.out.1
        obtain ⟨U2, HU2⟩ : ∃ U2, Hid (U2 = U * 4294967296 + d1 - q * V) := ⟨_, hide rfl⟩
        have u20 : 0 ≤ U2 := by have := HU2.out; have := FH.out; omega
        have u21 : U2 < V := by have := HU2.out; have := FH.out; omega
        have eW := word_rest HU2.out u20 (by omega)
        have K := (g2 U2 u20 u21).start
        have e2 := word_start K (by omega)
        have k1 := K.qn
        have k2 := K.qb
        go_wp2_with fail
        clear eW e2 k1 k2
        generalize U2 / v1 = qs at *
        generalize U2 % v1 = rs at *
        go_loop [18, 16] (fun a b => ∃ q r : Int, a = .int .u64 q ∧ b = .int .u64 r ∧ Guess U2 V v1 v0 d0 q r) (fun a _ => (intOf a).toNat)
        case atStart => exact ⟨qs, rs, rfl, rfl, K⟩
        case round =>
          clear K
          obtain ⟨q', r', rfl, rfl, K⟩ := hrel
          have k1 := K.qn
          have k2 := K.qb
          have k3 := K.rn
          have k4 := K.rb
          by_cases kq : 4294967296 ≤ q'
          · by_cases kr : 4294967296 ≤ r' + v1
            · have F2H := hide (K.broke (Or.inl kq) kr)
              have q0b := digit_lt (g2 U2 u20 u21) F2H.out.1
              obtain ⟨rr, Hrr⟩ : ∃ rr, Hid (rr = U2 * 4294967296 + d0 - (q' - 1) * V) := ⟨_, hide rfl⟩
              have rr0 : 0 ≤ rr := by have := Hrr.out; have := F2H.out; omega
              have rr1 : rr < V := by have := Hrr.out; have := F2H.out; omega
              have eR := word_rest Hrr.out rr0 (by omega)
              have D := hide (divide_back HV.out (pow_pos' s.toNat) (show 0 < y by omega) H5.out Hz.out HU2.out Hrr.out rr0 rr1)
              go_wp2
              go_ret2
              exact ⟨ret_uu (unhide D).1 (unhide D).2, Below.refl _ _⟩
            · have F := K.next (Or.inl kq) (by omega)
              go_wp2
              go_round
              case rel => exact ⟨q' - 1, r' + v1, rfl, rfl, F⟩
              case measure => simp [intOf]; omega
          · have kp := half_prod (a := q') (b := v0) k1 (by omega) b3 (by omega)
            have ek := wrap_id kp.1 (by omega)
            by_cases kt : 4294967296 * r' + d0 < q' * v0
            · have k5 := (K.down (Or.inr kt)).1
              by_cases kr : 4294967296 ≤ r' + v1
              · have F2H := hide (K.broke (Or.inr kt) kr)
                have q0b := digit_lt (g2 U2 u20 u21) F2H.out.1
                obtain ⟨rr, Hrr⟩ : ∃ rr, Hid (rr = U2 * 4294967296 + d0 - (q' - 1) * V) := ⟨_, hide rfl⟩
                have rr0 : 0 ≤ rr := by have := Hrr.out; have := F2H.out; omega
                have rr1 : rr < V := by have := Hrr.out; have := F2H.out; omega
                have eR := word_rest Hrr.out rr0 (by omega)
                have D := hide (divide_back HV.out (pow_pos' s.toNat) (show 0 < y by omega) H5.out Hz.out HU2.out Hrr.out rr0 rr1)
                go_wp2
                go_ret2
                exact ⟨ret_uu (unhide D).1 (unhide D).2, Below.refl _ _⟩
              · have F := K.next (Or.inr kt) (by omega)
                go_wp2
                go_round
                case rel => exact ⟨q' - 1, r' + v1, rfl, rfl, F⟩
                case measure => simp [intOf]; omega
            · have F2H := hide (K.found (by omega))
              have q0b := digit_lt (g2 U2 u20 u21) F2H.out.1
              obtain ⟨rr, Hrr⟩ : ∃ rr, Hid (rr = U2 * 4294967296 + d0 - q' * V) := ⟨_, hide rfl⟩
              have rr0 : 0 ≤ rr := by have := Hrr.out; have := F2H.out; omega
              have rr1 : rr < V := by have := Hrr.out; have := F2H.out; omega
              have eR := word_rest Hrr.out rr0 (by omega)
              have D := hide (divide_back HV.out (pow_pos' s.toNat) (show 0 < y by omega) H5.out Hz.out HU2.out Hrr.out rr0 rr1)
              go_wp2
              go_ret2
              exact ⟨ret_uu (unhide D).1 (unhide D).2, Below.refl _ _⟩
end Go.Proofs.Ytmojckejjjlkjab
