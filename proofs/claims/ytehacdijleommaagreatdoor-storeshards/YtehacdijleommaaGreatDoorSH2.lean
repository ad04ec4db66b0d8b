/-
  My own text: SH1, SH2 in one.
-/
import Derived.Test.YtehacdijleommaaGreatDoorHC2
import Derived.Laws.BitsAllLaws
namespace Go.Proofs.YtehacdijleommaaGreatDoor
open Go.RowKit Go.Extern

/-- By what a number is divided for its byte j. -/
def dv : Nat → Int
  | 0 => 72057594037927936
  | 1 => 281474976710656
  | 2 => 1099511627776
  | 3 => 4294967296
  | 4 => 16777216
  | 5 => 65536
  | 6 => 256
  | _ => 1
def byt (p : Int) (j : Nat) : Int := p / dv j % 256
/-- One byte more. -/
def hs (h c : Int) : Int := IntKind.u64.wrap (bits .xor .u64 h c * 1099511628211)
def hk (p : Int) : Nat → Int → Int
  | 0, h => h
  | j + 1, h => hs (hk p j h) (byt p j)
def ho (a b : Int) : Nat → Int
  | 0 => 14695981039346656037
  | 1 => hk a 8 14695981039346656037
  | _ => hk b 8 (hk a 8 14695981039346656037)
def hashF (a b : Int) : Int := ho a b 2
theorem hk_step (p h : Int) (j : Nat) : hk p (j + 1) h = hs (hk p j h) (byt p j) := rfl
theorem u64_wrap (x : Int) : IntKind.u64.wrap x = x % 18446744073709551616 := by kernel_rfl
theorem hs_lo (h c : Int) : 0 ≤ hs h c := by unfold hs; rw [u64_wrap]; omega
theorem hs_hi (h c : Int) : hs h c < 18446744073709551616 := by unfold hs; rw [u64_wrap]; omega
theorem hashF_lo (a b : Int) : 0 ≤ hashF a b := hs_lo _ _
theorem hashF_hi (a b : Int) : hashF a b < 18446744073709551616 := hs_hi _ _
theorem Tryz.idx0 (a b : Int) (W : World) : (Instr.index 180 (.agg #[.int .i64 a, .int .i64 b]) (.int .i64 0)).run Tryz.prog W = .ok (.int .i64 a) W := by kernel_rfl
theorem Tryz.idx1 (a b : Int) (W : World) : (Instr.index 180 (.agg #[.int .i64 a, .int .i64 b]) (.int .i64 1)).run Tryz.prog W = .ok (.int .i64 b) W := by kernel_rfl
theorem byt0 (p : Int) : byt p 0 = p / 72057594037927936 % 256 := rfl
theorem bytW0 (p : Int) : IntKind.u64.wrap p / 72057594037927936 % 256 = byt p 0 := by rw [byt0, u64_wrap]; omega
theorem byt1 (p : Int) : byt p 1 = p / 281474976710656 % 256 := rfl
theorem bytW1 (p : Int) : IntKind.u64.wrap p / 281474976710656 % 256 = byt p 1 := by rw [byt1, u64_wrap]; omega
theorem byt2 (p : Int) : byt p 2 = p / 1099511627776 % 256 := rfl
theorem bytW2 (p : Int) : IntKind.u64.wrap p / 1099511627776 % 256 = byt p 2 := by rw [byt2, u64_wrap]; omega
theorem byt3 (p : Int) : byt p 3 = p / 4294967296 % 256 := rfl
theorem bytW3 (p : Int) : IntKind.u64.wrap p / 4294967296 % 256 = byt p 3 := by rw [byt3, u64_wrap]; omega
theorem byt4 (p : Int) : byt p 4 = p / 16777216 % 256 := rfl
theorem bytW4 (p : Int) : IntKind.u64.wrap p / 16777216 % 256 = byt p 4 := by rw [byt4, u64_wrap]; omega
theorem byt5 (p : Int) : byt p 5 = p / 65536 % 256 := rfl
theorem bytW5 (p : Int) : IntKind.u64.wrap p / 65536 % 256 = byt p 5 := by rw [byt5, u64_wrap]; omega
theorem byt6 (p : Int) : byt p 6 = p / 256 % 256 := rfl
theorem bytW6 (p : Int) : IntKind.u64.wrap p / 256 % 256 = byt p 6 := by rw [byt6, u64_wrap]; omega
theorem byt7 (p : Int) : byt p 7 = p % 256 := by show p / 1 % 256 = p % 256; omega
theorem bytW7 (p : Int) : IntKind.u64.wrap p % 256 = byt p 7 := by rw [byt7, u64_wrap]; omega
set_option maxRecDepth 100000 in
set_option maxHeartbeats 4000000 in
theorem hash_any (a b : Int) (w : World) :
    Calls Tryz.prog 92 #[.agg #[.int .i64 a, .int .i64 b]] w fun e w' => e = .returned (.int .u64 (hashF a b)) ∧ Below w.heap.size w w' := by
  have HB := hide ((Below.refl w.heap.size w).alloc (Nat.le_refl _) (.cells #[.int .i64 a, .int .i64 b] 29))
  go_enter Tryz.func92, Tryz.ntmps92
  go_wp2_with fail
  go_loop [3, 12] (fun h i => ∃ k : Nat, k ≤ 2 ∧ i = .int .i64 k ∧ h = .int .u64 (ho a b k)) (fun _ i => 2 - (intOf i).toNat)
  case atStart => exact ⟨0, by omega, rfl, rfl⟩
  case round =>
    obtain ⟨k, hk', rfl, rfl⟩ := hrel
    obtain rfl | rfl | rfl : k = 0 ∨ k = 1 ∨ k = 2 := by omega
    · obtain ⟨h0, hh0⟩ : ∃ h0, h0 = ho a b 0 := ⟨_, rfl⟩
      rw [← hh0]
      have HH := hide hh0
      clear hh0
      rw [show ((0 : Nat) : Int) = (0 : Int) from rfl]
      have xi := Tryz.idx0 a b
      go_wp2_with fail
      go_loop [3, 6] (fun h s => ∃ j : Nat, j ≤ 8 ∧ s = .int .i64 (56 - 8 * (j : Int)) ∧ h = .int .u64 (hk a j h0)) (fun _ s => (intOf s + 8).toNat)
      case atStart => exact ⟨0, by omega, rfl, rfl⟩
      case round =>
        obtain ⟨j, hj, rfl, rfl⟩ := hrel
        obtain rfl | rfl | rfl | rfl | rfl | rfl | rfl | rfl | rfl : j = 0 ∨ j = 1 ∨ j = 2 ∨ j = 3 ∨ j = 4 ∨ j = 5 ∨ j = 6 ∨ j = 7 ∨ j = 8 := by omega
        · obtain ⟨h1, hh1⟩ : ∃ h1, h1 = hk a 0 h0 := ⟨_, rfl⟩
          rw [← hh1]
          have HH1 := hide hh1
          clear hh1
          rw [show (56 - 8 * ((0 : Nat) : Int)) = (56 : Int) from rfl]
          go_wp2_with fail
          refine ⟨⟨1, by omega, rfl, ?_⟩, by decide⟩
          rw [hk_step, ← HH1.out, byt0 a]; rfl
        · obtain ⟨h1, hh1⟩ : ∃ h1, h1 = hk a 1 h0 := ⟨_, rfl⟩
          rw [← hh1]
          have HH1 := hide hh1
          clear hh1
          rw [show (56 - 8 * ((1 : Nat) : Int)) = (48 : Int) from rfl]
          go_wp2_with fail
          refine ⟨⟨2, by omega, rfl, ?_⟩, by decide⟩
          rw [hk_step, ← HH1.out, byt1 a]; rfl
        · obtain ⟨h1, hh1⟩ : ∃ h1, h1 = hk a 2 h0 := ⟨_, rfl⟩
          rw [← hh1]
          have HH1 := hide hh1
          clear hh1
          rw [show (56 - 8 * ((2 : Nat) : Int)) = (40 : Int) from rfl]
          go_wp2_with fail
          refine ⟨⟨3, by omega, rfl, ?_⟩, by decide⟩
          rw [hk_step, ← HH1.out, byt2 a]; rfl
        · obtain ⟨h1, hh1⟩ : ∃ h1, h1 = hk a 3 h0 := ⟨_, rfl⟩
          rw [← hh1]
          have HH1 := hide hh1
          clear hh1
          rw [show (56 - 8 * ((3 : Nat) : Int)) = (32 : Int) from rfl]
          go_wp2_with fail
          refine ⟨⟨4, by omega, rfl, ?_⟩, by decide⟩
          rw [hk_step, ← HH1.out, byt3 a]; rfl
        · obtain ⟨h1, hh1⟩ : ∃ h1, h1 = hk a 4 h0 := ⟨_, rfl⟩
          rw [← hh1]
          have HH1 := hide hh1
          clear hh1
          rw [show (56 - 8 * ((4 : Nat) : Int)) = (24 : Int) from rfl]
          go_wp2_with fail
          refine ⟨⟨5, by omega, rfl, ?_⟩, by decide⟩
          rw [hk_step, ← HH1.out, byt4 a]; rfl
        · obtain ⟨h1, hh1⟩ : ∃ h1, h1 = hk a 5 h0 := ⟨_, rfl⟩
          rw [← hh1]
          have HH1 := hide hh1
          clear hh1
          rw [show (56 - 8 * ((5 : Nat) : Int)) = (16 : Int) from rfl]
          go_wp2_with fail
          refine ⟨⟨6, by omega, rfl, ?_⟩, by decide⟩
          rw [hk_step, ← HH1.out, byt5 a]; rfl
        · obtain ⟨h1, hh1⟩ : ∃ h1, h1 = hk a 6 h0 := ⟨_, rfl⟩
          rw [← hh1]
          have HH1 := hide hh1
          clear hh1
          rw [show (56 - 8 * ((6 : Nat) : Int)) = (8 : Int) from rfl]
          go_wp2_with fail
          refine ⟨⟨7, by omega, rfl, ?_⟩, by decide⟩
          rw [hk_step, ← HH1.out, byt6 a]; rfl
        · obtain ⟨h1, hh1⟩ : ∃ h1, h1 = hk a 7 h0 := ⟨_, rfl⟩
          rw [← hh1]
          have HH1 := hide hh1
          clear hh1
          rw [show (56 - 8 * ((7 : Nat) : Int)) = (0 : Int) from rfl]
          go_wp2_with fail
          refine ⟨⟨8, by omega, rfl, ?_⟩, by decide⟩
          rw [hk_step, ← HH1.out, byt7 a]; rfl
        · obtain ⟨h1, hh1⟩ : ∃ h1, h1 = hk a 8 h0 := ⟨_, rfl⟩
          rw [← hh1]
          have HH1 := hide hh1
          clear hh1
          rw [show (56 - 8 * ((8 : Nat) : Int)) = (-8 : Int) from rfl]
          go_wp2_with fail
          refine ⟨⟨1, by omega, rfl, ?_⟩, by decide⟩
          rw [HH1.out, HH.out]; rfl
    · obtain ⟨h0, hh0⟩ : ∃ h0, h0 = ho a b 1 := ⟨_, rfl⟩
      rw [← hh0]
      have HH := hide hh0
      clear hh0
      rw [show ((1 : Nat) : Int) = (1 : Int) from rfl]
      have xi := Tryz.idx1 a b
      go_wp2_with fail
      go_loop [3, 6] (fun h s => ∃ j : Nat, j ≤ 8 ∧ s = .int .i64 (56 - 8 * (j : Int)) ∧ h = .int .u64 (hk b j h0)) (fun _ s => (intOf s + 8).toNat)
      case atStart => exact ⟨0, by omega, rfl, rfl⟩
      case round =>
        obtain ⟨j, hj, rfl, rfl⟩ := hrel
        obtain rfl | rfl | rfl | rfl | rfl | rfl | rfl | rfl | rfl : j = 0 ∨ j = 1 ∨ j = 2 ∨ j = 3 ∨ j = 4 ∨ j = 5 ∨ j = 6 ∨ j = 7 ∨ j = 8 := by omega
        · obtain ⟨h1, hh1⟩ : ∃ h1, h1 = hk b 0 h0 := ⟨_, rfl⟩
          rw [← hh1]
          have HH1 := hide hh1
          clear hh1
          rw [show (56 - 8 * ((0 : Nat) : Int)) = (56 : Int) from rfl]
          go_wp2_with fail
          refine ⟨⟨1, by omega, rfl, ?_⟩, by decide⟩
          rw [hk_step, ← HH1.out, byt0 b]; rfl
        · obtain ⟨h1, hh1⟩ : ∃ h1, h1 = hk b 1 h0 := ⟨_, rfl⟩
          rw [← hh1]
          have HH1 := hide hh1
          clear hh1
          rw [show (56 - 8 * ((1 : Nat) : Int)) = (48 : Int) from rfl]
          go_wp2_with fail
          refine ⟨⟨2, by omega, rfl, ?_⟩, by decide⟩
          rw [hk_step, ← HH1.out, byt1 b]; rfl
        · obtain ⟨h1, hh1⟩ : ∃ h1, h1 = hk b 2 h0 := ⟨_, rfl⟩
          rw [← hh1]
          have HH1 := hide hh1
          clear hh1
          rw [show (56 - 8 * ((2 : Nat) : Int)) = (40 : Int) from rfl]
          go_wp2_with fail
          refine ⟨⟨3, by omega, rfl, ?_⟩, by decide⟩
          rw [hk_step, ← HH1.out, byt2 b]; rfl
        · obtain ⟨h1, hh1⟩ : ∃ h1, h1 = hk b 3 h0 := ⟨_, rfl⟩
          rw [← hh1]
          have HH1 := hide hh1
          clear hh1
          rw [show (56 - 8 * ((3 : Nat) : Int)) = (32 : Int) from rfl]
          go_wp2_with fail
          refine ⟨⟨4, by omega, rfl, ?_⟩, by decide⟩
          rw [hk_step, ← HH1.out, byt3 b]; rfl
        · obtain ⟨h1, hh1⟩ : ∃ h1, h1 = hk b 4 h0 := ⟨_, rfl⟩
          rw [← hh1]
          have HH1 := hide hh1
          clear hh1
          rw [show (56 - 8 * ((4 : Nat) : Int)) = (24 : Int) from rfl]
          go_wp2_with fail
          refine ⟨⟨5, by omega, rfl, ?_⟩, by decide⟩
          rw [hk_step, ← HH1.out, byt4 b]; rfl
        · obtain ⟨h1, hh1⟩ : ∃ h1, h1 = hk b 5 h0 := ⟨_, rfl⟩
          rw [← hh1]
          have HH1 := hide hh1
          clear hh1
          rw [show (56 - 8 * ((5 : Nat) : Int)) = (16 : Int) from rfl]
          go_wp2_with fail
          refine ⟨⟨6, by omega, rfl, ?_⟩, by decide⟩
          rw [hk_step, ← HH1.out, byt5 b]; rfl
        · obtain ⟨h1, hh1⟩ : ∃ h1, h1 = hk b 6 h0 := ⟨_, rfl⟩
          rw [← hh1]
          have HH1 := hide hh1
          clear hh1
          rw [show (56 - 8 * ((6 : Nat) : Int)) = (8 : Int) from rfl]
          go_wp2_with fail
          refine ⟨⟨7, by omega, rfl, ?_⟩, by decide⟩
          rw [hk_step, ← HH1.out, byt6 b]; rfl
        · obtain ⟨h1, hh1⟩ : ∃ h1, h1 = hk b 7 h0 := ⟨_, rfl⟩
          rw [← hh1]
          have HH1 := hide hh1
          clear hh1
          rw [show (56 - 8 * ((7 : Nat) : Int)) = (0 : Int) from rfl]
          go_wp2_with fail
          refine ⟨⟨8, by omega, rfl, ?_⟩, by decide⟩
          rw [hk_step, ← HH1.out, byt7 b]; rfl
        · obtain ⟨h1, hh1⟩ : ∃ h1, h1 = hk b 8 h0 := ⟨_, rfl⟩
          rw [← hh1]
          have HH1 := hide hh1
          clear hh1
          rw [show (56 - 8 * ((8 : Nat) : Int)) = (-8 : Int) from rfl]
          go_wp2_with fail
          refine ⟨⟨2, by omega, rfl, ?_⟩, by decide⟩
          rw [HH1.out, HH.out]; rfl
    · rw [show ((2 : Nat) : Int) = (2 : Int) from rfl, show ho a b 2 = hashF a b from rfl]
      obtain ⟨hf, hE⟩ : ∃ hf, hf = hashF a b := ⟨_, rfl⟩
      rw [← hE]
      have HE := hide hE
      clear hE
      go_wp2_with fail
      go_ret
      exact ⟨by rw [← HE.out]; rfl, HB.out⟩
end Go.Proofs.YtehacdijleommaaGreatDoor
namespace Go.Proofs.YtehacdijleommaaGreatDoor
open Go.RowKit Go.Extern

def cnt (s : Int) : Int := if s < 1 then 1 else if 64 < s then 64 else s
theorem cnt_lo (s : Int) : 1 ≤ cnt s := by unfold cnt; split <;> (try split) <;> omega
theorem cnt_hi (s : Int) : cnt s ≤ 64 := by unfold cnt; split <;> (try split) <;> omega
set_option maxRecDepth 100000 in
theorem counted_any (s : Int) (w : World) :
    Calls Tryz.prog 15 #[.int .i64 s] w fun e w' => e = .returned (.int .i64 (cnt s)) ∧ Below w.heap.size w w' := by
  have HC : Hid (cnt s = if s < 1 then 1 else if 64 < s then 64 else s) := hide rfl
  go_enter Tryz.func15, Tryz.ntmps15
  go_wp2_with fail
  all_goals
    go_ret
    refine ⟨?_, Below.refl _ _⟩
    rw [HC.out]
    rename_i h1
    by_cases q1 : s < 1
    · rw [if_pos q1] at h1 ⊢
      first | rfl | (exfalso; omega)
    · rw [if_neg q1] at h1 ⊢
      by_cases q2 : 64 < s
      · rw [if_pos q2]; first | rfl | (exfalso; omega)
      · rw [if_neg q2]; first | rfl | (exfalso; omega)
def shF (a b s : Int) : Int := hashF a b % cnt s
theorem shF_lo (a b s : Int) : 0 ≤ shF a b s := Int.emod_nonneg _ (by have := cnt_lo s; omega)
theorem shF_hi (a b s : Int) : shF a b s < cnt s := Int.emod_lt_of_pos _ (by have := cnt_lo s; omega)
set_option maxRecDepth 100000 in
theorem shard_any (a b s : Int) (w : World) :
    Calls Tryz.prog 63 #[.agg #[.int .i64 a, .int .i64 b], .int .i64 s] w fun e w' => e = .returned (.int .i64 (shF a b s)) ∧ Below w.heap.size w w' := by
  have HB := hide ((Below.refl w.heap.size w).alloc (Nat.le_refl _) (.cells #[.int .i64 a, .int .i64 b] 29))
  have HH := hide (fun W => hash_any a b W)
  have HK := hide (fun W => counted_any s W)
  have h1 := hashF_lo a b
  have h2 := hashF_hi a b
  have h3 := cnt_lo s
  have h4 := cnt_hi s
  obtain ⟨h, hh⟩ : ∃ h, h = hashF a b := ⟨_, rfl⟩
  obtain ⟨c, hc⟩ : ∃ c, c = cnt s := ⟨_, rfl⟩
  have HS : Hid (shF a b s = h % c) := hide (by rw [hh, hc]; rfl)
  rw [← hh] at h1 h2 HH
  rw [← hc] at h3 h4 HK
  clear hh hc
  have wr : wrap64 (h % c) = h % c := by
    have q1 := Int.emod_nonneg h (show c ≠ 0 by omega)
    have q2 := Int.emod_lt_of_pos h (show 0 < c by omega)
    unfold wrap64; omega
  go_enter Tryz.func63, Tryz.ntmps63
  go_wp2_with fail
  refine (HH.out _).mono ?_
  rintro e w1 ⟨rfl, hb1⟩
  have B1 := hide (HB.out.trans (hb1.mono HB.out.size))
  clear hb1 HB
  go_wp2_with fail
  refine (HK.out _).mono ?_
  rintro e w2 ⟨rfl, hb2⟩
  have B2 := hide (B1.out.trans (hb2.mono B1.out.size))
  clear hb2 B1
  go_wp2_with fail
  go_ret
  exact ⟨by rw [HS.out]; exact congrArg (fun x => Ending.returned (Value.int .i64 x)) wr, B2.out⟩
end Go.Proofs.YtehacdijleommaaGreatDoor
