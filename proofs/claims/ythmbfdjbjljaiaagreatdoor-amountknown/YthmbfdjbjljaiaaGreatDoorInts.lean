/-
  My own text: slices of whole numbers as lists, and their sums: the program's, in each width.
-/
import Derived.Test.YthmbfdjbjljaiaaGreatDoorRow
import Derived.Test.YthmbfdjbjljaiaaGreatDoorWide
namespace Go.Proofs.YthmbfdjbjljaiaaGreatDoor
open Go.RowKit Go.Extern

/-- A slice value that reads as a list of numbers of a kind. -/
def RI (w : World) (K : IntKind) (v : Value) (l : List Int) : Prop :=
  ∃ a cap, v = .slice a l.length cap ∧ (l = [] ∨ ∃ b off, a = some ⟨b, off, none⟩ ∧ b < w.heap.size ∧ ∀ j x, l[j]? = some x → w.cell? ⟨b, off + j, none⟩ = some (.int K x))
theorem RI.later {w w1 : World} {K : IntKind} {v : Value} {l : List Int} (h : RI w K v l) (hb : Below w.heap.size w w1) : RI w1 K v l := by
  obtain ⟨a, cap, rfl, h | ⟨b, off, rfl, hlt, hc⟩⟩ := h
  · exact ⟨a, cap, rfl, .inl h⟩
  · exact ⟨_, cap, rfl, .inr ⟨b, off, rfl, Nat.lt_of_lt_of_le hlt hb.size, fun j x hx => (hb.cell (p := ⟨b, off + j, none⟩) hlt).trans (hc j x hx)⟩⟩
theorem sum_take_succ {l : List Int} {k : Nat} {x : Int} (h : l[k]? = some x) : (l.take (k + 1)).sum = (l.take k).sum + x := by
  rw [List.take_add_one, h]; simp
theorem some_at {l : List Int} {k : Nat} (h : k < l.length) : ∃ x, l[k]? = some x := ⟨l[k], List.getElem?_eq_getElem h⟩

/-- The sum of a list: the value, the error's number. -/
def sumV (s : Int) : Int := if -9223372036854775808 ≤ s ∧ s ≤ 9223372036854775807 then s else 0
def sumE (s : Int) : Int := if -9223372036854775808 ≤ s ∧ s ≤ 9223372036854775807 then 0 else 9
theorem sumE_lo (s : Int) : 0 ≤ sumE s ∧ sumE s ≤ 24 := by unfold sumE; split <;> omega
theorem sum_ok {s : Int} (h : -9223372036854775808 ≤ s ∧ s ≤ 9223372036854775807) : sumV s = s ∧ sumE s = 0 := by unfold sumV sumE; rw [if_pos h, if_pos h]; exact ⟨rfl, rfl⟩
theorem sum_over {s : Int} (h : ¬ (-9223372036854775808 ≤ s ∧ s ≤ 9223372036854775807)) : sumV s = 0 ∧ sumE s = 9 := by unfold sumV sumE; rw [if_neg h, if_neg h]; exact ⟨rfl, rfl⟩

theorem add64_run (x y : Int) (w : World) (x0 : 0 ≤ x) (y0 : 0 ≤ y) : (callFunc 36 #[.int .u64 x, .int .u64 y, .int .u64 0]).run Tryz.prog w = .ok (.value (.tuple #[.int .u64 ((x + y) % 18446744073709551616), .int .u64 ((x + y) / 18446744073709551616)])) w := by
  obtain ⟨a, rfl⟩ := Int.eq_ofNat_of_zero_le x0
  obtain ⟨b, rfl⟩ := Int.eq_ofNat_of_zero_le y0
  refine (@run_callFunc_extern Tryz.prog 36 _ _ Tryz.func36 (by kernel_rfl) (by kernel_rfl) (by kernel_rfl) (show find Tryz.f36 = some (fun args => do let (x, y, c) ← MathBitsCarry.three "Add64" args; pure (MathBitsCarry.pair ((x + y + c) % MathBitsCarry.m64) ((x + y + c) / MathBitsCarry.m64))) by kernel_rfl) _ w).trans ?_
  have h3 : (MathBitsCarry.three "Add64" #[.int .u64 (a : Int), .int .u64 (b : Int), .int .u64 0]).run Tryz.prog w = .ok (a, b, 0) w := by kernel_rfl
  simp only [Sem.run_bind, h3, Result.andThen_ok, Sem.run_pure]
  simp [MathBitsCarry.pair, MathBitsCarry.m64]

theorem wrap64_cases {o : Int} (l0 : 0 ≤ o) (l1 : o < 18446744073709551616) : (o < 9223372036854775808 ∧ wrap64 o = o) ∨ (9223372036854775808 ≤ o ∧ wrap64 o = o - 18446744073709551616) := by
  unfold wrap64; omega
theorem ret_si {a c : Int} {v v' : Value} (h : a = c) (h' : v = v') : Ending.returned (.tuple #[.int .i64 a, v]) = .returned (.tuple #[.int .i64 c, v']) := by rw [h, h']
theorem errV_of2 {k m : Int} (h : k = m) : errV m = errV k := by rw [h]

set_option maxRecDepth 100000 in
set_option maxHeartbeats 1000000 in
theorem sum_int64 (v : Value) (l : List Int) (w : World) (hv : RI w .i64 v l) (hl : l.length ≤ 17592186044416) (hb : ∀ x ∈ l, -9223372036854775808 ≤ x ∧ x ≤ 9223372036854775807) :
    Calls Tryz.prog 12 #[v] w fun e w' => e = .returned (.tuple #[.int .i64 (sumV l.sum), errV (sumE l.sum)]) ∧ w' = w := by
  obtain ⟨a, cap, rfl, hr⟩ := hv
  have hadd := add64_run
  go_enter Tryz.func12, Tryz.ntmps12
  go_wp2
  go_loop [4, 5, 13] (fun h o i => ∃ (k : Nat) (hi lo : Int), k ≤ l.length ∧ i = .int .i64 k ∧ h = .int .i64 hi ∧ o = .int .u64 lo ∧ Hid (hi * 18446744073709551616 + lo = (l.take k).sum) ∧ 0 ≤ lo ∧ lo < 18446744073709551616 ∧ -(k : Int) ≤ hi ∧ hi ≤ k) (fun _ _ i => l.length - (intOf i).toNat)
  case atStart => exact ⟨0, 0, 0, Nat.zero_le _, rfl, rfl, rfl, by simp [Hid], by omega, by omega, by omega, by omega⟩
  case round =>
    obtain ⟨k, hi, lo, hk, rfl, rfl, rfl, HS, l0, l1, b0, b1⟩ := hrel
    by_cases hlt : k < l.length
    · obtain ⟨x, hx⟩ := some_at hlt
      have hs := sum_take_succ hx
      have bx := hb x (List.mem_of_getElem? hx)
      rcases hr with h0 | ⟨b, off, rfl, hbl, hc⟩
      · rw [h0] at hlt; simp at hlt
      have hcell := hc k x hx
      have HS' : Hid ((l.take (k + 1)).sum = (l.take k).sum + x) := hs
      clear hs hc hx
      by_cases hn : x < 0
      · have hw := wrap_neg (x := x) hn (by omega)
        have hx0 : 0 ≤ x + 18446744073709551616 := by omega
        have hsh : x / 9223372036854775808 = -1 := by omega
        go_wp2
        go_round
        case rel => exact ⟨k + 1, _, _, by omega, by go_num, rfl, rfl, (show _ = _ by rw [HS'.out, ← HS.out]; omega), by omega, by omega, by omega, by omega⟩
        case measure => simp [intOf]; omega
      · have hsh : x / 9223372036854775808 = 0 := by omega
        go_wp2
        go_round
        case rel => exact ⟨k + 1, _, _, by omega, by go_num, rfl, rfl, (show _ = _ by rw [HS'.out, ← HS.out]; omega), by omega, by omega, by omega, by omega⟩
        case measure => simp [intOf]; omega
    · have hS : Hid (hi * 18446744073709551616 + lo = l.sum) := by have h := HS.out; rw [List.take_of_length_le (by omega)] at h; exact h
      have hW := wrap64_cases l0 l1
      clear HS hb hr
      by_cases hin : -9223372036854775808 ≤ l.sum ∧ l.sum ≤ 9223372036854775807
      · have H := hide (sum_ok hin)
        have hq : (hi != wrap64 lo / 9223372036854775808) = false := by have := hS.out; simp; omega
        have Hv := hide (show wrap64 lo = l.sum by have := hS.out; omega)
        clear hin hW
        go_wp2
        go_ret2
        exact ⟨ret_si (Hv.out.trans H.out.1.symm) (errV_of2 (m := 0) H.out.2), rfl⟩
      · have H := hide (sum_over hin)
        have hq : (hi != wrap64 lo / 9223372036854775808) = true := by have := hS.out; simp; omega
        clear hin hW
        go_wp2
        go_ret2
        exact ⟨ret_si H.out.1.symm (errV_of2 (m := 9) H.out.2), rfl⟩
set_option maxRecDepth 100000 in
set_option maxHeartbeats 1000000 in
theorem sum_int8 (v : Value) (l : List Int) (w : World) (hv : RI w .i8 v l) (hl : l.length ≤ 17592186044416) (hb : ∀ x ∈ l, -9223372036854775808 ≤ x ∧ x ≤ 9223372036854775807) :
    Calls Tryz.prog 11 #[v] w fun e w' => e = .returned (.tuple #[.int .i64 (sumV l.sum), errV (sumE l.sum)]) ∧ w' = w := by
  obtain ⟨a, cap, rfl, hr⟩ := hv
  have hadd := add64_run
  go_enter Tryz.func11, Tryz.ntmps11
  go_wp2
  go_loop [4, 5, 13] (fun h o i => ∃ (k : Nat) (hi lo : Int), k ≤ l.length ∧ i = .int .i64 k ∧ h = .int .i64 hi ∧ o = .int .u64 lo ∧ Hid (hi * 18446744073709551616 + lo = (l.take k).sum) ∧ 0 ≤ lo ∧ lo < 18446744073709551616 ∧ -(k : Int) ≤ hi ∧ hi ≤ k) (fun _ _ i => l.length - (intOf i).toNat)
  case atStart => exact ⟨0, 0, 0, Nat.zero_le _, rfl, rfl, rfl, by simp [Hid], by omega, by omega, by omega, by omega⟩
  case round =>
    obtain ⟨k, hi, lo, hk, rfl, rfl, rfl, HS, l0, l1, b0, b1⟩ := hrel
    by_cases hlt : k < l.length
    · obtain ⟨x, hx⟩ := some_at hlt
      have hs := sum_take_succ hx
      have bx := hb x (List.mem_of_getElem? hx)
      rcases hr with h0 | ⟨b, off, rfl, hbl, hc⟩
      · rw [h0] at hlt; simp at hlt
      have hcell := hc k x hx
      have HS' : Hid ((l.take (k + 1)).sum = (l.take k).sum + x) := hs
      clear hs hc hx
      by_cases hn : x < 0
      · have hw := wrap_neg (x := x) hn (by omega)
        have hx0 : 0 ≤ x + 18446744073709551616 := by omega
        have hsh : x / 9223372036854775808 = -1 := by omega
        go_wp2
        go_round
        case rel => exact ⟨k + 1, _, _, by omega, by go_num, rfl, rfl, (show _ = _ by rw [HS'.out, ← HS.out]; omega), by omega, by omega, by omega, by omega⟩
        case measure => simp [intOf]; omega
      · have hsh : x / 9223372036854775808 = 0 := by omega
        go_wp2
        go_round
        case rel => exact ⟨k + 1, _, _, by omega, by go_num, rfl, rfl, (show _ = _ by rw [HS'.out, ← HS.out]; omega), by omega, by omega, by omega, by omega⟩
        case measure => simp [intOf]; omega
    · have hS : Hid (hi * 18446744073709551616 + lo = l.sum) := by have h := HS.out; rw [List.take_of_length_le (by omega)] at h; exact h
      have hW := wrap64_cases l0 l1
      clear HS hb hr
      by_cases hin : -9223372036854775808 ≤ l.sum ∧ l.sum ≤ 9223372036854775807
      · have H := hide (sum_ok hin)
        have hq : (hi != wrap64 lo / 9223372036854775808) = false := by have := hS.out; simp; omega
        have Hv := hide (show wrap64 lo = l.sum by have := hS.out; omega)
        clear hin hW
        go_wp2
        go_ret2
        exact ⟨ret_si (Hv.out.trans H.out.1.symm) (errV_of2 (m := 0) H.out.2), rfl⟩
      · have H := hide (sum_over hin)
        have hq : (hi != wrap64 lo / 9223372036854775808) = true := by have := hS.out; simp; omega
        clear hin hW
        go_wp2
        go_ret2
        exact ⟨ret_si H.out.1.symm (errV_of2 (m := 9) H.out.2), rfl⟩
set_option maxRecDepth 100000 in
set_option maxHeartbeats 1000000 in
theorem sum_int16 (v : Value) (l : List Int) (w : World) (hv : RI w .i16 v l) (hl : l.length ≤ 17592186044416) (hb : ∀ x ∈ l, -9223372036854775808 ≤ x ∧ x ≤ 9223372036854775807) :
    Calls Tryz.prog 13 #[v] w fun e w' => e = .returned (.tuple #[.int .i64 (sumV l.sum), errV (sumE l.sum)]) ∧ w' = w := by
  obtain ⟨a, cap, rfl, hr⟩ := hv
  have hadd := add64_run
  go_enter Tryz.func13, Tryz.ntmps13
  go_wp2
  go_loop [4, 5, 13] (fun h o i => ∃ (k : Nat) (hi lo : Int), k ≤ l.length ∧ i = .int .i64 k ∧ h = .int .i64 hi ∧ o = .int .u64 lo ∧ Hid (hi * 18446744073709551616 + lo = (l.take k).sum) ∧ 0 ≤ lo ∧ lo < 18446744073709551616 ∧ -(k : Int) ≤ hi ∧ hi ≤ k) (fun _ _ i => l.length - (intOf i).toNat)
  case atStart => exact ⟨0, 0, 0, Nat.zero_le _, rfl, rfl, rfl, by simp [Hid], by omega, by omega, by omega, by omega⟩
  case round =>
    obtain ⟨k, hi, lo, hk, rfl, rfl, rfl, HS, l0, l1, b0, b1⟩ := hrel
    by_cases hlt : k < l.length
    · obtain ⟨x, hx⟩ := some_at hlt
      have hs := sum_take_succ hx
      have bx := hb x (List.mem_of_getElem? hx)
      rcases hr with h0 | ⟨b, off, rfl, hbl, hc⟩
      · rw [h0] at hlt; simp at hlt
      have hcell := hc k x hx
      have HS' : Hid ((l.take (k + 1)).sum = (l.take k).sum + x) := hs
      clear hs hc hx
      by_cases hn : x < 0
      · have hw := wrap_neg (x := x) hn (by omega)
        have hx0 : 0 ≤ x + 18446744073709551616 := by omega
        have hsh : x / 9223372036854775808 = -1 := by omega
        go_wp2
        go_round
        case rel => exact ⟨k + 1, _, _, by omega, by go_num, rfl, rfl, (show _ = _ by rw [HS'.out, ← HS.out]; omega), by omega, by omega, by omega, by omega⟩
        case measure => simp [intOf]; omega
      · have hsh : x / 9223372036854775808 = 0 := by omega
        go_wp2
        go_round
        case rel => exact ⟨k + 1, _, _, by omega, by go_num, rfl, rfl, (show _ = _ by rw [HS'.out, ← HS.out]; omega), by omega, by omega, by omega, by omega⟩
        case measure => simp [intOf]; omega
    · have hS : Hid (hi * 18446744073709551616 + lo = l.sum) := by have h := HS.out; rw [List.take_of_length_le (by omega)] at h; exact h
      have hW := wrap64_cases l0 l1
      clear HS hb hr
      by_cases hin : -9223372036854775808 ≤ l.sum ∧ l.sum ≤ 9223372036854775807
      · have H := hide (sum_ok hin)
        have hq : (hi != wrap64 lo / 9223372036854775808) = false := by have := hS.out; simp; omega
        have Hv := hide (show wrap64 lo = l.sum by have := hS.out; omega)
        clear hin hW
        go_wp2
        go_ret2
        exact ⟨ret_si (Hv.out.trans H.out.1.symm) (errV_of2 (m := 0) H.out.2), rfl⟩
      · have H := hide (sum_over hin)
        have hq : (hi != wrap64 lo / 9223372036854775808) = true := by have := hS.out; simp; omega
        clear hin hW
        go_wp2
        go_ret2
        exact ⟨ret_si H.out.1.symm (errV_of2 (m := 9) H.out.2), rfl⟩
set_option maxRecDepth 100000 in
set_option maxHeartbeats 1000000 in
theorem sum_int32 (v : Value) (l : List Int) (w : World) (hv : RI w .i32 v l) (hl : l.length ≤ 17592186044416) (hb : ∀ x ∈ l, -9223372036854775808 ≤ x ∧ x ≤ 9223372036854775807) :
    Calls Tryz.prog 31 #[v] w fun e w' => e = .returned (.tuple #[.int .i64 (sumV l.sum), errV (sumE l.sum)]) ∧ w' = w := by
  obtain ⟨a, cap, rfl, hr⟩ := hv
  have hadd := add64_run
  go_enter Tryz.func31, Tryz.ntmps31
  go_wp2
  go_loop [4, 5, 13] (fun h o i => ∃ (k : Nat) (hi lo : Int), k ≤ l.length ∧ i = .int .i64 k ∧ h = .int .i64 hi ∧ o = .int .u64 lo ∧ Hid (hi * 18446744073709551616 + lo = (l.take k).sum) ∧ 0 ≤ lo ∧ lo < 18446744073709551616 ∧ -(k : Int) ≤ hi ∧ hi ≤ k) (fun _ _ i => l.length - (intOf i).toNat)
  case atStart => exact ⟨0, 0, 0, Nat.zero_le _, rfl, rfl, rfl, by simp [Hid], by omega, by omega, by omega, by omega⟩
  case round =>
    obtain ⟨k, hi, lo, hk, rfl, rfl, rfl, HS, l0, l1, b0, b1⟩ := hrel
    by_cases hlt : k < l.length
    · obtain ⟨x, hx⟩ := some_at hlt
      have hs := sum_take_succ hx
      have bx := hb x (List.mem_of_getElem? hx)
      rcases hr with h0 | ⟨b, off, rfl, hbl, hc⟩
      · rw [h0] at hlt; simp at hlt
      have hcell := hc k x hx
      have HS' : Hid ((l.take (k + 1)).sum = (l.take k).sum + x) := hs
      clear hs hc hx
      by_cases hn : x < 0
      · have hw := wrap_neg (x := x) hn (by omega)
        have hx0 : 0 ≤ x + 18446744073709551616 := by omega
        have hsh : x / 9223372036854775808 = -1 := by omega
        go_wp2
        go_round
        case rel => exact ⟨k + 1, _, _, by omega, by go_num, rfl, rfl, (show _ = _ by rw [HS'.out, ← HS.out]; omega), by omega, by omega, by omega, by omega⟩
        case measure => simp [intOf]; omega
      · have hsh : x / 9223372036854775808 = 0 := by omega
        go_wp2
        go_round
        case rel => exact ⟨k + 1, _, _, by omega, by go_num, rfl, rfl, (show _ = _ by rw [HS'.out, ← HS.out]; omega), by omega, by omega, by omega, by omega⟩
        case measure => simp [intOf]; omega
    · have hS : Hid (hi * 18446744073709551616 + lo = l.sum) := by have h := HS.out; rw [List.take_of_length_le (by omega)] at h; exact h
      have hW := wrap64_cases l0 l1
      clear HS hb hr
      by_cases hin : -9223372036854775808 ≤ l.sum ∧ l.sum ≤ 9223372036854775807
      · have H := hide (sum_ok hin)
        have hq : (hi != wrap64 lo / 9223372036854775808) = false := by have := hS.out; simp; omega
        have Hv := hide (show wrap64 lo = l.sum by have := hS.out; omega)
        clear hin hW
        go_wp2
        go_ret2
        exact ⟨ret_si (Hv.out.trans H.out.1.symm) (errV_of2 (m := 0) H.out.2), rfl⟩
      · have H := hide (sum_over hin)
        have hq : (hi != wrap64 lo / 9223372036854775808) = true := by have := hS.out; simp; omega
        clear hin hW
        go_wp2
        go_ret2
        exact ⟨ret_si H.out.1.symm (errV_of2 (m := 9) H.out.2), rfl⟩
set_option maxRecDepth 100000 in
set_option maxHeartbeats 1000000 in
theorem sum_int (v : Value) (l : List Int) (w : World) (hv : RI w .i64 v l) (hl : l.length ≤ 17592186044416) (hb : ∀ x ∈ l, -9223372036854775808 ≤ x ∧ x ≤ 9223372036854775807) :
    Calls Tryz.prog 32 #[v] w fun e w' => e = .returned (.tuple #[.int .i64 (sumV l.sum), errV (sumE l.sum)]) ∧ w' = w := by
  obtain ⟨a, cap, rfl, hr⟩ := hv
  have hadd := add64_run
  go_enter Tryz.func32, Tryz.ntmps32
  go_wp2
  go_loop [4, 5, 13] (fun h o i => ∃ (k : Nat) (hi lo : Int), k ≤ l.length ∧ i = .int .i64 k ∧ h = .int .i64 hi ∧ o = .int .u64 lo ∧ Hid (hi * 18446744073709551616 + lo = (l.take k).sum) ∧ 0 ≤ lo ∧ lo < 18446744073709551616 ∧ -(k : Int) ≤ hi ∧ hi ≤ k) (fun _ _ i => l.length - (intOf i).toNat)
  case atStart => exact ⟨0, 0, 0, Nat.zero_le _, rfl, rfl, rfl, by simp [Hid], by omega, by omega, by omega, by omega⟩
  case round =>
    obtain ⟨k, hi, lo, hk, rfl, rfl, rfl, HS, l0, l1, b0, b1⟩ := hrel
    by_cases hlt : k < l.length
    · obtain ⟨x, hx⟩ := some_at hlt
      have hs := sum_take_succ hx
      have bx := hb x (List.mem_of_getElem? hx)
      rcases hr with h0 | ⟨b, off, rfl, hbl, hc⟩
      · rw [h0] at hlt; simp at hlt
      have hcell := hc k x hx
      have HS' : Hid ((l.take (k + 1)).sum = (l.take k).sum + x) := hs
      clear hs hc hx
      by_cases hn : x < 0
      · have hw := wrap_neg (x := x) hn (by omega)
        have hx0 : 0 ≤ x + 18446744073709551616 := by omega
        have hsh : x / 9223372036854775808 = -1 := by omega
        go_wp2
        go_round
        case rel => exact ⟨k + 1, _, _, by omega, by go_num, rfl, rfl, (show _ = _ by rw [HS'.out, ← HS.out]; omega), by omega, by omega, by omega, by omega⟩
        case measure => simp [intOf]; omega
      · have hsh : x / 9223372036854775808 = 0 := by omega
        go_wp2
        go_round
        case rel => exact ⟨k + 1, _, _, by omega, by go_num, rfl, rfl, (show _ = _ by rw [HS'.out, ← HS.out]; omega), by omega, by omega, by omega, by omega⟩
        case measure => simp [intOf]; omega
    · have hS : Hid (hi * 18446744073709551616 + lo = l.sum) := by have h := HS.out; rw [List.take_of_length_le (by omega)] at h; exact h
      have hW := wrap64_cases l0 l1
      clear HS hb hr
      by_cases hin : -9223372036854775808 ≤ l.sum ∧ l.sum ≤ 9223372036854775807
      · have H := hide (sum_ok hin)
        have hq : (hi != wrap64 lo / 9223372036854775808) = false := by have := hS.out; simp; omega
        have Hv := hide (show wrap64 lo = l.sum by have := hS.out; omega)
        clear hin hW
        go_wp2
        go_ret2
        exact ⟨ret_si (Hv.out.trans H.out.1.symm) (errV_of2 (m := 0) H.out.2), rfl⟩
      · have H := hide (sum_over hin)
        have hq : (hi != wrap64 lo / 9223372036854775808) = true := by have := hS.out; simp; omega
        clear hin hW
        go_wp2
        go_ret2
        exact ⟨ret_si H.out.1.symm (errV_of2 (m := 9) H.out.2), rfl⟩
set_option maxRecDepth 100000 in
set_option maxHeartbeats 1000000 in
theorem sum_small (v : Value) (l : List Int) (w : World) (hv : RI w .i8 v l) (hl : l.length ≤ 17592186044416) (hb : ∀ x ∈ l, -9223372036854775808 ≤ x ∧ x ≤ 9223372036854775807) :
    Calls Tryz.prog 33 #[v] w fun e w' => e = .returned (.tuple #[.int .i64 (sumV l.sum), errV (sumE l.sum)]) ∧ w' = w := by
  obtain ⟨a, cap, rfl, hr⟩ := hv
  have hadd := add64_run
  go_enter Tryz.func33, Tryz.ntmps33
  go_wp2
  go_loop [4, 5, 13] (fun h o i => ∃ (k : Nat) (hi lo : Int), k ≤ l.length ∧ i = .int .i64 k ∧ h = .int .i64 hi ∧ o = .int .u64 lo ∧ Hid (hi * 18446744073709551616 + lo = (l.take k).sum) ∧ 0 ≤ lo ∧ lo < 18446744073709551616 ∧ -(k : Int) ≤ hi ∧ hi ≤ k) (fun _ _ i => l.length - (intOf i).toNat)
  case atStart => exact ⟨0, 0, 0, Nat.zero_le _, rfl, rfl, rfl, by simp [Hid], by omega, by omega, by omega, by omega⟩
  case round =>
    obtain ⟨k, hi, lo, hk, rfl, rfl, rfl, HS, l0, l1, b0, b1⟩ := hrel
    by_cases hlt : k < l.length
    · obtain ⟨x, hx⟩ := some_at hlt
      have hs := sum_take_succ hx
      have bx := hb x (List.mem_of_getElem? hx)
      rcases hr with h0 | ⟨b, off, rfl, hbl, hc⟩
      · rw [h0] at hlt; simp at hlt
      have hcell := hc k x hx
      have HS' : Hid ((l.take (k + 1)).sum = (l.take k).sum + x) := hs
      clear hs hc hx
      by_cases hn : x < 0
      · have hw := wrap_neg (x := x) hn (by omega)
        have hx0 : 0 ≤ x + 18446744073709551616 := by omega
        have hsh : x / 9223372036854775808 = -1 := by omega
        go_wp2
        go_round
        case rel => exact ⟨k + 1, _, _, by omega, by go_num, rfl, rfl, (show _ = _ by rw [HS'.out, ← HS.out]; omega), by omega, by omega, by omega, by omega⟩
        case measure => simp [intOf]; omega
      · have hsh : x / 9223372036854775808 = 0 := by omega
        go_wp2
        go_round
        case rel => exact ⟨k + 1, _, _, by omega, by go_num, rfl, rfl, (show _ = _ by rw [HS'.out, ← HS.out]; omega), by omega, by omega, by omega, by omega⟩
        case measure => simp [intOf]; omega
    · have hS : Hid (hi * 18446744073709551616 + lo = l.sum) := by have h := HS.out; rw [List.take_of_length_le (by omega)] at h; exact h
      have hW := wrap64_cases l0 l1
      clear HS hb hr
      by_cases hin : -9223372036854775808 ≤ l.sum ∧ l.sum ≤ 9223372036854775807
      · have H := hide (sum_ok hin)
        have hq : (hi != wrap64 lo / 9223372036854775808) = false := by have := hS.out; simp; omega
        have Hv := hide (show wrap64 lo = l.sum by have := hS.out; omega)
        clear hin hW
        go_wp2
        go_ret2
        exact ⟨ret_si (Hv.out.trans H.out.1.symm) (errV_of2 (m := 0) H.out.2), rfl⟩
      · have H := hide (sum_over hin)
        have hq : (hi != wrap64 lo / 9223372036854775808) = true := by have := hS.out; simp; omega
        clear hin hW
        go_wp2
        go_ret2
        exact ⟨ret_si H.out.1.symm (errV_of2 (m := 9) H.out.2), rfl⟩
set_option maxRecDepth 100000 in
set_option maxHeartbeats 1000000 in
theorem sum_long (v : Value) (l : List Int) (w : World) (hv : RI w .i64 v l) (hl : l.length ≤ 17592186044416) (hb : ∀ x ∈ l, -9223372036854775808 ≤ x ∧ x ≤ 9223372036854775807) :
    Calls Tryz.prog 34 #[v] w fun e w' => e = .returned (.tuple #[.int .i64 (sumV l.sum), errV (sumE l.sum)]) ∧ w' = w := by
  obtain ⟨a, cap, rfl, hr⟩ := hv
  have hadd := add64_run
  go_enter Tryz.func34, Tryz.ntmps34
  go_wp2
  go_loop [4, 5, 13] (fun h o i => ∃ (k : Nat) (hi lo : Int), k ≤ l.length ∧ i = .int .i64 k ∧ h = .int .i64 hi ∧ o = .int .u64 lo ∧ Hid (hi * 18446744073709551616 + lo = (l.take k).sum) ∧ 0 ≤ lo ∧ lo < 18446744073709551616 ∧ -(k : Int) ≤ hi ∧ hi ≤ k) (fun _ _ i => l.length - (intOf i).toNat)
  case atStart => exact ⟨0, 0, 0, Nat.zero_le _, rfl, rfl, rfl, by simp [Hid], by omega, by omega, by omega, by omega⟩
  case round =>
    obtain ⟨k, hi, lo, hk, rfl, rfl, rfl, HS, l0, l1, b0, b1⟩ := hrel
    by_cases hlt : k < l.length
    · obtain ⟨x, hx⟩ := some_at hlt
      have hs := sum_take_succ hx
      have bx := hb x (List.mem_of_getElem? hx)
      rcases hr with h0 | ⟨b, off, rfl, hbl, hc⟩
      · rw [h0] at hlt; simp at hlt
      have hcell := hc k x hx
      have HS' : Hid ((l.take (k + 1)).sum = (l.take k).sum + x) := hs
      clear hs hc hx
      by_cases hn : x < 0
      · have hw := wrap_neg (x := x) hn (by omega)
        have hx0 : 0 ≤ x + 18446744073709551616 := by omega
        have hsh : x / 9223372036854775808 = -1 := by omega
        go_wp2
        go_round
        case rel => exact ⟨k + 1, _, _, by omega, by go_num, rfl, rfl, (show _ = _ by rw [HS'.out, ← HS.out]; omega), by omega, by omega, by omega, by omega⟩
        case measure => simp [intOf]; omega
      · have hsh : x / 9223372036854775808 = 0 := by omega
        go_wp2
        go_round
        case rel => exact ⟨k + 1, _, _, by omega, by go_num, rfl, rfl, (show _ = _ by rw [HS'.out, ← HS.out]; omega), by omega, by omega, by omega, by omega⟩
        case measure => simp [intOf]; omega
    · have hS : Hid (hi * 18446744073709551616 + lo = l.sum) := by have h := HS.out; rw [List.take_of_length_le (by omega)] at h; exact h
      have hW := wrap64_cases l0 l1
      clear HS hb hr
      by_cases hin : -9223372036854775808 ≤ l.sum ∧ l.sum ≤ 9223372036854775807
      · have H := hide (sum_ok hin)
        have hq : (hi != wrap64 lo / 9223372036854775808) = false := by have := hS.out; simp; omega
        have Hv := hide (show wrap64 lo = l.sum by have := hS.out; omega)
        clear hin hW
        go_wp2
        go_ret2
        exact ⟨ret_si (Hv.out.trans H.out.1.symm) (errV_of2 (m := 0) H.out.2), rfl⟩
      · have H := hide (sum_over hin)
        have hq : (hi != wrap64 lo / 9223372036854775808) = true := by have := hS.out; simp; omega
        clear hin hW
        go_wp2
        go_ret2
        exact ⟨ret_si H.out.1.symm (errV_of2 (m := 9) H.out.2), rfl⟩
end Go.Proofs.YthmbfdjbjljaiaaGreatDoor
