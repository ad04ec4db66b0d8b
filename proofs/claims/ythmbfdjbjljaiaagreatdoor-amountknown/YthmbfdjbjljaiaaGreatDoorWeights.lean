/-
  My own text: weights: may they be dealt by?
-/
import Derived.Test.YthmbfdjbjljaiaaGreatDoorRefSum
namespace Go.Proofs.YthmbfdjbjljaiaaGreatDoor
open Go.RowKit

/-- No weight is below 0. -/
def noNeg (l : List Int) : Bool := l.all fun x => decide (0 ≤ x)
/-- Some weight is above 0. -/
def somePos (l : List Int) : Bool := l.any fun x => decide (0 < x)
def areW (l : List Int) : Bool := noNeg l && somePos l
theorem take_next {l : List Int} {k : Nat} {x : Int} (h : l[k]? = some x) : l.take (k + 1) = l.take k ++ [x] := by rw [List.take_add_one, h]; rfl
theorem noNeg_bad {l : List Int} {k : Nat} {x : Int} (h : l[k]? = some x) (hx : x < 0) : noNeg l = false := by
  unfold noNeg; rw [List.all_eq_false]; exact ⟨x, List.mem_of_getElem? h, by simp; omega⟩
theorem noNeg_step {l : List Int} {k : Nat} {x : Int} (h : l[k]? = some x) (hx : ¬ x < 0) (h0 : noNeg (l.take k) = true) : noNeg (l.take (k + 1)) = true := by
  rw [take_next h]; unfold noNeg at *; rw [List.all_append, h0]; simp; omega
theorem somePos_step {l : List Int} {k : Nat} {x : Int} (h : l[k]? = some x) : somePos (l.take (k + 1)) = (somePos (l.take k) || decide (0 < x)) := by
  rw [take_next h]; unfold somePos; rw [List.any_append]; simp
theorem areW_bad {l : List Int} (h : noNeg l = false) : areW l = false := by unfold areW; rw [h]; rfl
theorem areW_end {l : List Int} {k : Nat} (hk : l.length ≤ k) (h0 : noNeg (l.take k) = true) : areW l = somePos (l.take k) := by
  rw [List.take_of_length_le hk] at *; unfold areW; rw [h0]; rfl
theorem ret_bb {a b : Bool} (h : a = b) : Ending.returned (.bool a) = .returned (.bool b) := by rw [h]

set_option maxRecDepth 100000 in
set_option maxHeartbeats 1000000 in
theorem areWeights_any (v : Value) (l : List Int) (w : World) (hv : RI w .i64 v l) (hl : l.length ≤ 17592186044416) :
    Calls Tryz.prog 46 #[v] w fun e w' => e = .returned (.bool (areW l)) ∧ w' = w := by
  obtain ⟨a, cap, rfl, hr⟩ := hv
  go_enter Tryz.func46, Tryz.ntmps46
  go_wp2
  go_loop [3, 8] (fun s i => ∃ (k : Nat) (B : Bool), k ≤ l.length ∧ i = .int .i64 k ∧ s = .bool B ∧ Hid (B = somePos (l.take k)) ∧ Hid (noNeg (l.take k) = true)) (fun _ i => l.length - (intOf i).toNat)
  case atStart => exact ⟨0, false, Nat.zero_le _, rfl, rfl, hide rfl, hide rfl⟩
  case round =>
    obtain ⟨k, B, hk, rfl, rfl, HB, HN⟩ := hrel
    by_cases hlt : k < l.length
    · obtain ⟨x, hx⟩ := some_at hlt
      rcases hr with h0 | ⟨b, off, rfl, hbl, hc⟩
      · rw [h0] at hlt; simp at hlt
      have hcell := hc k x hx
      have HX := hide hx
      clear hc hx
      by_cases hneg : x < 0
      · have H := hide (areW_bad (noNeg_bad HX.out hneg))
        go_wp2
        go_ret
        exact ⟨ret_bb H.out.symm, rfl⟩
      · have H1 := hide (noNeg_step HX.out hneg HN.out)
        have H2 := hide (somePos_step HX.out)
        cases B
        · go_wp2
          go_round
          case rel => exact ⟨k + 1, decide (0 < x), by omega, by go_num, rfl, hide (by rw [H2.out, ← HB.out]; rfl), H1⟩
          case measure => simp [intOf]; omega
        · go_wp2
          go_round
          case rel => exact ⟨k + 1, true, by omega, by go_num, rfl, hide (by rw [H2.out, ← HB.out]; rfl), H1⟩
          case measure => simp [intOf]; omega
    · have H := hide (areW_end (l := l) (k := k) (by omega) HN.out)
      go_wp2
      go_ret
      exact ⟨ret_bb (by rw [H.out, HB.out]), rfl⟩

/-- The weights' sum, or why not. -/
def wE (n : Int) (l : List Int) : Int := if n < 0 ∨ areW l = false then 1 else sumE l.sum
def wV (n : Int) (l : List Int) : Int := if n < 0 ∨ areW l = false then 0 else sumV l.sum
theorem w_arg {n : Int} {l : List Int} (h : n < 0 ∨ areW l = false) : wV n l = 0 ∧ wE n l = 1 := by unfold wV wE; rw [if_pos h, if_pos h]; exact ⟨rfl, rfl⟩
theorem w_fit {n : Int} {l : List Int} (h : ¬ n < 0) (h2 : areW l = true) : wV n l = sumV l.sum ∧ wE n l = sumE l.sum := by
  unfold wV wE; rw [if_neg (by rw [h2]; simp; omega), if_neg (by rw [h2]; simp; omega)]; exact ⟨rfl, rfl⟩
theorem ret_ww {a b c d : Int} (h : a = c) (h' : b = d) : Ending.returned (.tuple #[.int .i64 a, .int .i64 b]) = .returned (.tuple #[.int .i64 c, .int .i64 d]) := by rw [h, h']

set_option maxRecDepth 100000 in
set_option maxHeartbeats 2000000 in
theorem refWeights_any (n : Int) (v : Value) (l : List Int) (w : World) (hv : RI w .i64 v l) (hl : l.length ≤ 17592186044416) (hb : ∀ x ∈ l, -9223372036854775808 ≤ x ∧ x ≤ 9223372036854775807) :
    Calls Tryz.prog 69 #[.int .i64 n, v] w fun e w' => e = .returned (.tuple #[.int .i64 (wV n l), .int .i64 (wE n l)]) ∧ Below w.heap.size w w' := by
  have HS := hide (refSum_any v l w hv hl hb)
  obtain ⟨a, cap, rfl, hr⟩ := hv
  clear hb
  go_enter Tryz.func69, Tryz.ntmps69
  go_wp2
  go_loop [6, 7] (fun s i => ∃ (k : Nat) (B : Bool), k ≤ l.length ∧ i = .int .i64 k ∧ s = .bool B ∧ Hid (B = somePos (l.take k)) ∧ Hid (noNeg (l.take k) = true)) (fun _ i => l.length - (intOf i).toNat)
  case atStart => exact ⟨0, false, Nat.zero_le _, rfl, rfl, hide rfl, hide rfl⟩
  case round =>
    obtain ⟨k, B, hk, rfl, rfl, HB, HN⟩ := hrel
    by_cases hlt : k < l.length
    · obtain ⟨x, hx⟩ := some_at hlt
      rcases hr with h0 | ⟨b, off, rfl, hbl, hc⟩
      · rw [h0] at hlt; simp at hlt
      have hcell := hc k x hx
      have HX := hide hx
      clear hc hx
      by_cases hneg : x < 0
      · have H := hide (w_arg (n := n) (Or.inr (areW_bad (noNeg_bad HX.out hneg))))
        go_wp2
        go_ret2
        exact ⟨ret_ww H.out.1.symm H.out.2.symm, Below.refl _ _⟩
      · have H1 := hide (noNeg_step HX.out hneg HN.out)
        have H2 := hide (somePos_step HX.out)
        cases B
        · go_wp2
          go_round
          case rel => exact ⟨k + 1, decide (0 < x), by omega, by go_num, rfl, hide (by rw [H2.out, ← HB.out]; rfl), H1⟩
          case measure => simp [intOf]; omega
        · go_wp2
          go_round
          case rel => exact ⟨k + 1, true, by omega, by go_num, rfl, hide (by rw [H2.out, ← HB.out]; rfl), H1⟩
          case measure => simp [intOf]; omega
    · have HE := hide (areW_end (l := l) (k := k) (by omega) HN.out)
      clear hr
      by_cases hn : n < 0
      · have H := hide (w_arg (n := n) (l := l) (Or.inl hn))
        go_wp2
        go_ret2
        exact ⟨ret_ww H.out.1.symm H.out.2.symm, Below.refl _ _⟩
      cases B
      · have H := hide (w_arg (n := n) (l := l) (Or.inr (by rw [HE.out, ← HB.out])))
        go_wp2
        go_ret2
        exact ⟨ret_ww H.out.1.symm H.out.2.symm, Below.refl _ _⟩
      · have H := hide (w_fit (n := n) (l := l) hn (by rw [HE.out, ← HB.out]))
        go_wp2_with fail
        refine HS.out.mono ?_
        rintro e w1 ⟨rfl, hb1⟩
        go_wp2_with fail
        go_ret2
        exact ⟨ret_ww H.out.1.symm H.out.2.symm, hb1⟩
end Go.Proofs.YthmbfdjbjljaiaaGreatDoor
