/-
  My own text: whole numbers of two words: the document's answer's Less, Plus, Minus, Times.
-/
import Derived.Test.YtmojckejjjlkjaaDoorErr
import Derived.Laws.Bits64b
namespace Go.Proofs.YtmojckejjjlkjaaDoor
open Go.RowKit

def hiW (n : Int) : Int := n / 18446744073709551616
def loW (n : Int) : Int := n % 18446744073709551616
theorem hl (n : Int) : hiW n * 18446744073709551616 + loW n = n ∧ 0 ≤ loW n ∧ loW n < 18446744073709551616 := by unfold hiW loW; omega
theorem hi_nn {n : Int} (h : 0 ≤ n) : 0 ≤ hiW n := by unfold hiW; omega
theorem hi_of {n h l : Int} (e : n = h * 18446744073709551616 + l) (l0 : 0 ≤ l) (l1 : l < 18446744073709551616) : hiW n = h := by unfold hiW; omega
theorem lo_of {n h l : Int} (e : n = h * 18446744073709551616 + l) (l0 : 0 ≤ l) (l1 : l < 18446744073709551616) : loW n = l := by unfold loW; omega
theorem ret_wide {a b c d : Int} (h : a = c) (h' : b = d) : Ending.returned (.agg #[.int .u64 a, .int .u64 b]) = .returned (.agg #[.int .u64 c, .int .u64 d]) := by rw [h, h']
theorem ret_bool {a b : Bool} (h : a = b) : Ending.returned (.bool a) = .returned (.bool b) := by rw [h]
theorem wrap_over {x : Int} (h : 18446744073709551616 ≤ x) (h2 : x < 36893488147419103232) : IntKind.u64.wrap x = x - 18446744073709551616 := by rw [IntKind.wrap_u64]; omega
theorem wrap_neg {x : Int} (h : x < 0) (h2 : -18446744073709551616 ≤ x) : IntKind.u64.wrap x = x + 18446744073709551616 := by rw [IntKind.wrap_u64]; omega
theorem wrap_id {x : Int} (h : 0 ≤ x) (h2 : x < 18446744073709551616) : IntKind.u64.wrap x = x := by rw [IntKind.wrap_u64]; omega

set_option maxHeartbeats 400000 in
theorem plus_any (ah al bh bl s : Int) (w : World) (a0 : 0 ≤ ah) (b0 : 0 ≤ bh) (a1 : 0 ≤ al) (a2 : al < 18446744073709551616) (b1 : 0 ≤ bl) (b2 : bl < 18446744073709551616)
    (hs : Hid (s = ah * 18446744073709551616 + al + (bh * 18446744073709551616 + bl))) (hm : Hid (s < 340282366920938463463374607431768211456)) :
    Calls Tryd.prog 62 #[.agg #[.int .u64 ah, .int .u64 al], .agg #[.int .u64 bh, .int .u64 bl]] w fun e w' => e = .returned (.agg #[.int .u64 (hiW s), .int .u64 (loW s)]) ∧ Below w.heap.size w w' := by
  by_cases hc : al + bl < 18446744073709551616
  · have h1 : ah + bh < 18446744073709551616 := by have := hs.out; have := hm.out; omega
    have Hh := hide (hi_of (n := s) (h := ah + bh) (l := al + bl) (by have := hs.out; omega) (by omega) hc)
    have Hl := hide (lo_of (n := s) (h := ah + bh) (l := al + bl) (by have := hs.out; omega) (by omega) hc)
    have hlt : ¬ al + bl < al := by omega
    go_enter Tryd.func62, Tryd.ntmps62
    go_wp2
    exact bodyPost_ret (v := .agg #[.int .u64 (ah + bh), .int .u64 (al + bl)]) (by simp [results, Tryd.results62, go_sem]) rfl ⟨ret_wide (unhide Hh).symm (unhide Hl).symm, (((Below.refl _ _).alloc (Nat.le_refl _) _).alloc (by simp) _).alloc (by simp; omega) _⟩
  · have h1 : ah + bh + 1 < 18446744073709551616 := by have := hs.out; have := hm.out; omega
    have Hw := hide (wrap_over (x := al + bl) (by omega) (by omega))
    have hlt : IntKind.u64.wrap (al + bl) < al := by rw [unhide Hw]; omega
    have Hh := hide (hi_of (n := s) (h := ah + bh + 1) (l := al + bl - 18446744073709551616) (by have := hs.out; omega) (by omega) (by omega))
    have Hl := hide (lo_of (n := s) (h := ah + bh + 1) (l := al + bl - 18446744073709551616) (by have := hs.out; omega) (by omega) (by omega))
    go_enter Tryd.func62, Tryd.ntmps62
    go_wp2
    exact bodyPost_ret (v := .agg #[.int .u64 (ah + bh + 1), .int .u64 (IntKind.u64.wrap (al + bl))]) (by simp [results, Tryd.results62, go_sem]) rfl ⟨ret_wide (unhide Hh).symm ((unhide Hw).trans (unhide Hl).symm), (((Below.refl _ _).alloc (Nat.le_refl _) _).alloc (by simp) _).alloc (by simp; omega) _⟩
set_option maxHeartbeats 400000 in
theorem minus_any (ah al bh bl s : Int) (w : World) (a0 : ah < 18446744073709551616) (b0 : 0 ≤ bh) (a1 : 0 ≤ al) (a2 : al < 18446744073709551616) (b1 : 0 ≤ bl) (b2 : bl < 18446744073709551616)
    (hs : Hid (s + (bh * 18446744073709551616 + bl) = ah * 18446744073709551616 + al)) (hm : Hid (0 ≤ s)) :
    Calls Tryd.prog 67 #[.agg #[.int .u64 ah, .int .u64 al], .agg #[.int .u64 bh, .int .u64 bl]] w fun e w' => e = .returned (.agg #[.int .u64 (hiW s), .int .u64 (loW s)]) ∧ Below w.heap.size w w' := by
  by_cases hc : al < bl
  · have h1 : 0 ≤ ah - bh - 1 := by have := hs.out; have := hm.out; omega
    have Hw := hide (wrap_neg (x := al - bl) (by omega) (by omega))
    have Hh := hide (hi_of (n := s) (h := ah - bh - 1) (l := al - bl + 18446744073709551616) (by have := hs.out; omega) (by omega) (by omega))
    have Hl := hide (lo_of (n := s) (h := ah - bh - 1) (l := al - bl + 18446744073709551616) (by have := hs.out; omega) (by omega) (by omega))
    go_enter Tryd.func67, Tryd.ntmps67
    go_wp2
    exact bodyPost_ret (v := .agg #[.int .u64 (ah - bh - 1), .int .u64 (IntKind.u64.wrap (al - bl))]) (by simp [results, Tryd.results67, go_sem]) rfl ⟨ret_wide (unhide Hh).symm ((unhide Hw).trans (unhide Hl).symm), (((Below.refl _ _).alloc (Nat.le_refl _) _).alloc (by simp) _).alloc (by simp; omega) _⟩
  · have h1 : 0 ≤ ah - bh := by have := hs.out; have := hm.out; omega
    have Hh := hide (hi_of (n := s) (h := ah - bh) (l := al - bl) (by have := hs.out; omega) (by omega) (by omega))
    have Hl := hide (lo_of (n := s) (h := ah - bh) (l := al - bl) (by have := hs.out; omega) (by omega) (by omega))
    go_enter Tryd.func67, Tryd.ntmps67
    go_wp2
    exact bodyPost_ret (v := .agg #[.int .u64 (ah - bh), .int .u64 (al - bl)]) (by simp [results, Tryd.results67, go_sem]) rfl ⟨ret_wide (unhide Hh).symm (unhide Hl).symm, (((Below.refl _ _).alloc (Nat.le_refl _) _).alloc (by simp) _).alloc (by simp; omega) _⟩
set_option maxHeartbeats 400000 in
theorem less_any (ah al bh bl : Int) (c : Bool) (w : World) (a1 : 0 ≤ al) (a2 : al < 18446744073709551616) (b1 : 0 ≤ bl) (b2 : bl < 18446744073709551616)
    (hc : Hid (c = decide (ah * 18446744073709551616 + al < bh * 18446744073709551616 + bl))) :
    Calls Tryd.prog 66 #[.agg #[.int .u64 ah, .int .u64 al], .agg #[.int .u64 bh, .int .u64 bl]] w fun e w' => e = .returned (.bool c) ∧ Below w.heap.size w w' := by
  have hb : Below w.heap.size w ((w.alloc (.cells #[.int .u64 ah, .int .u64 al] 122)).alloc (.cells #[.int .u64 bh, .int .u64 bl] 122)) := ((Below.refl _ _).alloc (Nat.le_refl _) _).alloc (by simp) _
  by_cases h1 : ah < bh
  · have Hc := hide (show c = true by rw [hc.out]; simp; omega)
    go_enter Tryd.func66, Tryd.ntmps66
    go_wp2
    go_ret
    exact ⟨ret_bool (unhide Hc).symm, hb⟩
  · by_cases h2 : ah = bh
    · subst h2
      have hq : (ah == ah) = true := by simp
      by_cases h3 : al < bl
      · have Hc := hide (show c = true by rw [hc.out]; simp; omega)
        go_enter Tryd.func66, Tryd.ntmps66
        go_wp2
        go_ret
        exact ⟨ret_bool (unhide Hc).symm, hb⟩
      · have Hc := hide (show c = false by rw [hc.out]; simp; omega)
        go_enter Tryd.func66, Tryd.ntmps66
        go_wp2
        go_ret
        exact ⟨ret_bool (unhide Hc).symm, hb⟩
    · have hq : (ah == bh) = false := by simpa using h2
      have Hc := hide (show c = false by rw [hc.out]; simp; omega)
      go_enter Tryd.func66, Tryd.ntmps66
      go_wp2
      go_ret
      exact ⟨ret_bool (unhide Hc).symm, hb⟩
theorem half_prod {a b : Int} (a0 : 0 ≤ a) (a1 : a ≤ 4294967295) (b0 : 0 ≤ b) (b1 : b ≤ 4294967295) : 0 ≤ a * b ∧ a * b ≤ 18446744065119617025 := by
  have h1 : 0 ≤ a * b := Int.mul_nonneg a0 b0
  have h2 : a * b ≤ 4294967295 * b := Int.mul_le_mul_of_nonneg_right a1 b0
  omega
theorem split_mul (a b c d : Int) : (4294967296 * a + b) * (4294967296 * c + d) = a * c * 18446744073709551616 + b * d + a * d * 4294967296 + b * c * 4294967296 := by
  have h1 : (4294967296 * a) * (4294967296 * c) = a * c * 18446744073709551616 := by
    rw [Int.mul_assoc, Int.mul_left_comm a, ← Int.mul_assoc, Int.mul_comm]; omega
  have h2 : (4294967296 * a) * d = a * d * 4294967296 := by rw [Int.mul_assoc, Int.mul_comm]
  have h3 : b * (4294967296 * c) = b * c * 4294967296 := by rw [Int.mul_left_comm, Int.mul_comm]
  rw [Int.add_mul, Int.mul_add, Int.mul_add, h1, h2, h3]; omega
theorem split_prod (x y : Int) : x * y = x / 4294967296 * (y / 4294967296) * 18446744073709551616 + x % 4294967296 * (y % 4294967296) + x / 4294967296 * (y % 4294967296) * 4294967296 + x % 4294967296 * (y / 4294967296) * 4294967296 := by
  rw [← split_mul, Int.mul_ediv_add_emod, Int.mul_ediv_add_emod]
theorem wrap_shl (m : Int) : IntKind.u64.wrap (m * 4294967296) = m % 4294967296 * 4294967296 := by rw [IntKind.wrap_u64]; omega

set_option maxHeartbeats 400000 in
theorem times_any (x y : Int) (w : World) (x0 : 0 ≤ x) (x1 : x < 18446744073709551616) (y0 : 0 ≤ y) (y1 : y < 18446744073709551616) :
    Calls Tryd.prog 60 #[.int .u64 x, .int .u64 y] w fun e w' => e = .returned (.agg #[.int .u64 (hiW (x * y)), .int .u64 (loW (x * y))]) ∧ Below w.heap.size w w' := by
  have p11 := half_prod (a := x / 4294967296) (b := y / 4294967296) (by omega) (by omega) (by omega) (by omega)
  have p00 := half_prod (a := x % 4294967296) (b := y % 4294967296) (by omega) (by omega) (by omega) (by omega)
  have p10 := half_prod (a := x / 4294967296) (b := y % 4294967296) (by omega) (by omega) (by omega) (by omega)
  have p01 := half_prod (a := x % 4294967296) (b := y / 4294967296) (by omega) (by omega) (by omega) (by omega)
  have Hx := hide (split_prod x y)
  have e1 := wrap_id p11.1 (by omega)
  have e2 := wrap_id p00.1 (by omega)
  have e3 := wrap_id p10.1 (by omega)
  have e4 := wrap_id p01.1 (by omega)
  have Hw1 := hide (wrap_shl (x / 4294967296 * (y % 4294967296)))
  have Hw2 := hide (wrap_shl (x % 4294967296 * (y / 4294967296)))
  go_enter Tryd.func60, Tryd.ntmps60
  go_wp2_with fail
  clear e1 e2 e3
  generalize x / 4294967296 * (y / 4294967296) = m11 at *
  generalize x % 4294967296 * (y % 4294967296) = m00 at *
  generalize x / 4294967296 * (y % 4294967296) = m10 at *
  refine (plus_any _ _ _ _ (m11 * 18446744073709551616 + m00 + m10 * 4294967296) _ p11.1 (by omega) p00.1 (by omega) (by rw [unhide Hw1]; omega) (by rw [unhide Hw1]; omega) (by rw [unhide Hw1]; exact (by omega : m11 * 18446744073709551616 + m00 + m10 * 4294967296 = m11 * 18446744073709551616 + m00 + (m10 / 4294967296 * 18446744073709551616 + m10 % 4294967296 * 4294967296))) (show _ < _ by omega)).mono ?_
  rintro e w1 ⟨rfl, hb1⟩
  obtain ⟨hc, hf⟩ := bcell hb1
  have hz : w.heap.size + 1 < w1.heap.size := by have := hb1.size; simp at this; omega
  have h1 := hl (m11 * 18446744073709551616 + m00 + m10 * 4294967296)
  have h2 := hi_nn (n := m11 * 18446744073709551616 + m00 + m10 * 4294967296) (by omega)
  generalize hs1 : m11 * 18446744073709551616 + m00 + m10 * 4294967296 = s1 at *
  have Hs1 := hide hs1
  clear hs1
  have Hh1 := hide h1.1
  obtain ⟨-, h1l, h1h⟩ := h1
  have hB1 : Below w.heap.size w w1 := (((Below.refl _ _).alloc (Nat.le_refl _) _).alloc (by simp) _).trans (hb1.mono (by simp; omega))
  go_wp2_with fail
  clear e4
  generalize x % 4294967296 * (y / 4294967296) = m01 at *
  have hxy : 0 ≤ x * y ∧ x * y < 340282366920938463463374607431768211456 := by have := Hx.out; have := Hs1.out; omega
  refine (plus_any _ _ _ _ (x * y) _ h2 (by omega) h1l h1h (by rw [unhide Hw2]; omega) (by rw [unhide Hw2]; omega) (by rw [unhide Hw2]; have := Hx.out; have := Hh1.out; exact (by omega : x * y = hiW s1 * 18446744073709551616 + loW s1 + (m01 / 4294967296 * 18446744073709551616 + m01 % 4294967296 * 4294967296))) hxy.2).mono ?_
  rintro e w2 ⟨rfl, hb2⟩
  have c0 : w2.cell? ⟨w.heap.size, 0, none⟩ = some (.int .u64 0) := by rw [hb2.cell (p := ⟨w.heap.size, 0, none⟩) (by simp; omega), World.cell?_setCell_other _ _ _ _ (by simp), World.cell?_setCell_other _ _ _ _ (by simp), hb1.cell (p := ⟨w.heap.size, 0, none⟩) (by simp; omega)]; simp
  have c1 : w2.cell? ⟨w.heap.size, 1, none⟩ = some (.int .u64 0) := by rw [hb2.cell (p := ⟨w.heap.size, 1, none⟩) (by simp; omega), World.cell?_setCell_other _ _ _ _ (by simp), World.cell?_setCell_other _ _ _ _ (by simp), hb1.cell (p := ⟨w.heap.size, 1, none⟩) (by simp; omega)]; simp
  have f0 : w2.frozen? ⟨w.heap.size, 0, none⟩ = false := by rw [hb2.frozen (p := ⟨w.heap.size, 0, none⟩) (by simp; omega), World.frozen?_setCell, World.frozen?_setCell, hb1.frozen (p := ⟨w.heap.size, 0, none⟩) (by simp; omega)]; simp
  have f1 : w2.frozen? ⟨w.heap.size, 1, none⟩ = false := by rw [hb2.frozen (p := ⟨w.heap.size, 1, none⟩) (by simp; omega), World.frozen?_setCell, World.frozen?_setCell, hb1.frozen (p := ⟨w.heap.size, 1, none⟩) (by simp; omega)]; simp
  have hB2 := ((hB1.setCell (p := ⟨w.heap.size + 1, 0, none⟩) (by simp) (.int .u64 (hiW s1))).setCell (p := ⟨w.heap.size + 1, 1, none⟩) (by simp) (.int .u64 (loW s1))).trans (hb2.mono (by simp; omega))
  go_wp2_with fail
  refine bodyPost_ret (v := .agg #[.int .u64 (hiW (x * y)), .int .u64 (loW (x * y))]) (by simp [results, Tryd.results60, go_sem, c0, c1]) rfl ⟨rfl, ?_⟩
  exact (hB2.setCell (p := ⟨w.heap.size, 0, none⟩) (by simp) _).setCell (p := ⟨w.heap.size, 1, none⟩) (by simp) _
end Go.Proofs.YtmojckejjjlkjaaDoor
