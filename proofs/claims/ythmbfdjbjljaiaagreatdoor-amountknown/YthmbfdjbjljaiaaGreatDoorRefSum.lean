/-
  My own text: the document's answer's sum.
-/
import Derived.Test.YthmbfdjbjljaiaaGreatDoorInts
import Derived.Test.YthmbfdjbjljaiaaGreatDoorOver
import Derived.Deep.RegionWith
import Derived.BigRegion
namespace Go.Proofs.YthmbfdjbjljaiaaGreatDoor
open Go.RowKit

theorem hl_of (n : Int) : 0 ≤ loW n ∧ loW n < 18446744073709551616 ∧ Hid (hiW n * 18446744073709551616 + loW n = n) := ⟨(hl n).2.1, (hl n).2.2, (hl n).1⟩
theorem neg_wrap {x : Int} (h : x < 0) (h2 : -9223372036854775808 ≤ x) : IntKind.u64.wrap (-IntKind.u64.wrap x) = -x := by simp only [IntKind.wrap_u64]; omega
theorem neg_conv {d : Int} (h : 0 < d) (h2 : d ≤ 9223372036854775808) : wrap64 (IntKind.u64.wrap (-d)) = -d := by simp only [IntKind.wrap_u64, wrap64]; omega
theorem ret_ss {a b c d : Int} (h : a = c) (h' : b = d) : Ending.returned (.tuple #[.int .i64 a, .int .i64 b]) = .returned (.tuple #[.int .i64 c, .int .i64 d]) := by rw [h, h']
/-- A variable of two words, in whatever later world. -/
structure Duo (w : World) (b : Nat) (x y : Int) : Prop where
  lt : b < w.heap.size
  c0 : w.cell? ⟨b, 0, none⟩ = some (.int .u64 x)
  c1 : w.cell? ⟨b, 1, none⟩ = some (.int .u64 y)
  f0 : w.frozen? ⟨b, 0, none⟩ = false
  f1 : w.frozen? ⟨b, 1, none⟩ = false
theorem Duo.later {w w1 : World} {b : Nat} {x y : Int} (h : Duo w b x y) (hb : Below w.heap.size w w1) : Duo w1 b x y := by
  obtain ⟨hc, hf⟩ := bcell hb
  exact ⟨Nat.lt_of_lt_of_le h.lt hb.size, (hc _ _ h.lt).trans h.c0, (hc _ _ h.lt).trans h.c1, (hf _ _ h.lt).trans h.f0, (hf _ _ h.lt).trans h.f1⟩
theorem Duo.new (w : World) (x y : Int) (t : TypeId) : Duo (w.alloc (.cells #[.int .u64 x, .int .u64 y] t)) w.heap.size x y := by
  refine ⟨by simp, ?_, ?_, ?_, ?_⟩ <;> simp
theorem Duo.set {w : World} {b b' : Nat} {x y : Int} (h : Duo w b x y) (u v : Int) (hne : b' ≠ b) : Duo ((w.setCell ⟨b', 0, none⟩ (.int .u64 u)).setCell ⟨b', 1, none⟩ (.int .u64 v)) b x y := by
  refine ⟨by simpa using h.lt, cell_other (cell_other h.c0 (Or.inl hne)) (Or.inl hne), cell_other (cell_other h.c1 (Or.inl hne)) (Or.inl hne), ?_, ?_⟩
  · rw [World.frozen?_setCell, World.frozen?_setCell]; exact h.f0
  · rw [World.frozen?_setCell, World.frozen?_setCell]; exact h.f1
theorem Duo.put {w : World} {b : Nat} {x y : Int} (h : Duo w b x y) (u v : Int) : Duo ((w.setCell ⟨b, 0, none⟩ (.int .u64 u)).setCell ⟨b, 1, none⟩ (.int .u64 v)) b u v := by
  refine ⟨by simpa using h.lt, cell_other (World.cell?_setCell_same _ _ _ h.c0) (by omega), World.cell?_setCell_same _ _ _ (cell_other h.c1 (by omega)), ?_, ?_⟩
  · rw [World.frozen?_setCell, World.frozen?_setCell]; exact h.f0
  · rw [World.frozen?_setCell, World.frozen?_setCell]; exact h.f1
theorem Duo.alloc {w : World} {b : Nat} {x y : Int} (h : Duo w b x y) (o : Obj) : Duo (w.alloc o) b x y := h.later ((Below.refl _ _).alloc (Nat.le_refl _) _)

set_option maxRecDepth 100000 in
set_option maxHeartbeats 2000000 in
theorem refSum_any (v : Value) (l : List Int) (w : World) (hv : RI w .i64 v l) (hl : l.length ≤ 17592186044416) (hb : ∀ x ∈ l, -9223372036854775808 ≤ x ∧ x ≤ 9223372036854775807) :
    Calls Tryz.prog 28 #[v] w fun e w' => e = .returned (.tuple #[.int .i64 (sumV l.sum), .int .i64 (sumE l.sum)]) ∧ Below w.heap.size w w' := by
  obtain ⟨a, cap, rfl, hr⟩ := hv
  have U0 : Duo ((w.alloc (.cells #[.int .u64 0, .int .u64 0] 95)).alloc (.cells #[.int .u64 0, .int .u64 0] 95)) w.heap.size (hiW 0) (loW 0) := (Duo.new w 0 0 _).alloc _
  have D0 : Duo ((w.alloc (.cells #[.int .u64 0, .int .u64 0] 95)).alloc (.cells #[.int .u64 0, .int .u64 0] 95)) (w.heap.size + 1) (hiW 0) (loW 0) := by
    have h := Duo.new (w.alloc (.cells #[.int .u64 0, .int .u64 0] 95)) 0 0 95
    rw [show hiW 0 = 0 by rfl, show loW 0 = 0 by rfl]; simpa using h
  have hB0 : Below w.heap.size w ((w.alloc (.cells #[.int .u64 0, .int .u64 0] 95)).alloc (.cells #[.int .u64 0, .int .u64 0] 95)) := ((Below.refl _ _).alloc (Nat.le_refl _) _).alloc (by simp) _
  go_enter Tryz.func28, Tryz.ntmps28
  go_wp2
  go_loopw [6] (fun i wr => ∃ (k : Nat) (p n : Int), k ≤ l.length ∧ i = .int .i64 k ∧ Hid (p - n = (l.take k).sum) ∧ 0 ≤ p ∧ p ≤ (k : Int) * 9223372036854775808 ∧ 0 ≤ n ∧ n ≤ (k : Int) * 9223372036854775808 ∧ Duo wr w.heap.size (hiW p) (loW p) ∧ Duo wr (w.heap.size + 1) (hiW n) (loW n) ∧ Below w.heap.size w wr) (fun i _ => l.length - (intOf i).toNat)
  case atStart => exact ⟨0, 0, 0, Nat.zero_le _, rfl, by simp [Hid], by omega, by omega, by omega, by omega, U0, D0, hB0⟩
  case round =>
    clear U0 D0 hB0
    obtain ⟨k, p, n, hk, rfl, HS, p0, p1, n0, n1, U, D, hB⟩ := hrel
    by_cases hlt : k < l.length
    · obtain ⟨x, hx⟩ := some_at hlt
      have hs := sum_take_succ hx
      have bx := hb x (List.mem_of_getElem? hx)
      rcases hr with h0 | ⟨b, off, rfl, hbl, hc⟩
      · rw [h0] at hlt; simp at hlt
      have hcell := (hB.cell (p := ⟨b, off + k, none⟩) hbl).trans (hc k x hx)
      have HS' : Hid ((l.take (k + 1)).sum = (l.take k).sum + x) := hs
      have hP := hl_of p
      clear hs hc hx hb
      have c0 := U.c0
      have c1 := U.c1
      have f0 := U.f0
      have f1 := U.f1
      by_cases hn : 0 ≤ x
      · have hpp := hi_nn p0
        have hwx := hide (wrap_id hn (by omega))
        go_wp2
        go_region_with (go_at_call 55; refine (plus_any (hiW p) (loW p) 0 (IntKind.u64.wrap x) (p + x) _ hpp (by omega) hP.1 hP.2.1 (by rw [hwx.out]; omega) (by rw [hwx.out]; omega) (show _ = _ by rw [hwx.out]; have := hP.2.2.out; omega) (show _ < _ by omega)).mono ?_; rintro e w1 ⟨rfl, hb1⟩; have U1 := (U.later ((Below.refl _ _).drew)).later hb1; have d0 := U1.c0; have d1 := U1.c1; have g0 := U1.f0; have g1 := U1.f1)
        all_goals
          have D1 := (D.later ((Below.refl _ _).drew)).later hb1
          have hB1 : Below w.heap.size w w1 := hB.drew.trans (hb1.mono hB.size)
          go_wp2
          go_roundw
          case rel => exact ⟨k + 1, p + x, n, by omega, by go_num, (show _ = _ by rw [HS'.out, ← HS.out]; omega), by omega, by omega, n0, by omega, U1.put _ _, D1.set _ _ (by omega), (hB1.setCell (p := ⟨w.heap.size, 0, none⟩) (by simp) _).setCell (p := ⟨w.heap.size, 1, none⟩) (by simp) _⟩
          case measure => simp [intOf]; omega
      · have hnn := hi_nn n0
        have hQ := hl_of n
        clear c0 c1 f0 f1
        have c0 := D.c0
        have c1 := D.c1
        have f0 := D.f0
        have f1 := D.f1
        have hwx := hide (neg_wrap (x := x) (by omega) bx.1)
        go_wp2
        go_region_with (go_at_call 55; refine (plus_any (hiW n) (loW n) 0 (IntKind.u64.wrap (-IntKind.u64.wrap x)) (n - x) _ hnn (by omega) hQ.1 hQ.2.1 (by rw [hwx.out]; omega) (by rw [hwx.out]; omega) (show _ = _ by rw [hwx.out]; have := hQ.2.2.out; omega) (show _ < _ by omega)).mono ?_; rintro e w1 ⟨rfl, hb1⟩; have D1 := (D.later ((Below.refl _ _).drew)).later hb1; have d0 := D1.c0; have d1 := D1.c1; have g0 := D1.f0; have g1 := D1.f1)
        all_goals
          have U1 := (U.later ((Below.refl _ _).drew)).later hb1
          have hB1 : Below w.heap.size w w1 := hB.drew.trans (hb1.mono hB.size)
          go_wp2
          go_roundw
          case rel => exact ⟨k + 1, p, n - x, by omega, by go_num, (show _ = _ by rw [HS'.out, ← HS.out]; omega), p0, by omega, by omega, by omega, U1.set _ _ (by omega), D1.put _ _, (hB1.setCell (p := ⟨w.heap.size + 1, 0, none⟩) (by simp) _).setCell (p := ⟨w.heap.size + 1, 1, none⟩) (by simp) _⟩
          case measure => simp [intOf]; omega
    · have hS : Hid (p - n = l.sum) := by have h := HS.out; rw [List.take_of_length_le (by omega)] at h; exact h
      have hP := hl_of p
      have hQ := hl_of n
      have hpp := hi_nn p0
      have hnn := hi_nn n0
      have c0 := U.c0
      have c1 := U.c1
      have e0 := D.c0
      have e1 := D.c1
      have HP := hide hP.2.2.out
      have HQ := hide hQ.2.2.out
      clear hb hr HS
      by_cases hlt2 : p < n
      · go_wp2_with fail
        refine (less_any _ _ _ _ true _ hP.1 hP.2.1 hQ.1 hQ.2.1 (show _ = _ by have := HP.out; have := HQ.out; simp; omega)).mono ?_
        rintro e w1 ⟨rfl, hb1⟩
        have U1 := U.later hb1
        have D1 := D.later hb1
        have hB1 := hB.trans (hb1.mono hB.size)
        clear c0 c1 e0 e1
        have c0 := U1.c0
        have c1 := U1.c1
        have e0 := D1.c0
        have e1 := D1.c1
        go_wp2_with fail
        refine (minus_any _ _ _ _ (n - p) _ (by have := HQ.out; omega) hpp hQ.1 hQ.2.1 hP.1 hP.2.1 (show _ = _ by have := HP.out; have := HQ.out; omega) (show _ ≤ _ by omega)).mono ?_
        rintro e w2 ⟨rfl, hb2⟩
        have hB2 := hB1.trans (hb2.mono hB1.size)
        have hB3 := hB2.alloc hB2.size (.cells #[.int .u64 (hiW (n - p)), .int .u64 (loW (n - p))] 95)
        have hR := hl_of (n - p)
        have HR := hide hR.2.2.out
        have hrr := hi_nn (n := n - p) (by omega)
        by_cases hov : 9223372036854775808 < n - p
        · have H := hide (sum_over (s := l.sum) (by have := hS.out; omega))
          by_cases hq : 0 < hiW (n - p)
          · go_wp2_with fail
            go_ret2
            exact ⟨ret_ss H.out.1.symm H.out.2.symm, hB3⟩
          · have hq2 : 9223372036854775808 < loW (n - p) := by have := HR.out; omega
            go_wp2_with fail
            go_ret2
            exact ⟨ret_ss H.out.1.symm H.out.2.symm, hB3⟩
        · have H := hide (sum_ok (s := l.sum) (by have := hS.out; omega))
          have ws := word_small (x := n - p) (by omega) (by omega)
          have Hv := hide (neg_conv (d := n - p) (by omega) (by omega))
          rw [ws.1, ws.2] at hB3
          rw [ws.1, ws.2]
          clear hR HR hrr ws
          go_wp2_with fail
          go_ret2
          exact ⟨ret_ss (Hv.out.trans ((show -(n - p) = l.sum by have := hS.out; omega).trans H.out.1.symm)) H.out.2.symm, hB3⟩
      · go_wp2_with fail
        refine (less_any _ _ _ _ false _ hP.1 hP.2.1 hQ.1 hQ.2.1 (show _ = _ by have := HP.out; have := HQ.out; simp; omega)).mono ?_
        rintro e w1 ⟨rfl, hb1⟩
        have U1 := U.later hb1
        have D1 := D.later hb1
        have hB1 := hB.trans (hb1.mono hB.size)
        clear c0 c1 e0 e1
        have c0 := U1.c0
        have c1 := U1.c1
        have e0 := D1.c0
        have e1 := D1.c1
        go_wp2_with fail
        refine (minus_any _ _ _ _ (p - n) _ (by have := HP.out; omega) hnn hP.1 hP.2.1 hQ.1 hQ.2.1 (show _ = _ by have := HP.out; have := HQ.out; omega) (show _ ≤ _ by omega)).mono ?_
        rintro e w2 ⟨rfl, hb2⟩
        have hB2 := hB1.trans (hb2.mono hB1.size)
        have hB3 := hB2.alloc hB2.size (.cells #[.int .u64 (hiW (p - n)), .int .u64 (loW (p - n))] 95)
        have hR := hl_of (p - n)
        have HR := hide hR.2.2.out
        have hrr := hi_nn (n := p - n) (by omega)
        by_cases hov : 9223372036854775807 < p - n
        · have H := hide (sum_over (s := l.sum) (by have := hS.out; omega))
          by_cases hq : 0 < hiW (p - n)
          · go_wp2_with fail
            go_ret2
            exact ⟨ret_ss H.out.1.symm H.out.2.symm, hB3⟩
          · have hq2 : 9223372036854775807 < loW (p - n) := by have := HR.out; omega
            go_wp2_with fail
            go_ret2
            exact ⟨ret_ss H.out.1.symm H.out.2.symm, hB3⟩
        · have H := hide (sum_ok (s := l.sum) (by have := hS.out; omega))
          have ws := word_small (x := p - n) (by omega) (by omega)
          have hd : 0 ≤ p - n := by omega
          rw [ws.1, ws.2] at hB3
          rw [ws.1, ws.2]
          clear hR HR hrr ws
          go_wp2_with fail
          go_ret2
          exact ⟨ret_ss (hS.out.trans H.out.1.symm) H.out.2.symm, hB3⟩
end Go.Proofs.YthmbfdjbjljaiaaGreatDoor
