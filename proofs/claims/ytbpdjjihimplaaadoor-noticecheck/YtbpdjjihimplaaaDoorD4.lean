/-
  My own text: a number's date: the program's and the document's; the day of the week.
-/
import Derived.Test.YtbpdjjihimplaaaDoorD3
namespace Go.Proofs.YtbpdjjihimplaaaDoor
open Go.RowKit

theorem ret_date {a b c a' b' c' : Int} (h1 : a = a') (h2 : b = b') (h3 : c = c') : Ending.returned (.agg #[.int .i64 a, .int .i64 b, .int .i64 c]) = .returned (dateV a' b' c') := by rw [h1, h2, h3]; rfl
theorem month_next {Y r k x : Int} (h : x = r - aheadM Y k) (hb : r ≤ ydays Y) (k1 : 1 ≤ k) (k2 : k ≤ 12) (hx : mdays Y k < x) : k < 12 := by
  by_cases e : k = 12
  · subst e
    have h1 := aheadM_succ Y (m := 12) (by omega) (by omega)
    have h2 := aheadM_last Y
    rw [show (12 : Int) + 1 = 13 from rfl] at h1
    omega
  · omega
theorem date_is {n Y k x : Int} (h1 : 1 ≤ n) (y1 : 1 ≤ Y) (k1 : 1 ≤ k) (k2 : k ≤ 12) (x1 : 1 ≤ x) (x2 : x ≤ mdays Y k) (h : x = n - aheadY Y - aheadM Y k) : yearI n = Y ∧ monthI n = k ∧ dayI n = x :=
  dateI_of ⟨y1, k1, k2, x1, x2⟩ (by unfold numI; omega) h1
theorem guess_b {n : Int} (h1 : 1 ≤ n) (h2 : n ≤ 3652059) : 0 ≤ (n - 1) * 400 / 146097 ∧ (n - 1) * 400 / 146097 ≤ 9998 := by omega

set_option maxHeartbeats 1000000 in
theorem dateOf_any (n : Int) (w : World) (HM : Hid (MDays w)) (h1 : 1 ≤ n) (h2 : n ≤ 3652059) :
    Calls Tryd.prog 53 #[.int .i64 n] w fun e w' => e = .returned (dateV (yearI n) (monthI n) (dayI n)) ∧ Below w.heap.size w w' := by
  have HG := hide (guess h1)
  have hq := guess_b h1 h2
  have hB : Hid (Below w.heap.size w (w.alloc (.cells #[.int .i64 0, .int .i64 0, .int .i64 0] 86))) := hide (below_date w 0 0 0)
  obtain ⟨q, HQ⟩ : ∃ q, Hid ((n - 1) * 400 / 146097 = q) := ⟨_, hide rfl⟩
  rw [HQ.out] at HG hq
  obtain ⟨q0, q1⟩ := hq
  go_enter Tryd.func53, Tryd.ntmps53
  go_wp2_with fail
  rw [HQ.out]
  refine (daysAhead_any (q + 1 + 1) _ (by omega) (by omega)).mono ?_
  rintro e w' ⟨rfl, rfl⟩
  by_cases hc : aheadY (q + 1 + 1) < n
  · have HA := hide hc
    obtain ⟨a, HAE⟩ : ∃ a, Hid (aheadY (q + 1 + 1) = a) := ⟨_, hide rfl⟩
    rw [HAE.out] at hc ⊢
    go_wp2_with fail
    refine (daysAhead_any (q + 1 + 1) _ (by omega) (by omega)).mono ?_
    rintro e w' ⟨rfl, rfl⟩
    have HB2 := hide (aheadM_last (q + 1 + 1))
    have hyd := ydays_b (q + 1 + 1)
    have HS2 := hide (aheadY_succ (q + 1 + 1))
    have HYE := hide (fun (k x : Int) => date_is (n := n) (Y := q + 1 + 1) (k := k) (x := x) h1 (by omega))
    have HMN := hide (fun (r k x : Int) => month_next (Y := q + 1 + 1) (r := r) (k := k) (x := x))
    have hb := hide (show aheadY (q + 1 + 1) < n ∧ n - aheadY (q + 1 + 1) ≤ ydays (q + 1 + 1) by have := HG.out; have := HS2.out; have := HA.out; omega)
    obtain ⟨b, HBE⟩ : ∃ b, Hid (aheadY (q + 1 + 1) = b) := ⟨_, hide rfl⟩
    rw [HBE.out] at hb HYE ⊢
    obtain ⟨u, HUE⟩ : ∃ u, Hid (ydays (q + 1 + 1) = u) := ⟨_, hide rfl⟩
    rw [HUE.out] at hb hyd HMN
    obtain ⟨hb1, hb2⟩ := hb.out
    have hb0 := hide (aheadY_b (y := q + 1 + 1) (by omega) (by omega))
    rw [HBE.out] at hb0
    obtain ⟨b0, b9⟩ := hb0.out
    go_wp2_with fail
    go_loop [4, 5] (fun dd i => ∃ (k x : Int), 1 ≤ k ∧ k ≤ 12 ∧ i = .int .i64 k ∧ dd = .int .i64 x ∧ Hid (x = n - b - aheadM (q + 1 + 1) k) ∧ 1 ≤ x ∧ x ≤ 366) (fun _ i => (13 - intOf i).toNat)
    case atStart => exact ⟨1, n - b, by omega, by omega, rfl, rfl, (show _ = _ by rw [aheadM_one]; omega), by omega, by omega⟩
    case round =>
      obtain ⟨k, x, k1, k2, rfl, rfl, HX, x1, x2⟩ := hrel
      have HL := hide (fun (W : World) (h : MDays W) => lengthOf_any (q + 1 + 1) k W h (by omega) k1 k2)
      have ht := mdays_b (q + 1 + 1) k
      have HS := hide (aheadM_succ (q + 1 + 1) k1 k2)
      have HN := hide (HMN.out (n - b) k x)
      have HD := hide (HYE.out k x k1 k2 x1)
      obtain ⟨t, HT⟩ : ∃ t, Hid (mdays (q + 1 + 1) k = t) := ⟨_, hide rfl⟩
      rw [HT.out] at HL ht HS HN HD
      obtain ⟨t0, t1⟩ := ht
      by_cases hlt : t < x
      · have hk : k < 12 := HN.out HX.out hb2 k1 k2 hlt
        go_wp2_with (go_at_call 59; refine (HL.out _ (HM.out.below hB.out)).mono ?_; rintro e w' ⟨rfl, rfl⟩)
        go_round
        case rel => exact ⟨k + 1, x - t, by omega, by omega, by go_num, by go_num, (show _ = _ by rw [HS.out, HX.out]; omega), by omega, by omega⟩
        case measure => simp [intOf]; omega
      · go_wp2_with (go_at_call 59; refine (HL.out _ (HM.out.below hB.out)).mono ?_; rintro e w' ⟨rfl, rfl⟩)
        obtain ⟨e1, e2, e3⟩ := HD.out (by omega) HX.out
        exact bodyPost_ret (v := .agg #[.int .i64 (q + 1 + 1), .int .i64 k, .int .i64 x]) (by simp [results, Tryd.results53, go_sem]) rfl ⟨ret_date e1.symm e2.symm e3.symm, below_date w _ _ _⟩
  · have HA := hide hc
    obtain ⟨a, HAE⟩ : ∃ a, Hid (aheadY (q + 1 + 1) = a) := ⟨_, hide rfl⟩
    rw [HAE.out] at hc ⊢
    go_wp2_with fail
    refine (daysAhead_any (q + 1) _ (by omega) (by omega)).mono ?_
    rintro e w' ⟨rfl, rfl⟩
    have HB2 := hide (aheadM_last (q + 1))
    have hyd := ydays_b (q + 1)
    have HS2 := hide (aheadY_succ (q + 1))
    have HYE := hide (fun (k x : Int) => date_is (n := n) (Y := q + 1) (k := k) (x := x) h1 (by omega))
    have HMN := hide (fun (r k x : Int) => month_next (Y := q + 1) (r := r) (k := k) (x := x))
    have hb := hide (show aheadY (q + 1) < n ∧ n - aheadY (q + 1) ≤ ydays (q + 1) by have := HG.out; have := HS2.out; have := HA.out; omega)
    obtain ⟨b, HBE⟩ : ∃ b, Hid (aheadY (q + 1) = b) := ⟨_, hide rfl⟩
    rw [HBE.out] at hb HYE ⊢
    obtain ⟨u, HUE⟩ : ∃ u, Hid (ydays (q + 1) = u) := ⟨_, hide rfl⟩
    rw [HUE.out] at hb hyd HMN
    obtain ⟨hb1, hb2⟩ := hb.out
    have hb0 := hide (aheadY_b (y := q + 1) (by omega) (by omega))
    rw [HBE.out] at hb0
    obtain ⟨b0, b9⟩ := hb0.out
    go_wp2_with fail
    go_loop [4, 5] (fun dd i => ∃ (k x : Int), 1 ≤ k ∧ k ≤ 12 ∧ i = .int .i64 k ∧ dd = .int .i64 x ∧ Hid (x = n - b - aheadM (q + 1) k) ∧ 1 ≤ x ∧ x ≤ 366) (fun _ i => (13 - intOf i).toNat)
    case atStart => exact ⟨1, n - b, by omega, by omega, rfl, rfl, (show _ = _ by rw [aheadM_one]; omega), by omega, by omega⟩
    case round =>
      obtain ⟨k, x, k1, k2, rfl, rfl, HX, x1, x2⟩ := hrel
      have HL := hide (fun (W : World) (h : MDays W) => lengthOf_any (q + 1) k W h (by omega) k1 k2)
      have ht := mdays_b (q + 1) k
      have HS := hide (aheadM_succ (q + 1) k1 k2)
      have HN := hide (HMN.out (n - b) k x)
      have HD := hide (HYE.out k x k1 k2 x1)
      obtain ⟨t, HT⟩ : ∃ t, Hid (mdays (q + 1) k = t) := ⟨_, hide rfl⟩
      rw [HT.out] at HL ht HS HN HD
      obtain ⟨t0, t1⟩ := ht
      by_cases hlt : t < x
      · have hk : k < 12 := HN.out HX.out hb2 k1 k2 hlt
        go_wp2_with (go_at_call 59; refine (HL.out _ (HM.out.below hB.out)).mono ?_; rintro e w' ⟨rfl, rfl⟩)
        go_round
        case rel => exact ⟨k + 1, x - t, by omega, by omega, by go_num, by go_num, (show _ = _ by rw [HS.out, HX.out]; omega), by omega, by omega⟩
        case measure => simp [intOf]; omega
      · go_wp2_with (go_at_call 59; refine (HL.out _ (HM.out.below hB.out)).mono ?_; rintro e w' ⟨rfl, rfl⟩)
        obtain ⟨e1, e2, e3⟩ := HD.out (by omega) HX.out
        exact bodyPost_ret (v := .agg #[.int .i64 (q + 1), .int .i64 k, .int .i64 x]) (by simp [results, Tryd.results53, go_sem]) rfl ⟨ret_date e1.symm e2.symm e3.symm, below_date w _ _ _⟩

theorem cell_apart {w : World} {b o b' o' : Nat} {v x : Value} (h : w.cell? ⟨b', o', none⟩ = some x) (hne : b ≠ b' ∨ o ≠ o') : (w.setCell ⟨b, o, none⟩ v).cell? ⟨b', o', none⟩ = some x := by
  rw [World.cell?_setCell_other _ _ _ _ (by intro e; simp at e; omega)]; exact h
/-- A date's variable, in whatever later world. -/
structure Trio (w : World) (b : Nat) (x y z : Int) : Prop where
  lt : b < w.heap.size
  c0 : w.cell? ⟨b, 0, none⟩ = some (.int .i64 x)
  c1 : w.cell? ⟨b, 1, none⟩ = some (.int .i64 y)
  c2 : w.cell? ⟨b, 2, none⟩ = some (.int .i64 z)
  f0 : w.frozen? ⟨b, 0, none⟩ = false
  f1 : w.frozen? ⟨b, 1, none⟩ = false
  f2 : w.frozen? ⟨b, 2, none⟩ = false
theorem Trio.later {w w1 : World} {b : Nat} {x y z : Int} (h : Trio w b x y z) (hb : Below w.heap.size w w1) : Trio w1 b x y z := by
  obtain ⟨hc, hf⟩ := bcell hb
  exact ⟨Nat.lt_of_lt_of_le h.lt hb.size, (hc _ _ h.lt).trans h.c0, (hc _ _ h.lt).trans h.c1, (hc _ _ h.lt).trans h.c2, (hf _ _ h.lt).trans h.f0, (hf _ _ h.lt).trans h.f1, (hf _ _ h.lt).trans h.f2⟩
theorem Trio.new (w : World) (x y z : Int) (t : TypeId) : Trio (w.alloc (.cells #[.int .i64 x, .int .i64 y, .int .i64 z] t)) w.heap.size x y z := by
  refine ⟨by simp, ?_, ?_, ?_, ?_, ?_, ?_⟩ <;> simp
theorem Trio.other {w : World} {b b' o : Nat} {x y z : Int} (h : Trio w b x y z) (v : Value) (hne : b' ≠ b) : Trio (w.setCell ⟨b', o, none⟩ v) b x y z :=
  ⟨by simpa using h.lt, cell_apart h.c0 (Or.inl hne), cell_apart h.c1 (Or.inl hne), cell_apart h.c2 (Or.inl hne), by rw [World.frozen?_setCell]; exact h.f0, by rw [World.frozen?_setCell]; exact h.f1, by rw [World.frozen?_setCell]; exact h.f2⟩
theorem Trio.put0 {w : World} {b : Nat} {x y z : Int} (h : Trio w b x y z) (u : Int) : Trio (w.setCell ⟨b, 0, none⟩ (.int .i64 u)) b u y z :=
  ⟨by simpa using h.lt, World.cell?_setCell_same _ _ _ h.c0, cell_apart h.c1 (by omega), cell_apart h.c2 (by omega), by rw [World.frozen?_setCell]; exact h.f0, by rw [World.frozen?_setCell]; exact h.f1, by rw [World.frozen?_setCell]; exact h.f2⟩
theorem Trio.put1 {w : World} {b : Nat} {x y z : Int} (h : Trio w b x y z) (u : Int) : Trio (w.setCell ⟨b, 1, none⟩ (.int .i64 u)) b x u z :=
  ⟨by simpa using h.lt, cell_apart h.c0 (by omega), World.cell?_setCell_same _ _ _ h.c1, cell_apart h.c2 (by omega), by rw [World.frozen?_setCell]; exact h.f0, by rw [World.frozen?_setCell]; exact h.f1, by rw [World.frozen?_setCell]; exact h.f2⟩
theorem Trio.put2 {w : World} {b : Nat} {x y z : Int} (h : Trio w b x y z) (u : Int) : Trio (w.setCell ⟨b, 2, none⟩ (.int .i64 u)) b x y u :=
  ⟨by simpa using h.lt, cell_apart h.c0 (by omega), cell_apart h.c1 (by omega), World.cell?_setCell_same _ _ _ h.c2, by rw [World.frozen?_setCell]; exact h.f0, by rw [World.frozen?_setCell]; exact h.f1, by rw [World.frozen?_setCell]; exact h.f2⟩
theorem Trio.alloc {w : World} {b : Nat} {x y z : Int} (h : Trio w b x y z) (o : Obj) : Trio (w.alloc o) b x y z := h.later ((Below.refl _ _).alloc (Nat.le_refl _) _)
def ofV (n : Int) : Value := if dayB n then dateV (yearI n) (monthI n) (dayI n) else dateV 0 0 0
def ofE (n : Int) : Int := if dayB n then 0 else 8
theorem of_bad {n : Int} (h : dayB n = false) : ofV n = dateV 0 0 0 ∧ ofE n = 8 := by unfold ofV ofE; rw [h]; exact ⟨rfl, rfl⟩
theorem of_ok {n : Int} (h : dayB n = true) : ofV n = dateV (yearI n) (monthI n) (dayI n) ∧ ofE n = 0 := by unfold ofV ofE; rw [h]; exact ⟨rfl, rfl⟩
theorem dayB_iff (n : Int) : dayB n = true ↔ 1 ≤ n ∧ n ≤ 3652059 := by unfold dayB; rw [decide_eq_true_iff]
theorem ret_datei {a b c a' b' c' e e' : Int} (h1 : a = a') (h2 : b = b') (h3 : c = c') (h4 : e = e') : Ending.returned (.tuple #[.agg #[.int .i64 a, .int .i64 b, .int .i64 c], .int .i64 e]) = .returned (.tuple #[dateV a' b' c', .int .i64 e']) := by rw [h1, h2, h3, h4]; rfl
theorem below_dates (w : World) (y m d y' m' d' : Int) : Below w.heap.size w ((w.alloc (dateO y m d)).alloc (dateO y' m' d')) := ((Below.refl _ _).alloc (Nat.le_refl _) _).alloc (by simp) _

end Go.Proofs.YtbpdjjihimplaaaDoor
