/-
  My own text: what the laws ask of errors; one of the document's four calls (printed by mkbt.py).
-/
import Derived.Test.YtmebomifakmkbaaDoorBR3
import Derived.Test.YtmebomifakmkbaaDoorB8
namespace Go.Proofs.YtmebomifakmkbaaDoor
open Go.RowKit

set_option maxRecDepth 100000 in
set_option maxHeartbeats 2000000 in
theorem told_at (av c at_ t0 : Int) (x : Value) (tt : TypeId) (v : Value) (L : List Mk) (w : World) (h : RM w v L) (ho : MOk L) (h1 : av ≤ top) (hl : L.length ≤ 4611686018427387904) (hE : ErrType w) (hc : ck av L = (c, at_)) (hn : ¬ c = 0) (hz : t0 = 0)
    (HAt : ∀ W, ErrType W → Calls Tryd.prog 35 #[.iface tt x, .int .i64 c, .int .i64 t0, .int .i64 at_] W fun e w' => e = .returned (.bool true) ∧ Below W.heap.size W w') :
    Calls Tryd.prog 12 #[.iface tt x, .int .i64 c, .agg #[.int .i64 av, v]] w fun e w' => e = .returned (.bool true) ∧ Below w.heap.size w w' := by
  subst hz
  have HCK := hide (fun (W : World) (hw : Below w.heap.size w W) => rCheck_any av v L W (h.later hw) ho h1 hl)
  rw [hc] at HCK
  unfold ckP at HCK
  dsimp only at HCK
  obtain ⟨a, cap, rfl, _, _⟩ := h
  have HA := hide HAt
  have HE := hide hE
  have B0 := hide ((Below.refl w.heap.size w).alloc (Nat.le_refl _) (.cells #[.int .i64 av, .slice a L.length cap] 24))
  obtain ⟨x0, x1⟩ := pair_cells (Px.new w av (.slice a L.length cap)) rfl
  have d1 : (c != 0) = true := by rw [bne_iff_ne]; exact hn
  have d2 : (c == c) = true := by simp
  clear HAt hE hn hc ho h1 hl
  go_enter Tryd.func12, Tryd.ntmps12
  go_wp2_with fail
  refine (HCK.out _ B0.out).mono ?_
  rintro e w1 ⟨rfl, hb⟩
  have B1 := hide (B0.out.trans (hb.mono B0.out.size))
  clear hb
  go_wp2_with fail
  refine (HA.out _ (HE.out.below B1.out)).mono ?_
  rintro e w2 ⟨rfl, hb⟩
  have B2 := hide (B1.out.trans (hb.mono B1.out.size))
  clear hb
  go_wp2_with fail
  go_ret
  exact ⟨rfl, B2.out⟩
set_option maxRecDepth 100000 in
set_option maxHeartbeats 2000000 in
theorem told_pl (av n : Int) (ev : Value) (v : Value) (L : List Mk) (w : World) (h : RM w v L) (ho : MOk L) (h1 : av ≤ top) (hl : L.length ≤ 4611686018427387904) (hE : ErrType w) (hc : (ck av L).1 = 0)
    (HPl : ∀ W, ErrType W → Calls Tryd.prog 36 #[ev, .int .i64 n] W fun e w' => e = .returned (.bool true) ∧ Below W.heap.size W w') :
    Calls Tryd.prog 12 #[ev, .int .i64 n, .agg #[.int .i64 av, v]] w fun e w' => e = .returned (.bool true) ∧ Below w.heap.size w w' := by
  have HCK := hide (fun (W : World) (hw : Below w.heap.size w W) => rCheck_any av v L W (h.later hw) ho h1 hl)
  unfold ckP at HCK
  rw [hc] at HCK
  generalize (ck av L).2 = c2 at *
  obtain ⟨a, cap, rfl, _, _⟩ := h
  have HA := hide HPl
  have HE := hide hE
  have B0 := hide ((Below.refl w.heap.size w).alloc (Nat.le_refl _) (.cells #[.int .i64 av, .slice a L.length cap] 24))
  obtain ⟨x0, x1⟩ := pair_cells (Px.new w av (.slice a L.length cap)) rfl
  clear HPl hE hc ho h1 hl
  go_enter Tryd.func12, Tryd.ntmps12
  go_wp2_with fail
  refine (HCK.out _ B0.out).mono ?_
  rintro e w1 ⟨rfl, hb⟩
  have B1 := hide (B0.out.trans (hb.mono B0.out.size))
  clear hb
  go_wp2_with fail
  refine (HA.out _ (HE.out.below B1.out)).mono ?_
  rintro e w2 ⟨rfl, hb⟩
  have B2 := hide (B1.out.trans (hb.mono B1.out.size))
  clear hb
  go_wp2_with fail
  go_ret
  exact ⟨rfl, B2.out⟩
/-- What Check tells is told rightly. -/
theorem told_ck (av : Int) (v : Value) (L : List Mk) (w : World) (h : RM w v L) (ho : MOk L) (h1 : av ≤ top) (hl : L.length ≤ 4611686018427387904) (hE : ErrType w) :
    Calls Tryd.prog 12 #[ckE (ck av L), .int .i64 (ck av L).1, .agg #[.int .i64 av, v]] w fun e w' => e = .returned (.bool true) ∧ Below w.heap.size w w' := by
  by_cases hc : (ck av L).1 = 0
  · rw [ckE_yes hc, hc]
    exact told_pl av 0 .nilIface v L w h ho h1 hl hE hc (fun W _ => plain_nil 0 W)
  · rw [ckE_no hc]
    rcases ck_lo av L with e | ⟨e1, e2, _⟩
    · rw [e] at hc; exact absurd rfl hc
    · exact told_at av (ck av L).1 (ck av L).2 0 _ _ v L w h ho h1 hl hE rfl hc rfl (fun W hW => at_fault (ck av L).1 0 (ck av L).2 W e1 e2 hW)
theorem ask_shape {k q n av : Int} {L : List Mk} {t : TypeId} {x : Value} (h : askO k q n av L = .no t x) : (¬ (ck av L).1 = 0 ∧ t = 78 ∧ x = .agg #[.int .i64 (ck av L).1, .int .i64 0, .int .i64 (ck av L).2]) ∨ ((ck av L).1 = 0 ∧ ∃ j : Int, 1 ≤ j ∧ j ≤ 24 ∧ t = 74 ∧ x = .int .i64 j) := by
  by_cases hc : (ck av L).1 = 0
  · right
    refine ⟨hc, ?_⟩
    by_cases hq : q < 1
    · have hb := bg_q hc hq
      unfold askO creditO debitO markO unmarkO at h
      rw [hb] at h
      dsimp only at h
      refine ⟨16, by decide, by decide, ?_⟩
      split at h
      · cases h; exact ⟨rfl, rfl⟩
      · split at h
        · cases h; exact ⟨rfl, rfl⟩
        · split at h <;> (cases h; exact ⟨rfl, rfl⟩)
    · have hb := bg_n hc hq
      unfold askO creditO debitO markO unmarkO at h
      rw [hb] at h
      dsimp only at h
      repeat' split at h
      all_goals first | (cases h; exact ⟨_, by decide, by decide, rfl, rfl⟩) | cases h
  · left
    refine ⟨hc, ?_⟩
    have hb := bg_c (q := q) hc
    unfold askO creditO debitO markO unmarkO at h
    rw [hb] at h
    dsimp only at h
    repeat' split at h
    all_goals (cases h; exact ⟨rfl, rfl⟩)
/-- What a call tells is told rightly. -/
theorem told_ask (k q n av : Int) (s : List UInt8) (t : TypeId) (x : Value) (v : Value) (L : List Mk) (w : World) (h : RM w v L) (ho : MOk L) (h1 : av ≤ top) (hl : L.length ≤ 4611686018427387904) (hE : ErrType w) (hA : askO k q n av L = .no t x) :
    Calls Tryd.prog 12 #[refV s (.iface t x), .int .i64 (noN (.no t x)), .agg #[.int .i64 av, v]] w fun e w' => e = .returned (.bool true) ∧ Below w.heap.size w w' := by
  rcases ask_shape hA with ⟨hc, rfl, rfl⟩ | ⟨hc, j, j1, j2, rfl, rfl⟩
  · rcases ck_lo av L with e | ⟨e1, e2, _⟩
    · rw [e] at hc; exact absurd rfl hc
    · exact told_at av (ck av L).1 (ck av L).2 0 _ _ v L w h ho h1 hl hE rfl hc rfl (fun W hW => at_rf s (ck av L).1 0 (ck av L).2 W e1 e2 hW)
  · exact told_pl av j _ v L w h ho h1 hl hE hc (fun W hW => (plain_rn s j j W j1 j2 hW).mono fun e w' ⟨he, hb⟩ => ⟨by rw [he]; simp, hb⟩)
theorem told_ok (k q n av a : Int) (M : List Mk) (v : Value) (L : List Mk) (w : World) (h : RM w v L) (ho : MOk L) (h1 : av ≤ top) (hl : L.length ≤ 4611686018427387904) (hE : ErrType w) (hA : askO k q n av L = .ok a M) :
    Calls Tryd.prog 12 #[.nilIface, .int .i64 0, .agg #[.int .i64 av, v]] w fun e w' => e = .returned (.bool true) ∧ Below w.heap.size w w' :=
  told_pl av 0 .nilIface v L w h ho h1 hl hE ((ck_right h1).2 (ask_ok h1 hA).1) (fun W _ => plain_nil 0 W)
theorem RAns.no {w w' : World} {t : TypeId} {x : Value} {e : Ending} (h : RAns w w' (.no t x) e) : e = .returned (.tuple #[posZ, .int .i64 (noN (.no t x))]) := h
theorem RAns.ok {w w' : World} {a : Int} {M : List Mk} {e : Ending} (h : RAns w w' (.ok a M) e) : ∃ v, e = .returned (.tuple #[.agg #[.int .i64 a, v], .int .i64 0]) ∧ OM w' w.heap.size v M := h
set_option maxRecDepth 100000 in
set_option maxHeartbeats 2000000 in
theorem tell0_no (k q n av : Int) (v : Value) (L : List Mk) (w : World) (t : TypeId) (x : Value) (h : RM w v L) (ho : MOk L) (h1 : av ≤ top) (hq1 : q ≤ top) (hl : L.length ≤ 4611686018427387904) (hk : k = 0) (ho2 : creditO av L q = .no t x) :
    Calls Tryd.prog 21 #[.agg #[.int .i64 av, v], .agg #[.int .i64 k, .int .i64 q, .int .i64 n]] w fun e w' => RAns w w' (.no t x) e ∧ Below w.heap.size w w' := by
  have HC := hide (fun (W : World) (hb : Below w.heap.size w W) => rcredit_any av q v L W (h.later hb) ho h1 hq1 hl)
  rw [ho2] at HC
  obtain ⟨a, cap, rfl, _, _⟩ := h
  have X0 := hide (Bx3.new w av (.slice a L.length cap) k q n)
  obtain ⟨⟨x0, x1⟩, ⟨c0, c1, c2⟩, y0, y1, f0, f1⟩ := X0.out.facts
  have d0 : (k == 0) = true := by rw [beq_iff_eq]; exact hk
  clear ho ho2 hk h1 hq1 hl
  go_enter Tryd.func21, Tryd.ntmps21
  go_wp2_with fail
  refine (HC.out _ X0.out.low).mono ?_
  rintro e w1 ⟨hA, hb⟩
  replace hA := hA.no
  subst hA
  obtain ⟨N, HN⟩ : ∃ N, Hid (noN (.no t x) = N) := ⟨_, hide rfl⟩
  rw [HN.out]
  have X1 := hide (X0.out.later hb)
  clear x0 x1 c0 c1 c2 y0 y1 f0 f1 hb
  obtain ⟨⟨x0, x1⟩, ⟨c0, c1, c2⟩, y0, y1, f0, f1⟩ := X1.out.facts
  go_wp2_with fail
  have e1 := set2 (a := .int .i64 0) (b := .slice Option.none 0 0) X1.out.res
  have e3 := (X1.out.low.setCell (p := ⟨w.heap.size + 1 + 1, 0, none⟩) (by simp; omega) (.int .i64 0)).setCell (p := ⟨w.heap.size + 1 + 1, 1, none⟩) (by simp; omega) (.slice Option.none 0 0)
  generalize ((w1.setCell ⟨w.heap.size + 1 + 1, 0, none⟩ (.int .i64 0)).setCell ⟨w.heap.size + 1 + 1, 1, none⟩ (.slice Option.none 0 0)) = X at *
  obtain ⟨dd0, dd1⟩ := pair_cells e1 rfl
  exact bodyPost_ret (v := .tuple #[posZ, .int .i64 N]) (by simp [results, Tryd.results21, go_sem, dd0, dd1]) rfl ⟨by rw [← HN.out]; rfl, e3⟩
set_option maxRecDepth 100000 in
set_option maxHeartbeats 2000000 in
theorem tell0_ok (k q n av : Int) (v : Value) (L : List Mk) (w : World) (a0 : Int) (M : List Mk) (h : RM w v L) (ho : MOk L) (h1 : av ≤ top) (hq1 : q ≤ top) (hl : L.length ≤ 4611686018427387904) (hk : k = 0) (ho2 : creditO av L q = .ok a0 M) :
    Calls Tryd.prog 21 #[.agg #[.int .i64 av, v], .agg #[.int .i64 k, .int .i64 q, .int .i64 n]] w fun e w' => RAns w w' (.ok a0 M) e ∧ Below w.heap.size w w' := by
  have HC := hide (fun (W : World) (hb : Below w.heap.size w W) => rcredit_any av q v L W (h.later hb) ho h1 hq1 hl)
  rw [ho2] at HC
  obtain ⟨a, cap, rfl, _, _⟩ := h
  have X0 := hide (Bx3.new w av (.slice a L.length cap) k q n)
  obtain ⟨⟨x0, x1⟩, ⟨c0, c1, c2⟩, y0, y1, f0, f1⟩ := X0.out.facts
  have d0 : (k == 0) = true := by rw [beq_iff_eq]; exact hk
  clear ho ho2 hk h1 hq1 hl
  go_enter Tryd.func21, Tryd.ntmps21
  go_wp2_with fail
  refine (HC.out _ X0.out.low).mono ?_
  rintro e w1 ⟨hA, hb⟩
  obtain ⟨v', hv', hO⟩ := hA.ok
  subst hv'
  obtain ⟨a4, c4, hv4⟩ := rm_lt (OM.rm hO)
  subst hv4
  have HO := hide (World.ownsRow.mono hO X0.out.low.size)
  clear hA hO
  have X1 := hide (X0.out.later hb)
  clear x0 x1 c0 c1 c2 y0 y1 f0 f1 hb
  obtain ⟨⟨x0, x1⟩, ⟨c0, c1, c2⟩, y0, y1, f0, f1⟩ := X1.out.facts
  go_wp2_with fail
  obtain ⟨e1, e2, e3⟩ := turn_end (a2 := a0) X1.out.res HO.out X1.out.low (by omega)
  generalize ((w1.setCell ⟨w.heap.size + 1 + 1, 0, none⟩ (.int .i64 a0)).setCell ⟨w.heap.size + 1 + 1, 1, none⟩ (.slice a4 M.length c4)) = X at *
  obtain ⟨dd0, dd1⟩ := pair_cells e1 rfl
  exact bodyPost_ret (v := .tuple #[.agg #[.int .i64 a0, .slice a4 M.length c4], .int .i64 0]) (by simp [results, Tryd.results21, go_sem, dd0, dd1]) rfl ⟨⟨_, rfl, e2⟩, e3⟩
set_option maxRecDepth 100000 in
set_option maxHeartbeats 2000000 in
theorem tell1_no (k q n av : Int) (v : Value) (L : List Mk) (w : World) (t : TypeId) (x : Value) (h : RM w v L) (ho : MOk L) (h1 : av ≤ top) (hq1 : q ≤ top) (hl : L.length ≤ 4611686018427387904) (hk : k = 1) (ho2 : debitO av L q n = .no t x) :
    Calls Tryd.prog 21 #[.agg #[.int .i64 av, v], .agg #[.int .i64 k, .int .i64 q, .int .i64 n]] w fun e w' => RAns w w' (.no t x) e ∧ Below w.heap.size w w' := by
  have HC := hide (fun (W : World) (hb : Below w.heap.size w W) => rdebit_any av q n v L W (h.later hb) ho h1 hq1 hl)
  rw [ho2] at HC
  obtain ⟨a, cap, rfl, _, _⟩ := h
  have X0 := hide (Bx3.new w av (.slice a L.length cap) k q n)
  obtain ⟨⟨x0, x1⟩, ⟨c0, c1, c2⟩, y0, y1, f0, f1⟩ := X0.out.facts
  have d0 : (k == 0) = false := by rw [beq_eq_false_iff_ne]; omega
  have d1 : (k == 1) = true := by rw [beq_iff_eq]; exact hk
  clear ho ho2 hk h1 hq1 hl
  go_enter Tryd.func21, Tryd.ntmps21
  go_wp2_with fail
  refine (HC.out _ X0.out.low).mono ?_
  rintro e w1 ⟨hA, hb⟩
  replace hA := hA.no
  subst hA
  obtain ⟨N, HN⟩ : ∃ N, Hid (noN (.no t x) = N) := ⟨_, hide rfl⟩
  rw [HN.out]
  have X1 := hide (X0.out.later hb)
  clear x0 x1 c0 c1 c2 y0 y1 f0 f1 hb
  obtain ⟨⟨x0, x1⟩, ⟨c0, c1, c2⟩, y0, y1, f0, f1⟩ := X1.out.facts
  go_wp2_with fail
  have e1 := set2 (a := .int .i64 0) (b := .slice Option.none 0 0) X1.out.res
  have e3 := (X1.out.low.setCell (p := ⟨w.heap.size + 1 + 1, 0, none⟩) (by simp; omega) (.int .i64 0)).setCell (p := ⟨w.heap.size + 1 + 1, 1, none⟩) (by simp; omega) (.slice Option.none 0 0)
  generalize ((w1.setCell ⟨w.heap.size + 1 + 1, 0, none⟩ (.int .i64 0)).setCell ⟨w.heap.size + 1 + 1, 1, none⟩ (.slice Option.none 0 0)) = X at *
  obtain ⟨dd0, dd1⟩ := pair_cells e1 rfl
  exact bodyPost_ret (v := .tuple #[posZ, .int .i64 N]) (by simp [results, Tryd.results21, go_sem, dd0, dd1]) rfl ⟨by rw [← HN.out]; rfl, e3⟩
set_option maxRecDepth 100000 in
set_option maxHeartbeats 2000000 in
theorem tell1_ok (k q n av : Int) (v : Value) (L : List Mk) (w : World) (a0 : Int) (M : List Mk) (h : RM w v L) (ho : MOk L) (h1 : av ≤ top) (hq1 : q ≤ top) (hl : L.length ≤ 4611686018427387904) (hk : k = 1) (ho2 : debitO av L q n = .ok a0 M) :
    Calls Tryd.prog 21 #[.agg #[.int .i64 av, v], .agg #[.int .i64 k, .int .i64 q, .int .i64 n]] w fun e w' => RAns w w' (.ok a0 M) e ∧ Below w.heap.size w w' := by
  have HC := hide (fun (W : World) (hb : Below w.heap.size w W) => rdebit_any av q n v L W (h.later hb) ho h1 hq1 hl)
  rw [ho2] at HC
  obtain ⟨a, cap, rfl, _, _⟩ := h
  have X0 := hide (Bx3.new w av (.slice a L.length cap) k q n)
  obtain ⟨⟨x0, x1⟩, ⟨c0, c1, c2⟩, y0, y1, f0, f1⟩ := X0.out.facts
  have d0 : (k == 0) = false := by rw [beq_eq_false_iff_ne]; omega
  have d1 : (k == 1) = true := by rw [beq_iff_eq]; exact hk
  clear ho ho2 hk h1 hq1 hl
  go_enter Tryd.func21, Tryd.ntmps21
  go_wp2_with fail
  refine (HC.out _ X0.out.low).mono ?_
  rintro e w1 ⟨hA, hb⟩
  obtain ⟨v', hv', hO⟩ := hA.ok
  subst hv'
  obtain ⟨a4, c4, hv4⟩ := rm_lt (OM.rm hO)
  subst hv4
  have HO := hide (World.ownsRow.mono hO X0.out.low.size)
  clear hA hO
  have X1 := hide (X0.out.later hb)
  clear x0 x1 c0 c1 c2 y0 y1 f0 f1 hb
  obtain ⟨⟨x0, x1⟩, ⟨c0, c1, c2⟩, y0, y1, f0, f1⟩ := X1.out.facts
  go_wp2_with fail
  obtain ⟨e1, e2, e3⟩ := turn_end (a2 := a0) X1.out.res HO.out X1.out.low (by omega)
  generalize ((w1.setCell ⟨w.heap.size + 1 + 1, 0, none⟩ (.int .i64 a0)).setCell ⟨w.heap.size + 1 + 1, 1, none⟩ (.slice a4 M.length c4)) = X at *
  obtain ⟨dd0, dd1⟩ := pair_cells e1 rfl
  exact bodyPost_ret (v := .tuple #[.agg #[.int .i64 a0, .slice a4 M.length c4], .int .i64 0]) (by simp [results, Tryd.results21, go_sem, dd0, dd1]) rfl ⟨⟨_, rfl, e2⟩, e3⟩
set_option maxRecDepth 100000 in
set_option maxHeartbeats 2000000 in
theorem tell2_no (k q n av : Int) (v : Value) (L : List Mk) (w : World) (t : TypeId) (x : Value) (h : RM w v L) (ho : MOk L) (h1 : av ≤ top) (hq1 : q ≤ top) (hl : L.length ≤ 4611686018427387904) (hk : k = 2) (ho2 : markO av L q n = .no t x) :
    Calls Tryd.prog 21 #[.agg #[.int .i64 av, v], .agg #[.int .i64 k, .int .i64 q, .int .i64 n]] w fun e w' => RAns w w' (.no t x) e ∧ Below w.heap.size w w' := by
  have HC := hide (fun (W : World) (hb : Below w.heap.size w W) => rmark_any av q n v L W (h.later hb) ho h1 hq1 hl)
  rw [ho2] at HC
  obtain ⟨a, cap, rfl, _, _⟩ := h
  have X0 := hide (Bx3.new w av (.slice a L.length cap) k q n)
  obtain ⟨⟨x0, x1⟩, ⟨c0, c1, c2⟩, y0, y1, f0, f1⟩ := X0.out.facts
  have d0 : (k == 0) = false := by rw [beq_eq_false_iff_ne]; omega
  have d1 : (k == 1) = false := by rw [beq_eq_false_iff_ne]; omega
  have d2 : (k == 2) = true := by rw [beq_iff_eq]; exact hk
  clear ho ho2 hk h1 hq1 hl
  go_enter Tryd.func21, Tryd.ntmps21
  go_wp2_with fail
  refine (HC.out _ X0.out.low).mono ?_
  rintro e w1 ⟨hA, hb⟩
  replace hA := hA.no
  subst hA
  obtain ⟨N, HN⟩ : ∃ N, Hid (noN (.no t x) = N) := ⟨_, hide rfl⟩
  rw [HN.out]
  have X1 := hide (X0.out.later hb)
  clear x0 x1 c0 c1 c2 y0 y1 f0 f1 hb
  obtain ⟨⟨x0, x1⟩, ⟨c0, c1, c2⟩, y0, y1, f0, f1⟩ := X1.out.facts
  go_wp2_with fail
  have e1 := set2 (a := .int .i64 0) (b := .slice Option.none 0 0) X1.out.res
  have e3 := (X1.out.low.setCell (p := ⟨w.heap.size + 1 + 1, 0, none⟩) (by simp; omega) (.int .i64 0)).setCell (p := ⟨w.heap.size + 1 + 1, 1, none⟩) (by simp; omega) (.slice Option.none 0 0)
  generalize ((w1.setCell ⟨w.heap.size + 1 + 1, 0, none⟩ (.int .i64 0)).setCell ⟨w.heap.size + 1 + 1, 1, none⟩ (.slice Option.none 0 0)) = X at *
  obtain ⟨dd0, dd1⟩ := pair_cells e1 rfl
  exact bodyPost_ret (v := .tuple #[posZ, .int .i64 N]) (by simp [results, Tryd.results21, go_sem, dd0, dd1]) rfl ⟨by rw [← HN.out]; rfl, e3⟩
set_option maxRecDepth 100000 in
set_option maxHeartbeats 2000000 in
theorem tell2_ok (k q n av : Int) (v : Value) (L : List Mk) (w : World) (a0 : Int) (M : List Mk) (h : RM w v L) (ho : MOk L) (h1 : av ≤ top) (hq1 : q ≤ top) (hl : L.length ≤ 4611686018427387904) (hk : k = 2) (ho2 : markO av L q n = .ok a0 M) :
    Calls Tryd.prog 21 #[.agg #[.int .i64 av, v], .agg #[.int .i64 k, .int .i64 q, .int .i64 n]] w fun e w' => RAns w w' (.ok a0 M) e ∧ Below w.heap.size w w' := by
  have HC := hide (fun (W : World) (hb : Below w.heap.size w W) => rmark_any av q n v L W (h.later hb) ho h1 hq1 hl)
  rw [ho2] at HC
  obtain ⟨a, cap, rfl, _, _⟩ := h
  have X0 := hide (Bx3.new w av (.slice a L.length cap) k q n)
  obtain ⟨⟨x0, x1⟩, ⟨c0, c1, c2⟩, y0, y1, f0, f1⟩ := X0.out.facts
  have d0 : (k == 0) = false := by rw [beq_eq_false_iff_ne]; omega
  have d1 : (k == 1) = false := by rw [beq_eq_false_iff_ne]; omega
  have d2 : (k == 2) = true := by rw [beq_iff_eq]; exact hk
  clear ho ho2 hk h1 hq1 hl
  go_enter Tryd.func21, Tryd.ntmps21
  go_wp2_with fail
  refine (HC.out _ X0.out.low).mono ?_
  rintro e w1 ⟨hA, hb⟩
  obtain ⟨v', hv', hO⟩ := hA.ok
  subst hv'
  obtain ⟨a4, c4, hv4⟩ := rm_lt (OM.rm hO)
  subst hv4
  have HO := hide (World.ownsRow.mono hO X0.out.low.size)
  clear hA hO
  have X1 := hide (X0.out.later hb)
  clear x0 x1 c0 c1 c2 y0 y1 f0 f1 hb
  obtain ⟨⟨x0, x1⟩, ⟨c0, c1, c2⟩, y0, y1, f0, f1⟩ := X1.out.facts
  go_wp2_with fail
  obtain ⟨e1, e2, e3⟩ := turn_end (a2 := a0) X1.out.res HO.out X1.out.low (by omega)
  generalize ((w1.setCell ⟨w.heap.size + 1 + 1, 0, none⟩ (.int .i64 a0)).setCell ⟨w.heap.size + 1 + 1, 1, none⟩ (.slice a4 M.length c4)) = X at *
  obtain ⟨dd0, dd1⟩ := pair_cells e1 rfl
  exact bodyPost_ret (v := .tuple #[.agg #[.int .i64 a0, .slice a4 M.length c4], .int .i64 0]) (by simp [results, Tryd.results21, go_sem, dd0, dd1]) rfl ⟨⟨_, rfl, e2⟩, e3⟩
set_option maxRecDepth 100000 in
set_option maxHeartbeats 2000000 in
theorem tell3_no (k q n av : Int) (v : Value) (L : List Mk) (w : World) (t : TypeId) (x : Value) (h : RM w v L) (ho : MOk L) (h1 : av ≤ top) (hq1 : q ≤ top) (hl : L.length ≤ 4611686018427387904) (hk : ¬ k = 0 ∧ ¬ k = 1 ∧ ¬ k = 2) (ho2 : unmarkO av L q n = .no t x) :
    Calls Tryd.prog 21 #[.agg #[.int .i64 av, v], .agg #[.int .i64 k, .int .i64 q, .int .i64 n]] w fun e w' => RAns w w' (.no t x) e ∧ Below w.heap.size w w' := by
  have HC := hide (fun (W : World) (hb : Below w.heap.size w W) => runmark_any av q n v L W (h.later hb) ho h1 hq1 hl)
  rw [ho2] at HC
  obtain ⟨a, cap, rfl, _, _⟩ := h
  have X0 := hide (Bx3.new w av (.slice a L.length cap) k q n)
  obtain ⟨⟨x0, x1⟩, ⟨c0, c1, c2⟩, y0, y1, f0, f1⟩ := X0.out.facts
  have d0 : (k == 0) = false := by rw [beq_eq_false_iff_ne]; omega
  have d1 : (k == 1) = false := by rw [beq_eq_false_iff_ne]; omega
  have d2 : (k == 2) = false := by rw [beq_eq_false_iff_ne]; omega
  clear ho ho2 hk h1 hq1 hl
  go_enter Tryd.func21, Tryd.ntmps21
  go_wp2_with fail
  refine (HC.out _ X0.out.low).mono ?_
  rintro e w1 ⟨hA, hb⟩
  replace hA := hA.no
  subst hA
  obtain ⟨N, HN⟩ : ∃ N, Hid (noN (.no t x) = N) := ⟨_, hide rfl⟩
  rw [HN.out]
  have X1 := hide (X0.out.later hb)
  clear x0 x1 c0 c1 c2 y0 y1 f0 f1 hb
  obtain ⟨⟨x0, x1⟩, ⟨c0, c1, c2⟩, y0, y1, f0, f1⟩ := X1.out.facts
  go_wp2_with fail
  have e1 := set2 (a := .int .i64 0) (b := .slice Option.none 0 0) X1.out.res
  have e3 := (X1.out.low.setCell (p := ⟨w.heap.size + 1 + 1, 0, none⟩) (by simp; omega) (.int .i64 0)).setCell (p := ⟨w.heap.size + 1 + 1, 1, none⟩) (by simp; omega) (.slice Option.none 0 0)
  generalize ((w1.setCell ⟨w.heap.size + 1 + 1, 0, none⟩ (.int .i64 0)).setCell ⟨w.heap.size + 1 + 1, 1, none⟩ (.slice Option.none 0 0)) = X at *
  obtain ⟨dd0, dd1⟩ := pair_cells e1 rfl
  exact bodyPost_ret (v := .tuple #[posZ, .int .i64 N]) (by simp [results, Tryd.results21, go_sem, dd0, dd1]) rfl ⟨by rw [← HN.out]; rfl, e3⟩
set_option maxRecDepth 100000 in
set_option maxHeartbeats 2000000 in
theorem tell3_ok (k q n av : Int) (v : Value) (L : List Mk) (w : World) (a0 : Int) (M : List Mk) (h : RM w v L) (ho : MOk L) (h1 : av ≤ top) (hq1 : q ≤ top) (hl : L.length ≤ 4611686018427387904) (hk : ¬ k = 0 ∧ ¬ k = 1 ∧ ¬ k = 2) (ho2 : unmarkO av L q n = .ok a0 M) :
    Calls Tryd.prog 21 #[.agg #[.int .i64 av, v], .agg #[.int .i64 k, .int .i64 q, .int .i64 n]] w fun e w' => RAns w w' (.ok a0 M) e ∧ Below w.heap.size w w' := by
  have HC := hide (fun (W : World) (hb : Below w.heap.size w W) => runmark_any av q n v L W (h.later hb) ho h1 hq1 hl)
  rw [ho2] at HC
  obtain ⟨a, cap, rfl, _, _⟩ := h
  have X0 := hide (Bx3.new w av (.slice a L.length cap) k q n)
  obtain ⟨⟨x0, x1⟩, ⟨c0, c1, c2⟩, y0, y1, f0, f1⟩ := X0.out.facts
  have d0 : (k == 0) = false := by rw [beq_eq_false_iff_ne]; omega
  have d1 : (k == 1) = false := by rw [beq_eq_false_iff_ne]; omega
  have d2 : (k == 2) = false := by rw [beq_eq_false_iff_ne]; omega
  clear ho ho2 hk h1 hq1 hl
  go_enter Tryd.func21, Tryd.ntmps21
  go_wp2_with fail
  refine (HC.out _ X0.out.low).mono ?_
  rintro e w1 ⟨hA, hb⟩
  obtain ⟨v', hv', hO⟩ := hA.ok
  subst hv'
  obtain ⟨a4, c4, hv4⟩ := rm_lt (OM.rm hO)
  subst hv4
  have HO := hide (World.ownsRow.mono hO X0.out.low.size)
  clear hA hO
  have X1 := hide (X0.out.later hb)
  clear x0 x1 c0 c1 c2 y0 y1 f0 f1 hb
  obtain ⟨⟨x0, x1⟩, ⟨c0, c1, c2⟩, y0, y1, f0, f1⟩ := X1.out.facts
  go_wp2_with fail
  obtain ⟨e1, e2, e3⟩ := turn_end (a2 := a0) X1.out.res HO.out X1.out.low (by omega)
  generalize ((w1.setCell ⟨w.heap.size + 1 + 1, 0, none⟩ (.int .i64 a0)).setCell ⟨w.heap.size + 1 + 1, 1, none⟩ (.slice a4 M.length c4)) = X at *
  obtain ⟨dd0, dd1⟩ := pair_cells e1 rfl
  exact bodyPost_ret (v := .tuple #[.agg #[.int .i64 a0, .slice a4 M.length c4], .int .i64 0]) (by simp [results, Tryd.results21, go_sem, dd0, dd1]) rfl ⟨⟨_, rfl, e2⟩, e3⟩
theorem tell_any (k q n av : Int) (v : Value) (L : List Mk) (w : World) (h : RM w v L) (ho : MOk L) (h1 : av ≤ top) (hq1 : q ≤ top) (hl : L.length ≤ 4611686018427387904) :
    Calls Tryd.prog 21 #[.agg #[.int .i64 av, v], .agg #[.int .i64 k, .int .i64 q, .int .i64 n]] w fun e w' => RAns w w' (askO k q n av L) e ∧ Below w.heap.size w w' := by
  unfold askO
  by_cases k0 : k = 0
  · rw [if_pos k0]
    cases hO : creditO av L q with
    | no t x => exact tell0_no k q n av v L w t x h ho h1 hq1 hl k0 hO
    | ok a M => exact tell0_ok k q n av v L w a M h ho h1 hq1 hl k0 hO
  rw [if_neg k0]
  by_cases k1 : k = 1
  · rw [if_pos k1]
    cases hO : debitO av L q n with
    | no t x => exact tell1_no k q n av v L w t x h ho h1 hq1 hl k1 hO
    | ok a M => exact tell1_ok k q n av v L w a M h ho h1 hq1 hl k1 hO
  rw [if_neg k1]
  by_cases k2 : k = 2
  · rw [if_pos k2]
    cases hO : markO av L q n with
    | no t x => exact tell2_no k q n av v L w t x h ho h1 hq1 hl k2 hO
    | ok a M => exact tell2_ok k q n av v L w a M h ho h1 hq1 hl k2 hO
  rw [if_neg k2]
  cases hO : unmarkO av L q n with
  | no t x => exact tell3_no k q n av v L w t x h ho h1 hq1 hl ⟨k0, k1, k2⟩ hO
  | ok a M => exact tell3_ok k q n av v L w a M h ho h1 hq1 hl ⟨k0, k1, k2⟩ hO

end Go.Proofs.YtmebomifakmkbaaDoor
