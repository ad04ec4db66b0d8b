/-
  My own text: orders in memory, by the document: Take.
-/
import Derived.Test.YtmojckejjjlkjaaDoorY7
namespace Go.Proofs.YtmojckejjjlkjaaDoor
open Go.RowKit

theorem RB6.setD {w : World} {g : Nat} {o : Od} {pv : Value} (h : RB6 w g o pv) (D P : Int) (hP : P = sh o.A D o.Q) : RB6 ((w.setCell ⟨g, 4, none⟩ (.int .i64 D)).setCell ⟨g, 5, none⟩ (.int .i64 P)) g { o with D := D } pv := by
  subst hP
  exact ⟨setB (setB h.box 4 _ rfl) 5 _ rfl, owns_blk h.row (fun x hx => by rw [Below.heap_setCell _ _ _ _ (by simpa using h.ne hx), Below.heap_setCell _ _ _ _ (by simpa using h.ne hx)])⟩
theorem RB6.setP {w : World} {g : Nat} {o : Od} {pv v : Value} {P : List (Int × Int)} (hb : w.heap[g]? = some (.cells #[.int .i64 o.Q, .int .i64 o.A, .int .i64 o.L, .int .i64 o.K, .int .i64 o.D, .int .i64 (sh o.A o.D o.Q), pv] 75 (0, 0))) (hr : TL.OM w 0 v P) (hn : ∀ x, v.ownBlock = some x → x ≠ g) : RB6 (w.setCell ⟨g, 6, none⟩ v) g { o with P := P } v :=
  ⟨setB hb 6 _ rfl, owns_blk hr (fun x hx => Below.heap_setCell _ _ _ _ (by simpa using hn x hx))⟩
set_option maxRecDepth 100000 in
set_option maxHeartbeats 1000000 in
theorem rtake_any (g : Nat) (o : Od) (pv : Value) (h c : Int) (w : World) (H : RB6 w g o pv) (ok : o.Ok) (h1 : h ≤ 9223372036854775807) (hl : o.P.length + 1 ≤ 8796093022208) :
    Calls Tryd.prog 19 #[.pointer (some ⟨g, 0, none⟩), .int .i64 h, .int .i64 c] w fun e w' => e = .returned (.tuple #[.int .i64 (o.q h c), .int .i64 (o.m h c)]) ∧ ∃ pv', RB6 w' g (o.tk h c) pv' ∧ FS (OF g pv) w w' ∧ ∀ x, pv'.ownBlock = some x → pv.ownBlock = some x ∨ w.heap.size ≤ x := by
  have HBE := hide (best_any g o pv h c w H ok h1)
  have qb := Od.q_bnd ok h c
  have HM := hide (fun w' (hb : Below w.heap.size w w') => rmon_any g o pv (o.q h c) w' (H.later hb) ok qb.1 qb.2)
  rw [show mon o.Q o.A o.D (o.q h c) = o.m h c from rfl] at HM
  obtain ⟨q, hq⟩ : ∃ q, o.q h c = q := ⟨_, rfl⟩
  obtain ⟨m, hm⟩ : ∃ m, o.m h c = m := ⟨_, rfl⟩
  have HQ := hide (And.intro hq hm)
  have HH := hide H
  have HK := hide ok
  rw [hq] at qb HBE HM
  rw [hm] at HM
  rw [hq, hm]
  clear H ok hq hm
  go_enter Tryd.func19, Tryd.ntmps19
  go_wp2_with fail
  refine HBE.out.mono ?_
  rintro e w1 ⟨rfl, hb1⟩
  have HB1 := hide hb1
  clear HBE hb1
  by_cases q0 : q < 1
  · have d1 : decide (q < 1) = true := decide_eq_true q0
    obtain ⟨e1, e2⟩ := HQ.out
    have e3 : o.q h c = 0 := by omega
    have E := hide (And.intro e3 (show q = 0 ∧ m = 0 by rw [← e2]; exact ⟨by omega, Od.m_zero e3⟩))
    clear e1 e2 e3 HQ qb
    go_wp2_with fail
    go_ret2
    exact ⟨by rw [E.out.2.1, E.out.2.2]; rfl, pv, by rw [Od.tk_zero E.out.1]; exact HH.out.later HB1.out, FS.below HB1.out, fun x hx => .inl hx⟩
  have d1 : decide (q < 1) = false := decide_eq_false q0
  go_wp2_with fail
  refine (HM.out _ HB1.out).mono ?_
  rintro e w3 ⟨rfl, hb2⟩
  have HB3 := hide (HB1.out.trans (hb2.mono HB1.out.size))
  have h3 := HH.out.later HB3.out
  obtain ⟨D2, hD2⟩ : ∃ D2, o.D + q = D2 := ⟨_, rfl⟩
  have wD : wrap64 (o.D + q) = D2 := by have := HK.out.D0; have := HK.out.Q1; rw [← hD2]; unfold wrap64; omega
  obtain ⟨S, hS⟩ : ∃ S, sh o.A o.D o.Q = S := ⟨_, rfl⟩
  obtain ⟨S2, hS2⟩ : ∃ S2, sh o.A D2 o.Q = S2 := ⟨_, rfl⟩
  have hm2 : S + m = S2 := by rw [← HQ.out.2, ← hS, ← hS2, ← hD2]; unfold Od.m mon; rw [HQ.out.1]; omega
  have wS : wrap64 (S + m) = S2 := by
    have := sh_bnd (a := o.A) (n := D2) (q := o.Q) HK.out.A0 (by have := HK.out.D0; omega) (by omega) HK.out.Q0
    have := HK.out.A1
    rw [hm2, ← hS2]; unfold wrap64; omega
  obtain ⟨f0, f1, f2, f3, f4, f5, f6⟩ := seven_cells h3.box rfl
  rw [hS] at f5
  have z4 := nofz h3.box 4
  have z5 := nofz h3.box 5
  have b4 := setB h3.box 4 (.int .i64 D2) rfl
  have y5 := (seven_cells b4 rfl).2.2.2.2.2.1
  rw [hS] at y5
  have z55 := nofz b4 5
  have h5 := h3.setD D2 S2 hS2.symm
  obtain ⟨a0, cp, hpv⟩ := TL.OM.slice h3.row
  have y6 := (seven_cells h5.box rfl).2.2.2.2.2.2
  have HH3 := hide h3
  have HH4 := hide h5
  have HD2 := hide hD2
  have HR4 := hide (World.ownsRow.alloc h5.row (.cells #[.int .i64 q, .int .i64 m] 62))
  have hN := pair_cells (alloc_new ((w3.setCell ⟨g, 4, none⟩ (.int .i64 D2)).setCell ⟨g, 5, none⟩ (.int .i64 S2)) (.cells #[.int .i64 q, .int .i64 m] 62)) rfl
  have hS5 : ((w3.setCell ⟨g, 4, none⟩ (.int .i64 D2)).setCell ⟨g, 5, none⟩ (.int .i64 S2)).heap.size = w3.heap.size := by simp
  rw [hS5] at hN
  have HN := hide hN
  have hln : g < ((w3.setCell ⟨g, 4, none⟩ (.int .i64 D2)).setCell ⟨g, 5, none⟩ (.int .i64 S2)).heap.size := by have := h3.lt; omega
  have HB4 := hide (And.intro hln hS5)
  clear h3 h5 f0 f1 f2 f3 hN hS5 hln b4 hS hS2 hm2 hD2 qb HM hb2 HB1
  subst hpv
  go_wp2_with (at_builtin; refine TL.wp_append_kept rfl _ _ rfl 0 _ o.P (q, m) _ rfl rfl HR4.out HN.out.1 HN.out.2 (Nat.zero_le _) hl ?_)
  rintro v' w5 ho hg hk
  have hb5 : w5.heap[g]? = some (.cells #[.int .i64 o.Q, .int .i64 o.A, .int .i64 o.L, .int .i64 o.K, .int .i64 D2, .int .i64 (sh o.A D2 o.Q), .slice a0 o.P.length cp] 75 (0, 0)) :=
    (hg.grown.block g (Nat.lt_of_lt_of_le HB4.out.1 (by simp)) (fun e => HH4.out.ne e.symm rfl)).trans (alloc_block HH4.out.box)
  have x6 := nofz hb5 6
  obtain ⟨a5, c5, hv5⟩ := TL.OM.slice ho
  rw [show (o.P ++ [(q, m)]).length = o.P.length + 1 by simp] at hv5
  have u6 := (seven_cells hb5 rfl).2.2.2.2.2.2
  have h6 : ((w3.setCell ⟨g, 4, none⟩ (.int .i64 D2)).setCell ⟨g, 5, none⟩ (.int .i64 S2)).heap.size ≤ (((w3.setCell ⟨g, 4, none⟩ (.int .i64 D2)).setCell ⟨g, 5, none⟩ (.int .i64 S2)).alloc (.cells #[.int .i64 q, .int .i64 m] 62)).heap.size := by simp
  have hne5 : ∀ x, v'.ownBlock = some x → x ≠ g := fun x hx e => by
    rcases hg.lies x hx with q5 | q5
    · exact HH4.out.ne q5 e
    · have := HB4.out.1
      omega
  have h5 := RB6.setP (o := { o with D := D2 }) hb5 ho hne5
  have f5 : FS (OF g (.slice a0 o.P.length cp)) w3 (w5.setCell ⟨g, 6, none⟩ v') :=
    (FS.set (u := .int .i64 D2) (.inl rfl)).trans ((FS.set (u := .int .i64 S2) (.inl rfl)).trans ((FS.below ((Below.refl _ _).alloc (Nat.le_refl _) _)).trans ((FS.of_gb hg.grown (fun x hx => .inr hx)).trans (FS.set (.inl rfl)))))
  have H5 := hide h5
  have F5 := hide ((FS.below HB3.out).trans f5)
  have L5 : Hid (∀ x, v'.ownBlock = some x → (Value.slice a0 o.P.length cp).ownBlock = some x ∨ w.heap.size ≤ x) := hide (fun x hx => (hg.lies x hx).imp id (fun q5 => by
    have := HB4.out.2; have := HB3.out.size; omega))
  have E5 : Hid (o.tk h c = { o with D := D2, P := o.P ++ [(q, m)] }) := hide (by rw [Od.tk_pos (by rw [HQ.out.1]; omega), HQ.out.1, HQ.out.2, HD2.out])
  clear h5 f5 hne5 hg hk ho HR4 HN HB4 HH3 HH4 HH HB3 hb5 h6
  subst hv5
  go_wp2_with fail
  go_ret2
  exact ⟨rfl, _, by rw [E5.out]; exact H5.out, F5.out, L5.out⟩
end Go.Proofs.YtmojckejjjlkjaaDoor
