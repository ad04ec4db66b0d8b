/-
  My own text: orders in memory, by the program: Take.
-/
import Derived.Test.YtmojckejjjlkjabY4
namespace Go.Proofs.Ytmojckejjjlkjab
open Go.RowKit

/-- What is taken, its money, and the order behind it. -/
def Od.q (o : Od) (h c : Int) : Int := tkQ o.Q o.A o.L o.K o.D h c
def Od.m (o : Od) (h c : Int) : Int := mon o.Q o.A o.D (o.q h c)
def Od.tk (o : Od) (h c : Int) : Od := if o.q h c = 0 then o else { o with D := o.D + o.q h c, P := o.P ++ [(o.q h c, o.m h c)] }
theorem Od.q_bnd {o : Od} (ok : o.Ok) (h c : Int) : 0 ≤ o.q h c ∧ o.q h c ≤ o.Q - o.D := by
  unfold Od.q tkQ
  split
  · have := ok.DQ; omega
  · rename_i hh
    have pb := pay_bnd ok.Q0 ok.A0 ok.D0 ok.DQ (show 0 ≤ c by omega)
    have := gr_bnd (left := o.Q - o.D) (lot := o.L) (least := o.K) (h := min h (pay o.Q o.A o.D c)) (by have := ok.DQ; omega) (by omega) ok.L0
    exact ⟨this.1, this.2.1⟩
theorem Od.tk_ok {o : Od} (ok : o.Ok) (h c : Int) : (o.tk h c).Ok := by
  have b := Od.q_bnd ok h c
  unfold Od.tk
  split
  · exact ok
  · exact ⟨ok.Q0, ok.Q1, ok.A0, ok.A1, ok.L0, ok.L1, ok.K0, ok.K1, by have := ok.D0; show 0 ≤ o.D + o.q h c; omega, by show o.D + o.q h c ≤ o.Q; omega⟩
theorem Od.m_zero {o : Od} {h c : Int} (e : o.q h c = 0) : o.m h c = 0 := by unfold Od.m; rw [e, mon_zero]
theorem Od.tk_zero {o : Od} {h c : Int} (e : o.q h c = 0) : o.tk h c = o := by unfold Od.tk; rw [if_pos e]
theorem Od.tk_pos {o : Od} {h c : Int} (e : ¬ o.q h c = 0) : o.tk h c = { o with D := o.D + o.q h c, P := o.P ++ [(o.q h c, o.m h c)] } := by unfold Od.tk; rw [if_neg e]
/-- What a call on an order may change. -/
def OF (g : Nat) (pv : Value) : Nat → Prop := fun x => x = g ∨ pv.ownBlock = some x
set_option maxRecDepth 100000 in
set_option maxHeartbeats 1000000 in
theorem take_any (g : Nat) (o : Od) (pv : Value) (h c : Int) (w : World) (H : OB w g o pv) (ok : o.Ok) (h1 : h ≤ 9223372036854775807) (hl : o.P.length + 1 ≤ 8796093022208) :
    Calls Try.prog 9 #[.pointer (some ⟨g, 0, none⟩), .int .i64 h, .int .i64 c] w fun e w' => e = .returned (.tuple #[.int .i64 (o.q h c), .int .i64 (o.m h c)]) ∧ ∃ pv', OB w' g (o.tk h c) pv' ∧ FS (OF g pv) w w' ∧ ∀ x, pv'.ownBlock = some x → pv.ownBlock = some x ∨ w.heap.size ≤ x := by
  by_cases b0 : h < 1
  · have e : o.q h c = 0 := by unfold Od.q tkQ; rw [if_pos (.inl b0)]
    rw [Od.m_zero e, e, Od.tk_zero e]
    have d1 : decide (h < 1) = true := decide_eq_true b0
    go_enter Try.func9, Try.ntmps9
    go_wp2_with fail
    go_ret2
    exact ⟨rfl, pv, H, FS.below (Below.refl _ _), fun x hx => .inl hx⟩
  have d1 : decide (h < 1) = false := decide_eq_false b0
  by_cases b1 : c < 0
  · have e : o.q h c = 0 := by unfold Od.q tkQ; rw [if_pos (.inr b1)]
    rw [Od.m_zero e, e, Od.tk_zero e]
    have d2 : decide (c < 0) = true := decide_eq_true b1
    go_enter Try.func9, Try.ntmps9
    go_wp2_with fail
    go_ret2
    exact ⟨rfl, pv, H, FS.below (Below.refl _ _), fun x hx => .inl hx⟩
  have d2 : decide (c < 0) = false := decide_eq_false b1
  have pb := pay_bnd ok.Q0 ok.A0 ok.D0 ok.DQ (show 0 ≤ c by omega)
  have HL := hide (left_any g o pv w H ok)
  have HP := hide (fun w' (hb : Below w.heap.size w w') => payable_any g o pv c w' (H.later hb) ok (by omega))
  have HG := hide (fun w' => greatest_any o.lq o.L o.K (min h (pay o.Q o.A o.D c)) w' (by omega) (by omega) ok.L0 ok.L1)
  have e : gr o.lq o.L o.K (min h (pay o.Q o.A o.D c)) = o.q h c := by unfold Od.q tkQ Od.lq; rw [if_neg (by omega)]
  rw [e] at HG
  have HH := hide H
  obtain ⟨q, hq⟩ : ∃ q, o.q h c = q := ⟨_, rfl⟩
  obtain ⟨m, hm⟩ : ∃ m, o.m h c = m := ⟨_, rfl⟩
  obtain ⟨P, hP⟩ : ∃ P, pay o.Q o.A o.D c = P := ⟨_, rfl⟩
  obtain ⟨n, hn⟩ : ∃ n, min h P = n := ⟨_, rfl⟩
  rw [hP] at HP
  rw [hq, hP, hn] at HG
  have HQ := hide (And.intro hq hm)
  have hok := hide ok
  rw [hq, hm]
  clear H pb e hP hq hm ok
  go_enter Try.func9, Try.ntmps9
  go_wp2_with fail
  refine HL.out.mono ?_
  rintro e w1 ⟨rfl, hb1⟩
  have HB1 := hide hb1
  have h1 := HH.out.later hb1
  have g2 : ∀ x : Gr w1, x.1.cell? ⟨g, 2, none⟩ = some (.int .i64 o.L) := fun x => (six_cells (h1.later x.2).box rfl).2.2.1
  have g3 : ∀ x : Gr w1, x.1.cell? ⟨g, 3, none⟩ = some (.int .i64 o.K) := fun x => (six_cells (h1.later x.2).box rfl).2.2.2.1
  clear HL hb1 h1
  go_wp2_with fail
  have HG0 := hide ((Below.refl w1.heap.size w1).drew)
  haveI : Nonempty (Gr w1) := ⟨⟨_, HG0.out⟩⟩
  refine region_class (C := fun w' => ∃ x : Gr w1, w' = x.1) (by kernel_rfl) (by kernel_rfl) ⟨⟨_, HG0.out⟩, rfl⟩ ?_
  repeat (first
    | go_big_quiet_skip
    | (go_big_quiet_want; (go_big_quiet_op; first
        | go_big_quiet_on
        | (apply Exists.intro; refine ⟨fun x => ?_, ?_⟩; (first
            | (go_at_call 17; exact x.call (HP.out x.1 (HB1.out.trans (x.2.mono HB1.out.size))))
            | (go_at_call 16; exact x.call (HG.out x.1))
            ); go_big_quiet_on))))
  refine wpQuiet_nil ?_
  rintro w2 ⟨x, rfl⟩
  obtain ⟨w2, hx2⟩ := x
  dsimp only
  clear HG0 this
  have HB2 := hide (HB1.out.trans (hx2.mono HB1.out.size))
  clear g2 g3 hx2 HB1 HP HG
  by_cases q0 : q = 0
  · have d3 : (q == 0) = true := by rw [q0]; rfl
    obtain ⟨e1, e2⟩ := HQ.out
    have e3 : o.q h c = 0 := e1.trans q0
    have e4 : m = 0 := by rw [← e2]; exact Od.m_zero e3
    have E3 := hide e3
    have E4 := hide e4
    clear e1 e2 e3 e4 HQ hn
    subst q0
    go_wp2_with fail
    go_ret2
    exact ⟨by rw [E4.out]; rfl, pv, by rw [Od.tk_zero E3.out]; exact HH.out.later HB2.out, FS.below HB2.out, fun x hx => .inl hx⟩
  have d3 : (q == 0) = false := by simpa using q0
  have h2 := HH.out.later HB2.out
  have g0 : ∀ x : Gr w2, x.1.cell? ⟨g, 0, none⟩ = some (.int .i64 o.Q) := fun x => (six_cells (h2.later x.2).box rfl).1
  have g1 : ∀ x : Gr w2, x.1.cell? ⟨g, 1, none⟩ = some (.int .i64 o.A) := fun x => (six_cells (h2.later x.2).box rfl).2.1
  have g4 : ∀ x : Gr w2, x.1.cell? ⟨g, 4, none⟩ = some (.int .i64 o.D) := fun x => (six_cells (h2.later x.2).box rfl).2.2.2.2.1
  have qb := Od.q_bnd hok.out h c
  rw [HQ.out.1] at qb
  obtain ⟨D2, hD2⟩ : ∃ D2, o.D + q = D2 := ⟨_, rfl⟩
  have wD : wrap64 (o.D + q) = D2 := by have := hok.out.D0; have := hok.out.Q1; rw [← hD2]; unfold wrap64; omega
  have HBT := hide (fun w' => between_any o.Q o.A o.D D2 w' hok.out.A0 hok.out.A1 hok.out.Q0 hok.out.Q1 hok.out.D0 (by omega) (by omega))
  rw [show D2 - o.D = q by omega, show mon o.Q o.A o.D q = m by rw [← HQ.out.2, ← HQ.out.1]; rfl] at HBT
  have HD2 := hide hD2
  clear hD2 qb h2 hn
  go_wp2_with fail
  have HG0 := hide ((Below.refl w2.heap.size w2).drew)
  haveI : Nonempty (Gr w2) := ⟨⟨_, HG0.out⟩⟩
  refine region_class (C := fun w' => ∃ x : Gr w2, w' = x.1) (by kernel_rfl) (by kernel_rfl) ⟨⟨_, HG0.out⟩, rfl⟩ ?_
  repeat (first
    | go_big_quiet_skip
    | (go_big_quiet_want; (go_big_quiet_op; first
        | go_big_quiet_on
        | (apply Exists.intro; refine ⟨fun x => ?_, ?_⟩; (first
            | (go_at_call 15; exact x.call (HBT.out x.1))
            ); go_big_quiet_on))))
  refine wpQuiet_nil ?_
  rintro w3 ⟨x, rfl⟩
  obtain ⟨w3, hx3⟩ := x
  dsimp only
  clear HG0 this
  have HB3 := hide (HB2.out.trans (hx3.mono HB2.out.size))
  clear g0 g1 g4 hx3 HB2 HBT
  have h3 := HH.out.later HB3.out
  obtain ⟨f0, f1, f2, f3, f4, f5⟩ := six_cells h3.box rfl
  have z4 := nofz h3.box 4
  have h4 := h3.setD D2
  obtain ⟨a0, cp, hpv⟩ := TL.OM.slice h3.row
  have HH3 := hide h3
  have HH4 := hide h4
  have HR4 := hide (World.ownsRow.alloc h4.row (.cells #[.int .i64 q, .int .i64 m] 40))
  have hN := pair_cells (alloc_new (w3.setCell ⟨g, 4, none⟩ (.int .i64 D2)) (.cells #[.int .i64 q, .int .i64 m] 40)) rfl
  have hS : (w3.setCell ⟨g, 4, none⟩ (.int .i64 D2)).heap.size = w3.heap.size := by simp
  rw [hS] at hN
  have HN := hide hN
  have HPV := hide hpv
  have hln : g < (w3.setCell ⟨g, 4, none⟩ (.int .i64 D2)).heap.size := by have := h3.lt; omega
  have HB4 := hide (And.intro hln hS)
  clear h3 h4 f0 f1 f2 f3 hN hS hln
  subst hpv
  go_wp2_with (at_builtin; refine TL.wp_append_kept rfl _ _ rfl 0 _ o.P (q, m) _ rfl rfl HR4.out HN.out.1 HN.out.2 (Nat.zero_le _) hl ?_)
  rintro v' w5 ho hg hk
  have hb5 : w5.heap[g]? = some (.cells #[.int .i64 o.Q, .int .i64 o.A, .int .i64 o.L, .int .i64 o.K, .int .i64 D2, .slice a0 o.P.length cp] 46 (0, 0)) :=
    (hg.grown.block g (Nat.lt_of_lt_of_le HB4.out.1 (by simp)) (fun e => HH4.out.ne e.symm rfl)).trans (alloc_block HH4.out.box)
  have z5 := nofz hb5 5
  obtain ⟨a5, c5, hv5⟩ := TL.OM.slice ho
  rw [show (o.P ++ [(q, m)]).length = o.P.length + 1 by simp] at hv5
  have y5 := (six_cells hb5 rfl).2.2.2.2.2
  have hne5 : ∀ x, v'.ownBlock = some x → x ≠ g := fun x hx e => by
    rcases hg.lies x hx with q5 | q5
    · exact HH4.out.ne q5 e
    · have := HB4.out.1
      have h6 : (w3.setCell ⟨g, 4, none⟩ (.int .i64 D2)).heap.size ≤ ((w3.setCell ⟨g, 4, none⟩ (.int .i64 D2)).alloc (.cells #[.int .i64 q, .int .i64 m] 40)).heap.size := by simp
      omega
  have h5 := OB.setP (o := { o with D := D2 }) hb5 ho hne5 (by simp)
  have f5 : FS (OF g (.slice a0 o.P.length cp)) w3 (w5.setCell ⟨g, 5, none⟩ v') :=
    (FS.set (u := .int .i64 D2) (.inl rfl)).trans ((FS.below ((Below.refl _ _).alloc (Nat.le_refl _) _)).trans ((FS.of_gb hg.grown (fun x hx => .inr hx)).trans (FS.set (.inl rfl))))
  have H5 := hide h5
  have F5 := hide ((FS.below HB3.out).trans f5)
  have L5 : Hid (∀ x, v'.ownBlock = some x → (Value.slice a0 o.P.length cp).ownBlock = some x ∨ w.heap.size ≤ x) := hide (fun x hx => (hg.lies x hx).imp id (fun q5 => by
    have h6 : (w3.setCell ⟨g, 4, none⟩ (.int .i64 D2)).heap.size ≤ ((w3.setCell ⟨g, 4, none⟩ (.int .i64 D2)).alloc (.cells #[.int .i64 q, .int .i64 m] 40)).heap.size := by simp
    have := HB4.out.2; have := HB3.out.size; omega))
  have E5 : Hid (o.tk h c = { o with D := D2, P := o.P ++ [(q, m)] }) := hide (by rw [Od.tk_pos (by rw [HQ.out.1]; exact q0), HQ.out.1, HQ.out.2, HD2.out])
  clear h5 f5 hne5 hg hk ho HR4 HN HB4 HH3 HH4 HH HB3 hb5
  subst hv5
  go_wp2_with fail
  go_ret2
  exact ⟨rfl, _, by rw [E5.out]; exact H5.out, F5.out, L5.out⟩
end Go.Proofs.Ytmojckejjjlkjab
