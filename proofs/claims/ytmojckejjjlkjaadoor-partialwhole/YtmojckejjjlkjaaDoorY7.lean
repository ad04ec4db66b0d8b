/-
  My own text: orders in memory, by the document: New, money, best.
-/
import Derived.Test.YtmojckejjjlkjaaDoorY3
import Derived.Test.YtmojckejjjlkjaaDoorY6
namespace Go.Proofs.YtmojckejjjlkjaaDoor
open Go.RowKit

/-- The greatest number of lots whose money is not above cash; -1: there is none. -/
def rR (Q A L D most c : Int) : Int := if c < 0 then -1 else min most (pay Q A D c) / L
theorem rR_iff {Q A L D most c k : Int} (Q0 : 0 < Q) (A0 : 0 ≤ A) (D0 : 0 ≤ D) (dq : D ≤ Q) (L0 : 0 < L) (hm : most ≤ Q - D) (k0 : 0 ≤ k) (hk : k * L ≤ most) : mon Q A D (k * L) ≤ c ↔ k ≤ rR Q A L D most c := by
  have hkL : 0 ≤ k * L := Int.mul_nonneg k0 (by omega)
  unfold rR
  split
  · have := mon_mono (D := D) Q0 A0 hkL
    rw [mon_zero] at this
    omega
  · rw [pay_iff Q0 A0 D0 (by omega) (by omega) dq, Int.le_ediv_iff_mul_le L0]
    omega
theorem rR_le {Q A L D most c : Int} (L0 : 0 < L) (m0 : 0 ≤ most) : rR Q A L D most c ≤ most / L := by
  unfold rR
  split
  · have := Int.ediv_nonneg m0 (show 0 ≤ L by omega); omega
  · exact Int.ediv_le_ediv L0 (by omega)
/-- What is settled, told by the number of lots. -/
theorem tkQ_lots {Q A L K D h c : Int} (Q0 : 0 < Q) (A0 : 0 ≤ A) (D0 : 0 ≤ D) (dq : D ≤ Q) (L0 : 0 < L) (h1 : ¬ h < 1) (hn : ¬ (Q - D ≤ h ∧ mon Q A D (Q - D) ≤ c)) (hl : ¬ Q - D = 0) :
    (rR Q A L D (min (Q - D - 1) h) c < 0 → tkQ Q A L K D h c = 0) ∧ (¬ rR Q A L D (min (Q - D - 1) h) c < 0 → tkQ Q A L K D h c = if rR Q A L D (min (Q - D - 1) h) c * L < K then 0 else rR Q A L D (min (Q - D - 1) h) c * L) := by
  by_cases hc : c < 0
  · unfold rR tkQ
    rw [if_pos hc, if_pos (.inr hc)]
    exact ⟨fun _ => rfl, fun q => absurd (by decide) q⟩
  · have hp := pay_bnd Q0 A0 D0 dq (show 0 ≤ c by omega)
    have e : min (min (Q - D - 1) h) (pay Q A D c) = min h (pay Q A D c) := by
      have : ¬ (Q - D ≤ h ∧ Q - D ≤ pay Q A D c) := fun q => hn ⟨q.1, (pay_iff Q0 A0 D0 (Int.le_refl _) (by omega) dq).2 q.2⟩
      omega
    have hlt : ¬ Q - D ≤ min h (pay Q A D c) := by
      intro q
      exact hn ⟨by omega, (pay_iff Q0 A0 D0 (Int.le_refl _) (by omega) dq).2 (by omega)⟩
    unfold rR tkQ gr
    rw [if_neg hc, if_neg (by omega), e, if_neg hlt]
    generalize min h (pay Q A D c) = m at *
    have em := Int.emod_add_mul_ediv m L
    have e2 : m / L * L = m - m % L := by rw [Int.mul_comm]; omega
    rw [e2]
    exact ⟨fun q => absurd (Int.ediv_nonneg (a := m) (b := L) (by omega) (by omega)) (by omega), fun _ => rfl⟩
/-- An order of the document's in memory. -/
structure RB6 (w : World) (g : Nat) (o : Od) (pv : Value) : Prop where
  box : w.heap[g]? = some (.cells #[.int .i64 o.Q, .int .i64 o.A, .int .i64 o.L, .int .i64 o.K, .int .i64 o.D, .int .i64 (sh o.A o.D o.Q), pv] 75 (0, 0))
  row : TL.OM w 0 pv o.P
theorem seven_cells {w : World} {o : Obj} {a b c d e f h : Value} {t : TypeId} {g : Nat} (h1 : w.heap[g]? = some o) (ho : o = .cells #[a, b, c, d, e, f, h] t (0, 0)) : w.cell? ⟨g, 0, none⟩ = some a ∧ w.cell? ⟨g, 1, none⟩ = some b ∧ w.cell? ⟨g, 2, none⟩ = some c ∧ w.cell? ⟨g, 3, none⟩ = some d ∧ w.cell? ⟨g, 4, none⟩ = some e ∧ w.cell? ⟨g, 5, none⟩ = some f ∧ w.cell? ⟨g, 6, none⟩ = some h := by
  subst ho
  exact ⟨by rw [cell_of_row _ _ 0 _ _ _ h1]; rfl, by rw [cell_of_row _ _ 1 _ _ _ h1]; rfl, by rw [cell_of_row _ _ 2 _ _ _ h1]; rfl, by rw [cell_of_row _ _ 3 _ _ _ h1]; rfl, by rw [cell_of_row _ _ 4 _ _ _ h1]; rfl, by rw [cell_of_row _ _ 5 _ _ _ h1]; rfl, by rw [cell_of_row _ _ 6 _ _ _ h1]; rfl⟩
theorem RB6.later {w w' : World} {g : Nat} {o : Od} {pv : Value} (h : RB6 w g o pv) (hb : Below w.heap.size w w') : RB6 w' g o pv :=
  ⟨(hb.block g (Array.getElem?_eq_some_iff.1 h.box).1).trans h.box, h.row.later hb⟩
theorem RB6.ne {w : World} {g : Nat} {o : Od} {pv : Value} (h : RB6 w g o pv) {x : Nat} (hx : pv.ownBlock = some x) : x ≠ g := by
  intro e
  subst e
  obtain ⟨c, fz, hk⟩ := ownsRow_kind h.row x hx
  rw [h.box] at hk
  cases hk
theorem RB6.lt {w : World} {g : Nat} {o : Od} {pv : Value} (h : RB6 w g o pv) : g < w.heap.size := (Array.getElem?_eq_some_iff.1 h.box).1
set_option maxHeartbeats 1000000 in
theorem rnew_bad (Q A L K : Int) (w : World) (b : badO Q A L K) :
    Calls Tryd.prog 16 #[.int .i64 Q, .int .i64 A, .int .i64 L, .int .i64 K] w fun e w' => e = .returned (.tuple #[.pointer none, .int .i64 1]) ∧ Below w.heap.size w w' := by
  unfold badO at b
  by_cases b1 : Q < 1
  · have d1 : decide (Q < 1) = true := decide_eq_true b1
    clear b
    go_enter Tryd.func16, Tryd.ntmps16
    go_wp2_with fail
    go_ret2
    exact ⟨rfl, Below.refl _ _⟩
  have d1 : decide (Q < 1) = false := decide_eq_false b1
  by_cases b2 : L < 1
  · have d2 : decide (L < 1) = true := decide_eq_true b2
    clear b
    go_enter Tryd.func16, Tryd.ntmps16
    go_wp2_with fail
    go_ret2
    exact ⟨rfl, Below.refl _ _⟩
  have d2 : decide (L < 1) = false := decide_eq_false b2
  by_cases b3 : A < 0
  · have d3 : decide (A < 0) = true := decide_eq_true b3
    clear b
    go_enter Tryd.func16, Tryd.ntmps16
    go_wp2_with fail
    go_ret2
    exact ⟨rfl, Below.refl _ _⟩
  have d3 : decide (A < 0) = false := decide_eq_false b3
  have d4 : decide (K < 0) = true := decide_eq_true (by omega)
  clear b
  go_enter Tryd.func16, Tryd.ntmps16
  go_wp2_with fail
  go_ret2
  exact ⟨rfl, Below.refl _ _⟩
set_option maxHeartbeats 1000000 in
theorem rnew_ok (Q A L K : Int) (w : World) (b : ¬ badO Q A L K) :
    Calls Tryd.prog 16 #[.int .i64 Q, .int .i64 A, .int .i64 L, .int .i64 K] w fun e w' => ∃ g, e = .returned (.tuple #[.pointer (some ⟨g, 0, none⟩), .int .i64 0]) ∧ w.heap.size ≤ g ∧ RB6 w' g ⟨Q, A, L, K, 0, []⟩ (.slice none 0 0) ∧ Below w.heap.size w w' := by
  unfold badO at b
  have d1 : decide (Q < 1) = false := decide_eq_false (by omega)
  have d2 : decide (L < 1) = false := decide_eq_false (by omega)
  have d3 : decide (A < 0) = false := decide_eq_false (by omega)
  have d4 : decide (K < 0) = false := decide_eq_false (by omega)
  have HB := hide ((Below.refl w.heap.size w).alloc (Nat.le_refl _) (.cells #[.int .i64 Q, .int .i64 A, .int .i64 L, .int .i64 K, .int .i64 0, .int .i64 0, .slice none 0 0] 75))
  have HN := hide (alloc_new w (.cells #[.int .i64 Q, .int .i64 A, .int .i64 L, .int .i64 K, .int .i64 0, .int .i64 0, .slice none 0 0] 75))
  clear b
  go_enter Tryd.func16, Tryd.ntmps16
  go_wp2_with fail
  go_ret2
  exact ⟨_, rfl, Nat.le_refl _, ⟨by show _ = some (Obj.cells #[.int .i64 Q, .int .i64 A, .int .i64 L, .int .i64 K, .int .i64 0, .int .i64 (sh A 0 Q), .slice none 0 0] _ _); rw [sh_zero]; exact HN.out, TL.OM.nil _ _⟩, HB.out⟩
set_option maxHeartbeats 1000000 in
theorem rmon_any (g : Nat) (o : Od) (pv : Value) (p : Int) (w : World) (h : RB6 w g o pv) (ok : o.Ok) (p0 : 0 ≤ p) (p1 : p ≤ o.Q - o.D) :
    Calls Tryd.prog 36 #[.pointer (some ⟨g, 0, none⟩), .int .i64 p] w fun e w' => e = .returned (.int .i64 (mon o.Q o.A o.D p)) ∧ Below w.heap.size w w' := by
  have g0 : ∀ x : Gr w, x.1.cell? ⟨g, 0, none⟩ = some (.int .i64 o.Q) := fun x => (seven_cells (h.later x.2).box rfl).1
  have g1 : ∀ x : Gr w, x.1.cell? ⟨g, 1, none⟩ = some (.int .i64 o.A) := fun x => (seven_cells (h.later x.2).box rfl).2.1
  have g4 : ∀ x : Gr w, x.1.cell? ⟨g, 4, none⟩ = some (.int .i64 o.D) := fun x => (seven_cells (h.later x.2).box rfl).2.2.2.2.1
  obtain ⟨f0, f1, f2, f3, f4, f5, f6⟩ := seven_cells h.box rfl
  have C := fun w => rmoney_any o.Q o.A o.D p w ok.Q1 ok.A1 (by have := ok.Q1; have := ok.DQ; omega) (by have := ok.Q1; have := ok.D0; omega)
  rw [(mnV_ok (by have := ok.Q0; have := ok.A0; have := ok.D0; omega)).1] at C
  have HC := hide C
  clear C ok h p0 p1
  go_enter Tryd.func36, Tryd.ntmps36
  go_wp2_with fail
  have HG0 := hide ((Below.refl w.heap.size w).drew)
  haveI : Nonempty (Gr w) := ⟨⟨_, HG0.out⟩⟩
  refine region_class (C := fun w' => ∃ x : Gr w, w' = x.1) (by kernel_rfl) (by kernel_rfl) ⟨⟨_, HG0.out⟩, rfl⟩ ?_
  repeat (first
    | go_big_quiet_skip
    | (go_big_quiet_want; (go_big_quiet_op; first
        | go_big_quiet_on
        | (apply Exists.intro; refine ⟨fun x => ?_, ?_⟩; (first
            | (go_at_call 13; exact x.call (HC.out x.1))
            ); go_big_quiet_on))))
  refine wpQuiet_nil ?_
  rintro w9 ⟨x, rfl⟩
  obtain ⟨w9, hx9⟩ := x
  dsimp only
  clear HG0 this
  clear g0 g1 g4
  go_wp2_with fail
  go_ret
  exact ⟨rfl, hx9⟩
/-- The steps of halving in. -/
theorem halve_in {lo hi L most : Int} (h0 : 0 ≤ lo) (h1 : lo < hi) (hL : 0 < L) (hm : hi * L ≤ most) (hm1 : most ≤ 9223372036854775806) : lo < lo + (hi - lo + 1) / 2 ∧ lo + (hi - lo + 1) / 2 ≤ hi ∧ (lo + (hi - lo + 1) / 2) * L ≤ most ∧ 0 ≤ (lo + (hi - lo + 1) / 2) * L ∧ hi ≤ 9223372036854775807 ∧
    wrap64 (hi - lo) = hi - lo ∧ wrap64 (hi - lo + 1) = hi - lo + 1 ∧ (hi - lo + 1).tdiv 2 = (hi - lo + 1) / 2 ∧ wrap64 ((hi - lo + 1) / 2) = (hi - lo + 1) / 2 ∧ wrap64 (lo + (hi - lo + 1) / 2) = lo + (hi - lo + 1) / 2 ∧ wrap64 ((lo + (hi - lo + 1) / 2) * L) = (lo + (hi - lo + 1) / 2) * L ∧ wrap64 (lo + (hi - lo + 1) / 2 - 1) = lo + (hi - lo + 1) / 2 - 1 := by
  have hh : hi ≤ hi * L := by
    have : hi * 1 ≤ hi * L := Int.mul_le_mul_of_nonneg_left (by omega) (by omega)
    omega
  have e1 : lo + (hi - lo + 1) / 2 ≤ hi := by omega
  have e2 : (lo + (hi - lo + 1) / 2) * L ≤ hi * L := Int.mul_le_mul_of_nonneg_right e1 (by omega)
  have e3 : 0 ≤ (lo + (hi - lo + 1) / 2) * L := Int.mul_nonneg (by omega) (by omega)
  refine ⟨by omega, e1, by omega, e3, by omega, by unfold wrap64; omega, by unfold wrap64; omega, Int.tdiv_eq_ediv_of_nonneg (by omega), by unfold wrap64; omega, by unfold wrap64; omega, ?_, by unfold wrap64; omega⟩
  generalize (lo + (hi - lo + 1) / 2) * L = z at *
  unfold wrap64; omega
theorem halve_let {lo hi L most : Int} (h0 : 0 ≤ lo) (h1 : lo < hi) (hL : 0 < L) (hm : hi * L ≤ most) (hm1 : most ≤ 9223372036854775806) : ∃ d x y mid mL mm : Int, wrap64 (hi - lo) = d ∧ wrap64 (d + 1) = x ∧ x.tdiv 2 = y ∧ wrap64 y = y ∧ wrap64 (lo + y) = mid ∧ wrap64 (mid * L) = mL ∧ wrap64 (mid - 1) = mm ∧ lo < mid ∧ mid ≤ hi ∧ mid * L = mL ∧ 0 ≤ mL ∧ mL ≤ most ∧ mid - 1 = mm := by
  obtain ⟨n1, n2, n3, n4, n5, v1, v2, v3, v4, v5, v6, v7⟩ := halve_in h0 h1 hL hm hm1
  exact ⟨_, _, _, _, _, _, v1, v2, v3, v4, v5, v6, v7, n1, n2, rfl, n4, n3, rfl⟩
set_option maxRecDepth 100000 in
set_option maxHeartbeats 1000000 in
theorem best_any (g : Nat) (o : Od) (pv : Value) (h c : Int) (w : World) (H : RB6 w g o pv) (ok : o.Ok) (h1 : h ≤ 9223372036854775807) :
    Calls Tryd.prog 35 #[.pointer (some ⟨g, 0, none⟩), .int .i64 h, .int .i64 c] w fun e w' => e = .returned (.int .i64 (o.q h c)) ∧ Below w.heap.size w w' := by
  obtain ⟨f0, f1, f2, f3, f4, f5, f6⟩ := seven_cells H.box rfl
  have HM := hide (fun p w' (hb : Below w.heap.size w w') (p0 : 0 ≤ p) (p1 : p ≤ o.Q - o.D) => rmon_any g o pv p w' (H.later hb) ok p0 p1)
  have HH := hide H
  have HK := hide ok
  obtain ⟨q, hq⟩ : ∃ q, o.q h c = q := ⟨_, rfl⟩
  have HQ : Hid (q = tkQ o.Q o.A o.L o.K o.D h c) := hide (by rw [← hq]; rfl)
  have QB := Od.q_bnd ok h c
  obtain ⟨l, hl⟩ : ∃ l, o.Q - o.D = l := ⟨_, rfl⟩
  have Hl := hide hl
  have l0 : 0 ≤ l := by have := ok.DQ; omega
  have l1 : l ≤ 9223372036854775807 := by have := ok.D0; have := ok.Q1; omega
  rw [hq, hl] at QB
  rw [hl] at HM
  have wl : wrap64 (o.Q - o.D) = l := by rw [hl]; unfold wrap64; omega
  rw [hq]
  clear H ok hq hl f5 f6 f1 f3
  have F2 := hide f2
  clear f2
  go_enter Tryd.func35, Tryd.ntmps35
  go_wp2_with fail
  go_quiet (fail)
  have HW := hide (below_dN (Below.refl w.heap.size w) nq)
  generalize w.drewN nq = w1 at *
  by_cases b1 : l = 0
  · have e : Hid (q = 0) := hide (by omega)
    have d1 : (l == 0) = true := by rw [b1]; rfl
    clear QB HQ l0 l1 b1
    go_wp2_with fail
    go_ret
    exact ⟨by rw [e.out]; rfl, HW.out⟩
  have d1 : (l == 0) = false := by simpa using b1
  by_cases b2 : h < 1
  · have e : Hid (q = 0) := hide (by rw [HQ.out]; unfold tkQ; rw [if_pos (.inl b2)])
    have d2 : decide (h < 1) = true := decide_eq_true b2
    clear QB HQ l0 l1 b1
    go_wp2_with fail
    go_ret
    exact ⟨by rw [e.out]; rfl, HW.out⟩
  have d2 : decide (h < 1) = false := decide_eq_false b2
  obtain ⟨ml, hml⟩ : ∃ ml, mon o.Q o.A o.D l = ml := ⟨_, rfl⟩
  have HM1 := hide (fun w' hb => HM.out l w' hb l0 (Int.le_refl _))
  rw [hml] at HM1
  have Hml := hide hml
  have HF : Hid (∀ w', Below w.heap.size w w' → w'.cell? ⟨g, 2, none⟩ = some (.int .i64 o.L)) := hide (fun w' hb => (seven_cells (HH.out.later hb).box rfl).2.2.1)
  have wl1 : wrap64 (l - 1) = l - 1 := by unfold wrap64; omega
  have HG : Hid (∀ w', Below w.heap.size w w' → w'.cell? ⟨g, 3, none⟩ = some (.int .i64 o.K)) := hide (fun w' hb => (seven_cells (HH.out.later hb).box rfl).2.2.2.1)
  have lnz : (o.L == 0) = false := by have := HK.out.L0; simp; omega
  have lnn : ¬ o.L = 0 := by have := HK.out.L0; omega
  clear hml F2 QB
  by_cases b5 : l ≤ h ∧ ml ≤ c
  · have d3 : decide (l ≤ h) = true := decide_eq_true b5.1
    have d4 : decide (ml ≤ c) = true := decide_eq_true b5.2
    have e : Hid (q = l) := hide (by
      rw [HQ.out]
      have ok := HK.out
      have hc0 : 0 ≤ c := by
        have := mon_mono (D := o.D) ok.Q0 ok.A0 l0
        rw [mon_zero, Hml.out] at this
        have := b5.2; omega
      have hp := (pay_iff (cash := c) ok.Q0 ok.A0 ok.D0 (Int.le_of_eq Hl.out.symm) hc0 ok.DQ).1 (by rw [Hml.out]; exact b5.2)
      have := b5.1
      unfold tkQ gr
      rw [if_neg (by omega), Hl.out, if_pos (by omega)])
    clear HQ l0 l1 b5 HF wl1 lnn lnz
    go_wp2_with fail
    refine (HM1.out _ HW.out).mono ?_
    rintro e w2 ⟨rfl, hb2⟩
    go_wp2_with fail
    go_ret
    exact ⟨by rw [e.out]; rfl, HW.out.trans (hb2.mono HW.out.size)⟩
  have B5 : Hid (l ≤ h → c < ml) := hide (fun x => Int.lt_of_not_ge (fun y => b5 ⟨x, y⟩))
  clear b5
  by_cases b3 : l ≤ h
  · have d3 : decide (l ≤ h) = true := decide_eq_true b3
    have d4 : decide (ml ≤ c) = false := decide_eq_false (by have := B5.out b3; omega)
    have d5 : decide (h < l - 1) = false := decide_eq_false (by omega)
    go_wp2_with fail
    refine (HM1.out _ HW.out).mono ?_
    rintro e w2 ⟨rfl, hb2⟩
    have HW2 := hide (HW.out.trans (hb2.mono HW.out.size))
    have HE : Hid (l - 1 = min (l - 1) h) := hide (by omega)
    clear hb2 b3
    have fl := HF.out w2 HW2.out
    have m0 : 0 ≤ (l - 1) := by have := HE.out; omega
    have m1 : (l - 1) ≤ l - 1 := by have := HE.out; omega
    have et : ((l - 1)).tdiv o.L = (l - 1) / o.L := Int.tdiv_eq_ediv_of_nonneg m0
    have t0 : 0 ≤ (l - 1) / o.L := Int.ediv_nonneg m0 (by have := HK.out.L0; omega)
    obtain ⟨T, hT⟩ : ∃ T, (l - 1) / o.L = T := ⟨_, rfl⟩
    have HT := hide hT
    have wt : wrap64 (((l - 1)).tdiv o.L) = T := by
      have := Int.ediv_le_self o.L m0
      rw [et, ← hT]
      unfold wrap64; omega
    rw [hT] at t0
    clear et
    obtain ⟨R, hR⟩ : ∃ R, rR o.Q o.A o.L o.D (l - 1) c = R := ⟨_, rfl⟩
    have HR : Hid (∀ k, 0 ≤ k → k * o.L ≤ (l - 1) → (mon o.Q o.A o.D (k * o.L) ≤ c ↔ k ≤ R)) := hide (fun k k0 hk => by rw [← hR]; exact rR_iff HK.out.Q0 HK.out.A0 HK.out.D0 HK.out.DQ HK.out.L0 (by have := Hl.out; omega) k0 hk)
    have HRT : Hid (R ≤ T) := hide (by rw [← hR, ← hT]; exact rR_le HK.out.L0 m0)
    have HTM : Hid (T * o.L ≤ (l - 1)) := hide (by rw [← hT]; exact Int.ediv_mul_le _ (by have := HK.out.L0; omega))
    have HA := hide (tkQ_lots (K := o.K) (h := h) (c := c) HK.out.Q0 HK.out.A0 HK.out.D0 HK.out.DQ HK.out.L0 (by omega) (fun x => by have h5 := B5.out (by have := x.1; have := Hl.out; omega); have := x.2; rw [Hl.out, Hml.out] at this; omega) (by have := Hl.out; omega))
    rw [Hl.out, ← HE.out, hR, ← HQ.out] at HA
    have HM0 := hide (And.intro m0 m1)
    clear hR hT m0 m1
    go_wp2_with fail
    try rw [wt]
    go_loopw [9, 10] (fun lo hi wr => ∃ a b : Int, lo = .int .i64 a ∧ hi = .int .i64 b ∧ 0 ≤ a ∧ a ≤ b ∧ b ≤ T ∧ Hid (R ≤ b ∧ (a = 0 ∨ a ≤ R)) ∧ Hid (Below w.heap.size w wr)) (fun lo hi _ => (intOf hi - intOf lo).toNat)
    case atStart => exact ⟨0, T, rfl, rfl, by decide, t0, Int.le_refl _, hide ⟨HRT.out, .inl rfl⟩, HW2⟩
    case round =>
      obtain ⟨a, b, rfl, rfl, a0, ab, bT, HI, HWr⟩ := hrel
      have flr := HF.out wr HWr.out
      have flg : ∀ x : Gr wr, x.1.cell? ⟨g, 2, none⟩ = some (.int .i64 o.L) := fun x => HF.out x.1 (HWr.out.trans (x.2.mono HWr.out.size))
      by_cases hlt : a < b
      · have dl : decide (a < b) = true := decide_eq_true hlt
        have hbL : b * o.L ≤ (l - 1) := Int.le_trans (Int.mul_le_mul_of_nonneg_right bT (by have := HK.out.L0; omega)) HTM.out
        obtain ⟨d, d1', d2', mid, mL, mm, v1, v2, v3, v4, v5, v6, v7, n1, n2, hmL, n4, n3, hmm⟩ := halve_let a0 hlt HK.out.L0 hbL (by have := HM0.out; omega)
        have HN := hide (And.intro n1 (And.intro n2 hmm))
        have HC := hide (fun w' hb => HM.out mL w' hb n4 (by have := HM0.out; omega))
        have HV : Hid (mon o.Q o.A o.D mL ≤ c ↔ mid ≤ R) := hide (by
          have := HR.out mid (by omega) (by rw [hmL]; exact n3)
          rw [hmL] at this; exact this)
        obtain ⟨mv, hmv⟩ : ∃ x, mon o.Q o.A o.D mL = x := ⟨_, rfl⟩
        rw [hmv] at HC HV
        have HAB := hide (And.intro a0 (And.intro hlt bT))
        have HmL := hide hmL
        clear hmm hmv n1 n2 n3 n4 hbL ab a0 bT hlt hmL
        go_wp2_with fail
        refine (HC.out _ HWr.out).mono ?_
        rintro e w4 ⟨rfl, hb4⟩
        have HW4 := hide (HWr.out.trans (hb4.mono HWr.out.size))
        clear hb4
        by_cases hv : mv ≤ c
        · have dv : decide (mv ≤ c) = true := decide_eq_true hv
          have HR4 := hide (HV.out.1 hv)
          clear HV hv flr flg
          go_wp2_with fail
          go_roundw
          case rel => exact ⟨mid, b, rfl, rfl, by have := HN.out.1; have := HAB.out.1; omega, HN.out.2.1, HAB.out.2.2, hide ⟨HI.out.1, .inr HR4.out⟩, HW4⟩
          case measure => have := HN.out.1; have := HAB.out.2.1; simp [intOf]; omega
        · have dv : decide (mv ≤ c) = false := decide_eq_false hv
          have HR4 : Hid (¬ mid ≤ R) := hide (fun x => hv (HV.out.2 x))
          clear HV hv flr flg
          go_wp2_with fail
          go_roundw
          case rel => exact ⟨a, mm, rfl, by rw [v7], HAB.out.1, by have := HN.out.1; have := HN.out.2.2; omega, by have := HN.out.2.1; have := HN.out.2.2; have := HAB.out.2.2; omega, hide ⟨by have := HN.out.2.2; have := HR4.out; omega, HI.out.2⟩, HW4⟩
          case measure => have := HN.out.1; have := HN.out.2.1; have := HN.out.2.2; rw [v7]; simp [intOf]; omega
      · have dl : decide (a < b) = false := decide_eq_false hlt
        have e : b = a := by omega
        subst e
        obtain ⟨bL, hbL⟩ : ∃ x, b * o.L = x := ⟨_, rfl⟩
        have hbM : bL ≤ (l - 1) := by rw [← hbL]; exact Int.le_trans (Int.mul_le_mul_of_nonneg_right bT (by have := HK.out.L0; omega)) HTM.out
        have hb0 : 0 ≤ bL := by rw [← hbL]; exact Int.mul_nonneg a0 (by have := HK.out.L0; omega)
        have wb : wrap64 (b * o.L) = bL := by rw [hbL]; have := HM0.out; unfold wrap64; omega
        have HVB := HR.out b a0 (by rw [hbL]; exact hbM)
        rw [hbL] at HVB
        have HC := hide (fun w' hb => HM.out bL w' hb hb0 (by have := HM0.out; omega))
        obtain ⟨mv, hmv⟩ : ∃ x, mon o.Q o.A o.D bL = x := ⟨_, rfl⟩
        rw [hmv] at HC HVB
        have HX : Hid ((bL < o.K ∨ ¬ mv ≤ c → q = 0) ∧ (¬ (bL < o.K ∨ ¬ mv ≤ c) → q = bL)) := hide (by
          have hI := HI.out
          by_cases hn : R < 0
          · have hb : b = 0 := by omega
            rw [HA.out.1 hn]
            exact ⟨fun _ => rfl, fun x => absurd (.inr (fun z => by have := HVB.1 z; omega)) x⟩
          · have hb : b = R := by omega
            have := HA.out.2 (by omega)
            rw [← hb, hbL] at this
            by_cases hK : bL < o.K
            · rw [if_pos hK] at this
              exact ⟨fun _ => this, fun x => absurd (.inl hK) x⟩
            · rw [if_neg hK] at this
              exact ⟨fun x => absurd (HVB.2 (by omega)) (x.resolve_left hK), fun _ => this⟩)
        clear HVB hmv hbM hb0 HI a0 bT hlt hbL
        have flk : ∀ x : Gr wr, x.1.cell? ⟨g, 3, none⟩ = some (.int .i64 o.K) := fun x => HG.out x.1 (HWr.out.trans (x.2.mono HWr.out.size))
        have HCx : Hid (∀ x : Gr wr, Calls Tryd.prog 36 #[.pointer (some ⟨g, 0, none⟩), .int .i64 bL] x.1 fun e w' => e = .returned (.int .i64 mv) ∧ Below x.1.heap.size x.1 w') := hide (fun x => HC.out x.1 (HWr.out.trans (x.2.mono HWr.out.size)))
        by_cases k1 : bL < o.K
        · have dk : decide (bL < o.K) = true := decide_eq_true k1
          have e : Hid (q = 0) := hide (HX.out.1 (.inl k1))
          clear k1 HX
          go_wp2_with fail
          have HG0 := hide ((Below.refl wr.heap.size wr).drew)
          haveI : Nonempty (Gr wr) := ⟨⟨_, HG0.out⟩⟩
          refine region_class (C := fun w' => ∃ x : Gr wr, w' = x.1) (by kernel_rfl) (by kernel_rfl) ⟨⟨_, HG0.out⟩, rfl⟩ ?_
          repeat (first
            | go_big_quiet_skip
            | (go_big_quiet_want; (go_big_quiet_op; first
                | go_big_quiet_on
                | (apply Exists.intro; refine ⟨fun x => ?_, ?_⟩; (first
                    | (go_at_call 36; exact x.call (HCx.out x))
                    ); go_big_quiet_on))))
          refine wpQuiet_nil ?_
          rintro w9 ⟨x, rfl⟩
          obtain ⟨w9, hx9⟩ := x
          dsimp only
          clear HG0 this
          have HW9 := hide (HWr.out.trans (hx9.mono HWr.out.size))
          clear flk flg hx9
          go_wp2_with fail
          go_ret
          exact ⟨by rw [e.out]; rfl, HW9.out⟩
        · have dk : decide (bL < o.K) = false := decide_eq_false k1
          by_cases k2 : mv ≤ c
          · have dv : decide (c < mv) = false := decide_eq_false (by omega)
            have e : Hid (q = bL) := hide (HX.out.2 (by omega))
            clear k2 k1 HX
            go_wp2_with fail
            have HG0 := hide ((Below.refl wr.heap.size wr).drew)
            haveI : Nonempty (Gr wr) := ⟨⟨_, HG0.out⟩⟩
            refine region_class (C := fun w' => ∃ x : Gr wr, w' = x.1) (by kernel_rfl) (by kernel_rfl) ⟨⟨_, HG0.out⟩, rfl⟩ ?_
            repeat (first
              | go_big_quiet_skip
              | (go_big_quiet_want; (go_big_quiet_op; first
                  | go_big_quiet_on
                  | (apply Exists.intro; refine ⟨fun x => ?_, ?_⟩; (first
                      | (go_at_call 36; exact x.call (HCx.out x))
                      ); go_big_quiet_on))))
            refine wpQuiet_nil ?_
            rintro w9 ⟨x, rfl⟩
            obtain ⟨w9, hx9⟩ := x
            dsimp only
            clear HG0 this
            have HW9 := hide (HWr.out.trans (hx9.mono HWr.out.size))
            have fl9 := HF.out w9 HW9.out
            clear flk flg hx9
            go_wp2_with fail
            go_ret
            exact ⟨by rw [e.out, ← wb]; rfl, HW9.out⟩
          · have dv : decide (c < mv) = true := decide_eq_true (by omega)
            have e : Hid (q = 0) := hide (HX.out.1 (.inr k2))
            clear k2 k1 HX
            go_wp2_with fail
            have HG0 := hide ((Below.refl wr.heap.size wr).drew)
            haveI : Nonempty (Gr wr) := ⟨⟨_, HG0.out⟩⟩
            refine region_class (C := fun w' => ∃ x : Gr wr, w' = x.1) (by kernel_rfl) (by kernel_rfl) ⟨⟨_, HG0.out⟩, rfl⟩ ?_
            repeat (first
              | go_big_quiet_skip
              | (go_big_quiet_want; (go_big_quiet_op; first
                  | go_big_quiet_on
                  | (apply Exists.intro; refine ⟨fun x => ?_, ?_⟩; (first
                      | (go_at_call 36; exact x.call (HCx.out x))
                      ); go_big_quiet_on))))
            refine wpQuiet_nil ?_
            rintro w9 ⟨x, rfl⟩
            obtain ⟨w9, hx9⟩ := x
            dsimp only
            clear HG0 this
            have HW9 := hide (HWr.out.trans (hx9.mono HWr.out.size))
            have fl9 := HF.out w9 HW9.out
            clear flk flg hx9
            go_wp2_with fail
            go_ret
            exact ⟨by rw [e.out]; rfl, HW9.out⟩
  · have d3 : decide (l ≤ h) = false := decide_eq_false b3
    by_cases b4 : h < l - 1
    · have d5 : decide (h < l - 1) = true := decide_eq_true b4
      have HE : Hid (h = min (l - 1) h) := hide (by omega)
      clear b4 b3
      have fl := HF.out w1 HW.out
      have m0 : 0 ≤ h := by have := HE.out; omega
      have m1 : h ≤ l - 1 := by have := HE.out; omega
      have et : (h).tdiv o.L = h / o.L := Int.tdiv_eq_ediv_of_nonneg m0
      have t0 : 0 ≤ h / o.L := Int.ediv_nonneg m0 (by have := HK.out.L0; omega)
      obtain ⟨T, hT⟩ : ∃ T, h / o.L = T := ⟨_, rfl⟩
      have HT := hide hT
      have wt : wrap64 ((h).tdiv o.L) = T := by
        have := Int.ediv_le_self o.L m0
        rw [et, ← hT]
        unfold wrap64; omega
      rw [hT] at t0
      clear et
      obtain ⟨R, hR⟩ : ∃ R, rR o.Q o.A o.L o.D h c = R := ⟨_, rfl⟩
      have HR : Hid (∀ k, 0 ≤ k → k * o.L ≤ h → (mon o.Q o.A o.D (k * o.L) ≤ c ↔ k ≤ R)) := hide (fun k k0 hk => by rw [← hR]; exact rR_iff HK.out.Q0 HK.out.A0 HK.out.D0 HK.out.DQ HK.out.L0 (by have := Hl.out; omega) k0 hk)
      have HRT : Hid (R ≤ T) := hide (by rw [← hR, ← hT]; exact rR_le HK.out.L0 m0)
      have HTM : Hid (T * o.L ≤ h) := hide (by rw [← hT]; exact Int.ediv_mul_le _ (by have := HK.out.L0; omega))
      have HA := hide (tkQ_lots (K := o.K) (h := h) (c := c) HK.out.Q0 HK.out.A0 HK.out.D0 HK.out.DQ HK.out.L0 (by omega) (fun x => by have h5 := B5.out (by have := x.1; have := Hl.out; omega); have := x.2; rw [Hl.out, Hml.out] at this; omega) (by have := Hl.out; omega))
      rw [Hl.out, ← HE.out, hR, ← HQ.out] at HA
      have HM0 := hide (And.intro m0 m1)
      clear hR hT m0 m1
      go_wp2_with fail
      try rw [wt]
      go_loopw [9, 10] (fun lo hi wr => ∃ a b : Int, lo = .int .i64 a ∧ hi = .int .i64 b ∧ 0 ≤ a ∧ a ≤ b ∧ b ≤ T ∧ Hid (R ≤ b ∧ (a = 0 ∨ a ≤ R)) ∧ Hid (Below w.heap.size w wr)) (fun lo hi _ => (intOf hi - intOf lo).toNat)
      case atStart => exact ⟨0, T, rfl, rfl, by decide, t0, Int.le_refl _, hide ⟨HRT.out, .inl rfl⟩, HW⟩
      case round =>
        obtain ⟨a, b, rfl, rfl, a0, ab, bT, HI, HWr⟩ := hrel
        have flr := HF.out wr HWr.out
        have flg : ∀ x : Gr wr, x.1.cell? ⟨g, 2, none⟩ = some (.int .i64 o.L) := fun x => HF.out x.1 (HWr.out.trans (x.2.mono HWr.out.size))
        by_cases hlt : a < b
        · have dl : decide (a < b) = true := decide_eq_true hlt
          have hbL : b * o.L ≤ h := Int.le_trans (Int.mul_le_mul_of_nonneg_right bT (by have := HK.out.L0; omega)) HTM.out
          obtain ⟨d, d1', d2', mid, mL, mm, v1, v2, v3, v4, v5, v6, v7, n1, n2, hmL, n4, n3, hmm⟩ := halve_let a0 hlt HK.out.L0 hbL (by have := HM0.out; omega)
          have HN := hide (And.intro n1 (And.intro n2 hmm))
          have HC := hide (fun w' hb => HM.out mL w' hb n4 (by have := HM0.out; omega))
          have HV : Hid (mon o.Q o.A o.D mL ≤ c ↔ mid ≤ R) := hide (by
            have := HR.out mid (by omega) (by rw [hmL]; exact n3)
            rw [hmL] at this; exact this)
          obtain ⟨mv, hmv⟩ : ∃ x, mon o.Q o.A o.D mL = x := ⟨_, rfl⟩
          rw [hmv] at HC HV
          have HAB := hide (And.intro a0 (And.intro hlt bT))
          have HmL := hide hmL
          clear hmm hmv n1 n2 n3 n4 hbL ab a0 bT hlt hmL
          go_wp2_with fail
          refine (HC.out _ HWr.out).mono ?_
          rintro e w4 ⟨rfl, hb4⟩
          have HW4 := hide (HWr.out.trans (hb4.mono HWr.out.size))
          clear hb4
          by_cases hv : mv ≤ c
          · have dv : decide (mv ≤ c) = true := decide_eq_true hv
            have HR4 := hide (HV.out.1 hv)
            clear HV hv flr flg
            go_wp2_with fail
            go_roundw
            case rel => exact ⟨mid, b, rfl, rfl, by have := HN.out.1; have := HAB.out.1; omega, HN.out.2.1, HAB.out.2.2, hide ⟨HI.out.1, .inr HR4.out⟩, HW4⟩
            case measure => have := HN.out.1; have := HAB.out.2.1; simp [intOf]; omega
          · have dv : decide (mv ≤ c) = false := decide_eq_false hv
            have HR4 : Hid (¬ mid ≤ R) := hide (fun x => hv (HV.out.2 x))
            clear HV hv flr flg
            go_wp2_with fail
            go_roundw
            case rel => exact ⟨a, mm, rfl, by rw [v7], HAB.out.1, by have := HN.out.1; have := HN.out.2.2; omega, by have := HN.out.2.1; have := HN.out.2.2; have := HAB.out.2.2; omega, hide ⟨by have := HN.out.2.2; have := HR4.out; omega, HI.out.2⟩, HW4⟩
            case measure => have := HN.out.1; have := HN.out.2.1; have := HN.out.2.2; rw [v7]; simp [intOf]; omega
        · have dl : decide (a < b) = false := decide_eq_false hlt
          have e : b = a := by omega
          subst e
          obtain ⟨bL, hbL⟩ : ∃ x, b * o.L = x := ⟨_, rfl⟩
          have hbM : bL ≤ h := by rw [← hbL]; exact Int.le_trans (Int.mul_le_mul_of_nonneg_right bT (by have := HK.out.L0; omega)) HTM.out
          have hb0 : 0 ≤ bL := by rw [← hbL]; exact Int.mul_nonneg a0 (by have := HK.out.L0; omega)
          have wb : wrap64 (b * o.L) = bL := by rw [hbL]; have := HM0.out; unfold wrap64; omega
          have HVB := HR.out b a0 (by rw [hbL]; exact hbM)
          rw [hbL] at HVB
          have HC := hide (fun w' hb => HM.out bL w' hb hb0 (by have := HM0.out; omega))
          obtain ⟨mv, hmv⟩ : ∃ x, mon o.Q o.A o.D bL = x := ⟨_, rfl⟩
          rw [hmv] at HC HVB
          have HX : Hid ((bL < o.K ∨ ¬ mv ≤ c → q = 0) ∧ (¬ (bL < o.K ∨ ¬ mv ≤ c) → q = bL)) := hide (by
            have hI := HI.out
            by_cases hn : R < 0
            · have hb : b = 0 := by omega
              rw [HA.out.1 hn]
              exact ⟨fun _ => rfl, fun x => absurd (.inr (fun z => by have := HVB.1 z; omega)) x⟩
            · have hb : b = R := by omega
              have := HA.out.2 (by omega)
              rw [← hb, hbL] at this
              by_cases hK : bL < o.K
              · rw [if_pos hK] at this
                exact ⟨fun _ => this, fun x => absurd (.inl hK) x⟩
              · rw [if_neg hK] at this
                exact ⟨fun x => absurd (HVB.2 (by omega)) (x.resolve_left hK), fun _ => this⟩)
          clear HVB hmv hbM hb0 HI a0 bT hlt hbL
          have flk : ∀ x : Gr wr, x.1.cell? ⟨g, 3, none⟩ = some (.int .i64 o.K) := fun x => HG.out x.1 (HWr.out.trans (x.2.mono HWr.out.size))
          have HCx : Hid (∀ x : Gr wr, Calls Tryd.prog 36 #[.pointer (some ⟨g, 0, none⟩), .int .i64 bL] x.1 fun e w' => e = .returned (.int .i64 mv) ∧ Below x.1.heap.size x.1 w') := hide (fun x => HC.out x.1 (HWr.out.trans (x.2.mono HWr.out.size)))
          by_cases k1 : bL < o.K
          · have dk : decide (bL < o.K) = true := decide_eq_true k1
            have e : Hid (q = 0) := hide (HX.out.1 (.inl k1))
            clear k1 HX
            go_wp2_with fail
            have HG0 := hide ((Below.refl wr.heap.size wr).drew)
            haveI : Nonempty (Gr wr) := ⟨⟨_, HG0.out⟩⟩
            refine region_class (C := fun w' => ∃ x : Gr wr, w' = x.1) (by kernel_rfl) (by kernel_rfl) ⟨⟨_, HG0.out⟩, rfl⟩ ?_
            repeat (first
              | go_big_quiet_skip
              | (go_big_quiet_want; (go_big_quiet_op; first
                  | go_big_quiet_on
                  | (apply Exists.intro; refine ⟨fun x => ?_, ?_⟩; (first
                      | (go_at_call 36; exact x.call (HCx.out x))
                      ); go_big_quiet_on))))
            refine wpQuiet_nil ?_
            rintro w9 ⟨x, rfl⟩
            obtain ⟨w9, hx9⟩ := x
            dsimp only
            clear HG0 this
            have HW9 := hide (HWr.out.trans (hx9.mono HWr.out.size))
            clear flk flg hx9
            go_wp2_with fail
            go_ret
            exact ⟨by rw [e.out]; rfl, HW9.out⟩
          · have dk : decide (bL < o.K) = false := decide_eq_false k1
            by_cases k2 : mv ≤ c
            · have dv : decide (c < mv) = false := decide_eq_false (by omega)
              have e : Hid (q = bL) := hide (HX.out.2 (by omega))
              clear k2 k1 HX
              go_wp2_with fail
              have HG0 := hide ((Below.refl wr.heap.size wr).drew)
              haveI : Nonempty (Gr wr) := ⟨⟨_, HG0.out⟩⟩
              refine region_class (C := fun w' => ∃ x : Gr wr, w' = x.1) (by kernel_rfl) (by kernel_rfl) ⟨⟨_, HG0.out⟩, rfl⟩ ?_
              repeat (first
                | go_big_quiet_skip
                | (go_big_quiet_want; (go_big_quiet_op; first
                    | go_big_quiet_on
                    | (apply Exists.intro; refine ⟨fun x => ?_, ?_⟩; (first
                        | (go_at_call 36; exact x.call (HCx.out x))
                        ); go_big_quiet_on))))
              refine wpQuiet_nil ?_
              rintro w9 ⟨x, rfl⟩
              obtain ⟨w9, hx9⟩ := x
              dsimp only
              clear HG0 this
              have HW9 := hide (HWr.out.trans (hx9.mono HWr.out.size))
              have fl9 := HF.out w9 HW9.out
              clear flk flg hx9
              go_wp2_with fail
              go_ret
              exact ⟨by rw [e.out, ← wb]; rfl, HW9.out⟩
            · have dv : decide (c < mv) = true := decide_eq_true (by omega)
              have e : Hid (q = 0) := hide (HX.out.1 (.inr k2))
              clear k2 k1 HX
              go_wp2_with fail
              have HG0 := hide ((Below.refl wr.heap.size wr).drew)
              haveI : Nonempty (Gr wr) := ⟨⟨_, HG0.out⟩⟩
              refine region_class (C := fun w' => ∃ x : Gr wr, w' = x.1) (by kernel_rfl) (by kernel_rfl) ⟨⟨_, HG0.out⟩, rfl⟩ ?_
              repeat (first
                | go_big_quiet_skip
                | (go_big_quiet_want; (go_big_quiet_op; first
                    | go_big_quiet_on
                    | (apply Exists.intro; refine ⟨fun x => ?_, ?_⟩; (first
                        | (go_at_call 36; exact x.call (HCx.out x))
                        ); go_big_quiet_on))))
              refine wpQuiet_nil ?_
              rintro w9 ⟨x, rfl⟩
              obtain ⟨w9, hx9⟩ := x
              dsimp only
              clear HG0 this
              have HW9 := hide (HWr.out.trans (hx9.mono HWr.out.size))
              have fl9 := HF.out w9 HW9.out
              clear flk flg hx9
              go_wp2_with fail
              go_ret
              exact ⟨by rw [e.out]; rfl, HW9.out⟩
    · have d5 : decide (h < l - 1) = false := decide_eq_false b4
      have HE : Hid (l - 1 = min (l - 1) h) := hide (by omega)
      clear b4 b3
      have fl := HF.out w1 HW.out
      have m0 : 0 ≤ (l - 1) := by have := HE.out; omega
      have m1 : (l - 1) ≤ l - 1 := by have := HE.out; omega
      have et : ((l - 1)).tdiv o.L = (l - 1) / o.L := Int.tdiv_eq_ediv_of_nonneg m0
      have t0 : 0 ≤ (l - 1) / o.L := Int.ediv_nonneg m0 (by have := HK.out.L0; omega)
      obtain ⟨T, hT⟩ : ∃ T, (l - 1) / o.L = T := ⟨_, rfl⟩
      have HT := hide hT
      have wt : wrap64 (((l - 1)).tdiv o.L) = T := by
        have := Int.ediv_le_self o.L m0
        rw [et, ← hT]
        unfold wrap64; omega
      rw [hT] at t0
      clear et
      obtain ⟨R, hR⟩ : ∃ R, rR o.Q o.A o.L o.D (l - 1) c = R := ⟨_, rfl⟩
      have HR : Hid (∀ k, 0 ≤ k → k * o.L ≤ (l - 1) → (mon o.Q o.A o.D (k * o.L) ≤ c ↔ k ≤ R)) := hide (fun k k0 hk => by rw [← hR]; exact rR_iff HK.out.Q0 HK.out.A0 HK.out.D0 HK.out.DQ HK.out.L0 (by have := Hl.out; omega) k0 hk)
      have HRT : Hid (R ≤ T) := hide (by rw [← hR, ← hT]; exact rR_le HK.out.L0 m0)
      have HTM : Hid (T * o.L ≤ (l - 1)) := hide (by rw [← hT]; exact Int.ediv_mul_le _ (by have := HK.out.L0; omega))
      have HA := hide (tkQ_lots (K := o.K) (h := h) (c := c) HK.out.Q0 HK.out.A0 HK.out.D0 HK.out.DQ HK.out.L0 (by omega) (fun x => by have h5 := B5.out (by have := x.1; have := Hl.out; omega); have := x.2; rw [Hl.out, Hml.out] at this; omega) (by have := Hl.out; omega))
      rw [Hl.out, ← HE.out, hR, ← HQ.out] at HA
      have HM0 := hide (And.intro m0 m1)
      clear hR hT m0 m1
      go_wp2_with fail
      try rw [wt]
      go_loopw [9, 10] (fun lo hi wr => ∃ a b : Int, lo = .int .i64 a ∧ hi = .int .i64 b ∧ 0 ≤ a ∧ a ≤ b ∧ b ≤ T ∧ Hid (R ≤ b ∧ (a = 0 ∨ a ≤ R)) ∧ Hid (Below w.heap.size w wr)) (fun lo hi _ => (intOf hi - intOf lo).toNat)
      case atStart => exact ⟨0, T, rfl, rfl, by decide, t0, Int.le_refl _, hide ⟨HRT.out, .inl rfl⟩, HW⟩
      case round =>
        obtain ⟨a, b, rfl, rfl, a0, ab, bT, HI, HWr⟩ := hrel
        have flr := HF.out wr HWr.out
        have flg : ∀ x : Gr wr, x.1.cell? ⟨g, 2, none⟩ = some (.int .i64 o.L) := fun x => HF.out x.1 (HWr.out.trans (x.2.mono HWr.out.size))
        by_cases hlt : a < b
        · have dl : decide (a < b) = true := decide_eq_true hlt
          have hbL : b * o.L ≤ (l - 1) := Int.le_trans (Int.mul_le_mul_of_nonneg_right bT (by have := HK.out.L0; omega)) HTM.out
          obtain ⟨d, d1', d2', mid, mL, mm, v1, v2, v3, v4, v5, v6, v7, n1, n2, hmL, n4, n3, hmm⟩ := halve_let a0 hlt HK.out.L0 hbL (by have := HM0.out; omega)
          have HN := hide (And.intro n1 (And.intro n2 hmm))
          have HC := hide (fun w' hb => HM.out mL w' hb n4 (by have := HM0.out; omega))
          have HV : Hid (mon o.Q o.A o.D mL ≤ c ↔ mid ≤ R) := hide (by
            have := HR.out mid (by omega) (by rw [hmL]; exact n3)
            rw [hmL] at this; exact this)
          obtain ⟨mv, hmv⟩ : ∃ x, mon o.Q o.A o.D mL = x := ⟨_, rfl⟩
          rw [hmv] at HC HV
          have HAB := hide (And.intro a0 (And.intro hlt bT))
          have HmL := hide hmL
          clear hmm hmv n1 n2 n3 n4 hbL ab a0 bT hlt hmL
          go_wp2_with fail
          refine (HC.out _ HWr.out).mono ?_
          rintro e w4 ⟨rfl, hb4⟩
          have HW4 := hide (HWr.out.trans (hb4.mono HWr.out.size))
          clear hb4
          by_cases hv : mv ≤ c
          · have dv : decide (mv ≤ c) = true := decide_eq_true hv
            have HR4 := hide (HV.out.1 hv)
            clear HV hv flr flg
            go_wp2_with fail
            go_roundw
            case rel => exact ⟨mid, b, rfl, rfl, by have := HN.out.1; have := HAB.out.1; omega, HN.out.2.1, HAB.out.2.2, hide ⟨HI.out.1, .inr HR4.out⟩, HW4⟩
            case measure => have := HN.out.1; have := HAB.out.2.1; simp [intOf]; omega
          · have dv : decide (mv ≤ c) = false := decide_eq_false hv
            have HR4 : Hid (¬ mid ≤ R) := hide (fun x => hv (HV.out.2 x))
            clear HV hv flr flg
            go_wp2_with fail
            go_roundw
            case rel => exact ⟨a, mm, rfl, by rw [v7], HAB.out.1, by have := HN.out.1; have := HN.out.2.2; omega, by have := HN.out.2.1; have := HN.out.2.2; have := HAB.out.2.2; omega, hide ⟨by have := HN.out.2.2; have := HR4.out; omega, HI.out.2⟩, HW4⟩
            case measure => have := HN.out.1; have := HN.out.2.1; have := HN.out.2.2; rw [v7]; simp [intOf]; omega
        · have dl : decide (a < b) = false := decide_eq_false hlt
          have e : b = a := by omega
          subst e
          obtain ⟨bL, hbL⟩ : ∃ x, b * o.L = x := ⟨_, rfl⟩
          have hbM : bL ≤ (l - 1) := by rw [← hbL]; exact Int.le_trans (Int.mul_le_mul_of_nonneg_right bT (by have := HK.out.L0; omega)) HTM.out
          have hb0 : 0 ≤ bL := by rw [← hbL]; exact Int.mul_nonneg a0 (by have := HK.out.L0; omega)
          have wb : wrap64 (b * o.L) = bL := by rw [hbL]; have := HM0.out; unfold wrap64; omega
          have HVB := HR.out b a0 (by rw [hbL]; exact hbM)
          rw [hbL] at HVB
          have HC := hide (fun w' hb => HM.out bL w' hb hb0 (by have := HM0.out; omega))
          obtain ⟨mv, hmv⟩ : ∃ x, mon o.Q o.A o.D bL = x := ⟨_, rfl⟩
          rw [hmv] at HC HVB
          have HX : Hid ((bL < o.K ∨ ¬ mv ≤ c → q = 0) ∧ (¬ (bL < o.K ∨ ¬ mv ≤ c) → q = bL)) := hide (by
            have hI := HI.out
            by_cases hn : R < 0
            · have hb : b = 0 := by omega
              rw [HA.out.1 hn]
              exact ⟨fun _ => rfl, fun x => absurd (.inr (fun z => by have := HVB.1 z; omega)) x⟩
            · have hb : b = R := by omega
              have := HA.out.2 (by omega)
              rw [← hb, hbL] at this
              by_cases hK : bL < o.K
              · rw [if_pos hK] at this
                exact ⟨fun _ => this, fun x => absurd (.inl hK) x⟩
              · rw [if_neg hK] at this
                exact ⟨fun x => absurd (HVB.2 (by omega)) (x.resolve_left hK), fun _ => this⟩)
          clear HVB hmv hbM hb0 HI a0 bT hlt hbL
          have flk : ∀ x : Gr wr, x.1.cell? ⟨g, 3, none⟩ = some (.int .i64 o.K) := fun x => HG.out x.1 (HWr.out.trans (x.2.mono HWr.out.size))
          have HCx : Hid (∀ x : Gr wr, Calls Tryd.prog 36 #[.pointer (some ⟨g, 0, none⟩), .int .i64 bL] x.1 fun e w' => e = .returned (.int .i64 mv) ∧ Below x.1.heap.size x.1 w') := hide (fun x => HC.out x.1 (HWr.out.trans (x.2.mono HWr.out.size)))
          by_cases k1 : bL < o.K
          · have dk : decide (bL < o.K) = true := decide_eq_true k1
            have e : Hid (q = 0) := hide (HX.out.1 (.inl k1))
            clear k1 HX
            go_wp2_with fail
            have HG0 := hide ((Below.refl wr.heap.size wr).drew)
            haveI : Nonempty (Gr wr) := ⟨⟨_, HG0.out⟩⟩
            refine region_class (C := fun w' => ∃ x : Gr wr, w' = x.1) (by kernel_rfl) (by kernel_rfl) ⟨⟨_, HG0.out⟩, rfl⟩ ?_
            repeat (first
              | go_big_quiet_skip
              | (go_big_quiet_want; (go_big_quiet_op; first
                  | go_big_quiet_on
                  | (apply Exists.intro; refine ⟨fun x => ?_, ?_⟩; (first
                      | (go_at_call 36; exact x.call (HCx.out x))
                      ); go_big_quiet_on))))
            refine wpQuiet_nil ?_
            rintro w9 ⟨x, rfl⟩
            obtain ⟨w9, hx9⟩ := x
            dsimp only
            clear HG0 this
            have HW9 := hide (HWr.out.trans (hx9.mono HWr.out.size))
            clear flk flg hx9
            go_wp2_with fail
            go_ret
            exact ⟨by rw [e.out]; rfl, HW9.out⟩
          · have dk : decide (bL < o.K) = false := decide_eq_false k1
            by_cases k2 : mv ≤ c
            · have dv : decide (c < mv) = false := decide_eq_false (by omega)
              have e : Hid (q = bL) := hide (HX.out.2 (by omega))
              clear k2 k1 HX
              go_wp2_with fail
              have HG0 := hide ((Below.refl wr.heap.size wr).drew)
              haveI : Nonempty (Gr wr) := ⟨⟨_, HG0.out⟩⟩
              refine region_class (C := fun w' => ∃ x : Gr wr, w' = x.1) (by kernel_rfl) (by kernel_rfl) ⟨⟨_, HG0.out⟩, rfl⟩ ?_
              repeat (first
                | go_big_quiet_skip
                | (go_big_quiet_want; (go_big_quiet_op; first
                    | go_big_quiet_on
                    | (apply Exists.intro; refine ⟨fun x => ?_, ?_⟩; (first
                        | (go_at_call 36; exact x.call (HCx.out x))
                        ); go_big_quiet_on))))
              refine wpQuiet_nil ?_
              rintro w9 ⟨x, rfl⟩
              obtain ⟨w9, hx9⟩ := x
              dsimp only
              clear HG0 this
              have HW9 := hide (HWr.out.trans (hx9.mono HWr.out.size))
              have fl9 := HF.out w9 HW9.out
              clear flk flg hx9
              go_wp2_with fail
              go_ret
              exact ⟨by rw [e.out, ← wb]; rfl, HW9.out⟩
            · have dv : decide (c < mv) = true := decide_eq_true (by omega)
              have e : Hid (q = 0) := hide (HX.out.1 (.inr k2))
              clear k2 k1 HX
              go_wp2_with fail
              have HG0 := hide ((Below.refl wr.heap.size wr).drew)
              haveI : Nonempty (Gr wr) := ⟨⟨_, HG0.out⟩⟩
              refine region_class (C := fun w' => ∃ x : Gr wr, w' = x.1) (by kernel_rfl) (by kernel_rfl) ⟨⟨_, HG0.out⟩, rfl⟩ ?_
              repeat (first
                | go_big_quiet_skip
                | (go_big_quiet_want; (go_big_quiet_op; first
                    | go_big_quiet_on
                    | (apply Exists.intro; refine ⟨fun x => ?_, ?_⟩; (first
                        | (go_at_call 36; exact x.call (HCx.out x))
                        ); go_big_quiet_on))))
              refine wpQuiet_nil ?_
              rintro w9 ⟨x, rfl⟩
              obtain ⟨w9, hx9⟩ := x
              dsimp only
              clear HG0 this
              have HW9 := hide (HWr.out.trans (hx9.mono HWr.out.size))
              have fl9 := HF.out w9 HW9.out
              clear flk flg hx9
              go_wp2_with fail
              go_ret
              exact ⟨by rw [e.out]; rfl, HW9.out⟩
end Go.Proofs.YtmojckejjjlkjaaDoor
