/-
  My own text: the law PrioSorts.
-/
import Derived.Test.YtolmngjppnmkoaaSC1
import Derived.Test.YtolmngjppnmkoaaPB4
namespace Go.Proofs.Ytolmngjppnmkoaa.SG
open Go.RowKit

theorem filt_yes {L : List St} {t : Nat} {s : St} {c : Int} (h : L[t]? = some s) (hc : kL s = c) : (L.take (t + 1)).filter (fun y => kL y == c) = (L.take t).filter (fun y => kL y == c) ++ [s] := by
  rw [List.take_add_one, h, Option.toList_some, List.filter_append, List.filter_cons_of_pos (by simpa using hc)]; rfl
theorem filt_no {L : List St} {t : Nat} {s : St} {c : Int} (h : L[t]? = some s) (hc : kL s ≠ c) : (L.take (t + 1)).filter (fun y => kL y == c) = (L.take t).filter (fun y => kL y == c) := by
  rw [List.take_add_one, h, Option.toList_some, List.filter_append, List.filter_cons_of_neg (by simpa using hc)]; simp
theorem sorted_at {S : List St} (h : List.Pairwise (fun a b => kL a ≤ kL b) S) {t : Nat} {x y : St} (hx : S[t]? = some x) (hy : S[t - 1]? = some y) (ht : 0 < t) : ¬ x.length < y.length := by
  obtain ⟨h1, e1⟩ := List.getElem?_eq_some_iff.1 hx
  obtain ⟨h2, e2⟩ := List.getElem?_eq_some_iff.1 hy
  have := List.pairwise_iff_getElem.1 h (t - 1) t h2 h1 (by omega)
  rw [e1, e2] at this
  unfold kL at this
  omega
theorem take_len {α : Type} (p : α → Bool) (L : List α) (t : Nat) : ((L.take t).filter p).length ≤ L.length := Nat.le_trans (List.length_filter_le _ _) (by simp; omega)
/-- Two rows of texts that are made. -/
structure Cs (w wr : World) (vc vs : Value) (C D : List St) : Prop where
  bl : Below w.heap.size w wr
  oc : OS wr w.heap.size vc C
  od : OS wr w.heap.size vs D
  ap : ∀ q, vc.ownBlock = some q → vs.ownBlock ≠ some q
theorem Cs.step {w wr w' : World} {vc vs v' : Value} {C D C' : List St} {o : Obj} (h : Cs w wr vc vs C D) (r1 : OS w' w.heap.size v' C') (r2 : (wr.alloc o).grownBy w' vc.ownBlock) (r3 : ∀ g, v'.ownBlock = some g → vc.ownBlock = some g ∨ (wr.alloc o).heap.size ≤ g) : Cs w w' v' vs C' D := by
  have b := h.bl.alloc h.bl.size o
  have hs : (wr.alloc o).heap.size = wr.heap.size + 1 := by simp
  refine ⟨b.trans (below_gb r2 b.size (fun q hq => (h.oc.lt q hq).1)), r1, ?_, fun q e1 e2 => ?_⟩
  · refine owns_later h.od (fun g hg => ?_)
    have hg2 := (h.od.lt g hg).2
    exact (r2.block g (by omega) (fun e => h.ap g e.symm hg)).trans (Below.heap_alloc _ _ _ hg2)
  · rcases r3 q e1 with e | e
    · exact h.ap q e e2
    · have := (h.od.lt q e2).2; omega
theorem Cs.symm {w wr : World} {vc vs : Value} {C D : List St} (h : Cs w wr vc vs C D) : Cs w wr vs vc D C := ⟨h.bl, h.od, h.oc, fun q e1 e2 => h.ap q e2 e1⟩
theorem Cs.later {w wr w' : World} {vc vs : Value} {C D : List St} (h : Cs w wr vc vs C D) (hb : Below wr.heap.size wr w') : Cs w w' vc vs C D := ⟨h.bl.trans (hb.mono h.bl.size), h.oc.lat hb, h.od.lat hb, h.ap⟩
theorem OS.keepq {w w' : World} {B0 hb lb : Nat} {lf : FuncId} {k : St → Int} {v1 v1' : Value} {R : List En} {N : Nat} {B : Nat} {v : Value} {S : List St} (o : OS w B v S) (h : HQ w B0 hb lb lf k v1 R N) (f : Fq w w' hb v1 v1') : OS w' B v S := by
  refine owns_later o (fun g hg => ?_)
  rcases o.2 with ⟨q, _⟩ | ⟨g', cap', cur, q, _, hh, _⟩
  · rw [q] at hg; cases hg
  · rw [q] at hg; cases hg
    have q := h.ne hh (by decide) (by decide)
    exact f.block _ (blk_lt hh) q.1 q.2
/-- What stands of a row when some have come out. -/
def Ou (S : List St) (R : List En) (t n : Nat) : Prop := ∃ D, S = D ++ srt kL (n - t) R ∧ D.length = t ∧ R.length = n - t
theorem Ou.step {S : List St} {R : List En} {t n : Nat} (h : Ou S R t n) (ht : t < n) : ∃ x, mn kL (fun _ => true) R = some x ∧ S[t]? = some x.1 ∧ Ou S (er R x) (t + 1) n ∧ (er R x).length = n - t - 1 := by
  obtain ⟨D, h1, h2, h3⟩ := h
  obtain ⟨x, hx⟩ := mn_ex (k := kL) (R := R) (by omega)
  have he := er_length (mn_some hx).1
  have hm : n - t = (n - (t + 1)) + 1 := by omega
  rw [hm, srt_some hx] at h1
  refine ⟨x, hx, by rw [h1, List.getElem?_append_right (by omega), h2, Nat.sub_self]; rfl, ⟨D ++ [x.1], by rw [h1, List.append_assoc]; rfl, by simp [h2], by omega⟩, by omega⟩
/-- The state of the last loop. -/
structure Lp (w wr : World) (hb2 Bq Br n rc : Nat) (ra : Option Addr) (S : List St) (v1 v2 : Value) (R R' : List En) : Prop where
  tw : Two wr 30 kL w.heap.size (w.heap.size + 1) w.heap.size v1 R n Bq hb2 Bq v2 R' n
  os : OS wr Br (.slice ra n rc) S
  bl : Below w.heap.size w wr
theorem Lp.later {w wr w' : World} {hb2 Bq Br n rc : Nat} {ra : Option Addr} {S : List St} {v1 v2 : Value} {R R' : List En} (h : Lp w wr hb2 Bq Br n rc ra S v1 v2 R R') (hb : Below wr.heap.size wr w') : Lp w w' hb2 Bq Br n rc ra S v1 v2 R R' := ⟨h.tw.later hb, h.os.lat hb, h.bl.trans (hb.mono h.bl.size)⟩
theorem Lp.left {w wr w' : World} {hb2 Bq Br n rc : Nat} {ra : Option Addr} {S : List St} {v1 v1' v2 : Value} {R R' R1 : List En} (h : Lp w wr hb2 Bq Br n rc ra S v1 v2 R R') (hq : HQ w' w.heap.size (w.heap.size + 1) w.heap.size 30 kL v1' R1 n) (hf : Fq wr w' (w.heap.size + 1) v1 v1') : Lp w w' hb2 Bq Br n rc ra S v1' v2 R1 R' := ⟨h.tw.left hq hf, h.os.keepq h.tw.h hf, h.bl.trans (h.tw.h.below hf)⟩
theorem Lp.right {w wr w' : World} {hb2 Bq Br n rc : Nat} {ra : Option Addr} {S : List St} {v1 v2' v2 : Value} {R R' R1 : List En} (hB : w.heap.size ≤ Bq) (h : Lp w wr hb2 Bq Br n rc ra S v1 v2 R R') (hq : HQ w' Bq hb2 Bq 30 kL v2' R1 n) (hf : Fq wr w' hb2 v2 v2') : Lp w w' hb2 Bq Br n rc ra S v1 v2' R R1 := ⟨h.tw.right hq hf, h.os.keepq h.tw.g hf, h.bl.trans ((h.tw.g.below hf).mono hB)⟩
set_option maxRecDepth 100000 in
set_option maxHeartbeats 40000000 in
theorem prioSorts_law (v : Value) (L : List St) (w : World) (h : RT w v L) (hlen : L.length ≤ 1048576) :
    Calls Try.prog 5 #[v] w fun e w' => e = .returned (.bool true) ∧ Below w.heap.size w w' := by
  have HH := hide h
  have HLE := hide hlen
  obtain ⟨a, cap, rfl⟩ := h.slc
  obtain ⟨n, hn⟩ : ∃ n, Hid (L.length = n) := ⟨_, hide rfl⟩
  rw [hn.out] at HH ⊢
  have HNL : Hid (n ≤ 1048576) := hide (by rw [← hn.out]; exact hlen)
  have HN1 := hide (newQ 30 kL w)
  clear h hlen
  go_enter Try.func5, Try.ntmps5
  go_wp2_with fail
  refine HN1.out.mono ?_
  rintro e w1 ⟨rfl, h1, b1⟩
  have H1 := hide h1
  have B1 := hide b1
  have HN2 := hide (newQ 30 kL w1)
  clear h1 b1 HN1
  go_wp2_with fail
  refine HN2.out.mono ?_
  rintro e w2 ⟨rfl, h2, b2⟩
  have hlt1 : w.heap.size + 1 < w1.heap.size := by obtain ⟨cs, hc⟩ := H1.out.hdr; exact blk_lt hc
  have T2 : Hid (Two w2 30 kL w.heap.size (w.heap.size + 1) w.heap.size (.slice none 0 0) [] 0 w1.heap.size (w1.heap.size + 1) w1.heap.size (.slice none 0 0) [] 0) := hide ⟨H1.out.later b2, h2, by omega, fun q e => by cases e⟩
  have B2 := hide (B1.out.trans (b2.mono B1.out.size))
  have HWK := hide (works_any w2)
  have HSZ : Hid (w.heap.size ≤ w1.heap.size) := hide B1.out.size
  obtain ⟨hb2, hhb2⟩ : ∃ hb2, Hid (w1.heap.size + 1 = hb2) := ⟨_, hide rfl⟩
  obtain ⟨Bq, hBq⟩ : ∃ Bq, Hid (w1.heap.size = Bq) := ⟨_, hide rfl⟩
  clear h2 b2 HN2 hlt1 H1 B1
  rw [hhb2.out]
  rw [hhb2.out, hBq.out] at T2
  rw [hBq.out] at HSZ
  go_wp2_with fail
  refine HWK.out.mono ?_
  rintro e w3 ⟨rfl, b3⟩
  have T3 := hide (T2.out.later b3)
  have B3 := hide (B2.out.trans (b3.mono B2.out.size))
  clear b3 HWK T2 B2
  go_wp2_with fail
  go_loopw [5] (fun i wr => ∃ (t : Nat) (v1 v2 : Value), i = .int .i64 (t : Int) ∧ t ≤ n ∧ Hid (Two wr 30 kL w.heap.size (w.heap.size + 1) w.heap.size v1 (L.take t).zipIdx t Bq hb2 Bq v2 (L.take t).zipIdx t ∧ Below w.heap.size w wr)) (fun i _ => n - (intOf i).toNat)
  case atStart => exact ⟨0, _, _, rfl, by omega, hide ⟨T3.out, B3.out⟩⟩
  case round =>
    obtain ⟨t, v1, v2, rfl, ht, HR⟩ := hrel
    by_cases htn : t < n
    · have d1 : decide ((t : Int) < (n : Int)) = true := by rw [decide_eq_true_eq]; omega
      have k0 : (0 : Int) ≤ (t : Int) := by omega
      have k1 : (t : Int) < (n : Int) := by omega
      have wt : wrap64 ((t : Int) + 1) = (t : Int) + 1 := wrap_up htn (by have := HNL.out; omega)
      obtain ⟨s, hs⟩ : ∃ s, L[t]? = some s := ⟨_, List.getElem?_eq_getElem (by rw [hn.out]; exact htn)⟩
      have HS := hide hs
      obtain ⟨_, _, ev, hcv⟩ := HH.out.later HR.out.2
      injection ev with ev en ec
      clear en ec
      obtain ⟨bv, ov, ha, hbv, hv⟩ := hcv.resolve_left (fun e => by rw [e] at hs; simp at hs)
      rw [ha] at ev
      subst ev
      have x0 := hv t s hs
      have X0 := hide x0
      have HC1 := hide (pushQ shorter_ok s HR.out.1.h (by have := HNL.out; omega))
      unfold pv at HC1
      clear hs hv hcv hbv
      go_wp2_with fail
      refine HC1.out.mono ?_
      rintro e w4 ⟨⟨u, rfl⟩, v1', q1, f1⟩
      have T4 := HR.out.1.left q1 f1
      have b4 := HR.out.2.trans (HR.out.1.h.below f1)
      have X4 : Hid (w4.cell? ⟨bv, ov + t, none⟩ = some (.string ⟨s.toArray⟩)) := hide (by
        obtain ⟨_, _, ev, hcv⟩ := HH.out.later b4
        injection ev with ev
        obtain ⟨bv', ov', ha', _, hv'⟩ := hcv.resolve_left (fun e => by have := HS.out; rw [e] at this; simp at this)
        rw [ha'] at ev; injection ev with ev; injection ev with e1 e2; subst e1 e2
        exact hv' t s HS.out)
      have x4 := X4.out
      have HC2 := hide (pushQ shorter_ok s T4.g (by have := HNL.out; omega))
      have HT4 := hide T4
      have HB4 := hide b4
      unfold pv at HC2
      clear q1 f1 T4 b4 HC1 x0
      go_wp2_with fail
      refine HC2.out.mono ?_
      rintro e w5 ⟨⟨u, rfl⟩, v2', q2, f2⟩
      have HN5 : Hid (Two w5 30 kL w.heap.size (w.heap.size + 1) w.heap.size v1' (L.take (t + 1)).zipIdx (t + 1) Bq hb2 Bq v2' (L.take (t + 1)).zipIdx (t + 1) ∧ Below w.heap.size w w5) := hide ⟨by
        have := HT4.out.right q2 f2
        rw [zip_snoc HS.out] at this; exact this, HB4.out.trans ((HT4.out.g.below f2).mono HSZ.out)⟩
      clear q2 f2 HC2 x4
      go_wp2_with fail
      go_roundw
      case rel => exact ⟨t + 1, _, _, by first | rfl | (rw [wt]; rfl), htn, HN5⟩
      case measure => first | exact meas_lt htn | (rw [wt]; exact meas_lt htn)
    · have d1 : decide ((t : Int) < (n : Int)) = false := by rw [decide_eq_false_iff_not]; omega
      have htt : t = n := by omega
      have hR0 : (L.take t).zipIdx = L.zipIdx := by rw [List.take_of_length_le (by rw [hn.out]; omega)]
      have hT := HR.out.1
      rw [hR0] at hT
      have HT6 := hide hT
      have HB6 := hide HR.out.2
      have hzl : (L.zipIdx).length = n := by rw [List.length_zipIdx]; exact hn.out
      have HST := hide (sortedQ shorter_ok hT.h (by have := HNL.out; omega))
      rw [hzl] at HST
      obtain ⟨S, hS⟩ : ∃ S, Hid (srt kL n L.zipIdx = S) := ⟨_, hide rfl⟩
      rw [hS.out] at HST
      have HSL : Hid (S.length = n) := hide (by rw [← hS.out]; exact srt_len n _ hzl)
      have HSS : Hid (List.Pairwise (fun a b => kL a ≤ kL b) S) := hide (by rw [← hS.out]; exact srt_sorted n _)
      have HSF : Hid (∀ c : Int, L.filter (fun y => kL y == c) = S.filter (fun y => kL y == c)) := hide (fun c => by rw [← hS.out, srt_filter c n _ hzl (Rs.zip L 0), zip_filter])
      have HZL := hide hzl
      have HTT := hide htt
      clear hR0 hT hzl htt HR
      go_wp2_with fail
      refine HST.out.mono ?_
      rintro e w6 ⟨vr, rfl, o6, b6⟩
      have T6 := hide (HT6.out.later b6)
      have BB6 := hide (HB6.out.trans (b6.mono HB6.out.size))
      have HL6 := hide (lenQ T6.out.h)
      rw [HZL.out] at HL6
      have O6 := hide o6
      obtain ⟨ra, rc, hvr⟩ := o6.rt.slc
      rw [HSL.out] at hvr
      subst hvr
      have HSB : Hid (w.heap.size ≤ wr.heap.size) := hide HB6.out.size
      obtain ⟨Br, hBr⟩ : ∃ Br, Hid (wr.heap.size = Br) := ⟨_, hide rfl⟩
      rw [hBr.out] at O6 HSB
      clear o6 b6 HST HT6 HB6
      go_wp2_with fail
      refine HL6.out.mono ?_
      rintro e w7 ⟨rfl, rfl⟩
      clear HL6
      go_wp2_with fail
      go_loopw [7] (fun i wr => ∃ t : Nat, i = .int .i64 (t : Int) ∧ 1 ≤ t ∧ t ≤ n + 1 ∧ Hid (Below w7.heap.size w7 wr)) (fun i _ => n - (intOf i).toNat)
      case atStart => exact ⟨1, rfl, by omega, by omega, hide (Below.refl _ _)⟩
      case round =>
        obtain ⟨t, rfl, ht1, ht, HR⟩ := hrel
        by_cases htn : t < n
        · have d1 : decide ((t : Int) < (n : Int)) = true := by rw [decide_eq_true_eq]; omega
          have k0 : (0 : Int) ≤ (t : Int) := by omega
          have k1 : (t : Int) < (n : Int) := by omega
          have wt : wrap64 ((t : Int) + 1) = (t : Int) + 1 := wrap_up htn (by have := HNL.out; omega)
          obtain ⟨u, hu⟩ : ∃ u : Nat, Hid (u = t - 1) := ⟨_, hide rfl⟩
          have wu : wrap64 ((t : Int) - 1) = (u : Int) := by have := hu.out; have := HNL.out; unfold wrap64; omega
          have wu' : IntKind.i64.wrap ((t : Int) - 1) = (u : Int) := by rw [IntKind.wrap_i64]; unfold wrap64 at wu; exact wu
          have k2 : (0 : Int) ≤ (u : Int) := by omega
          have k3 : (u : Int) < (n : Int) := by have := hu.out; omega
          obtain ⟨x, hx⟩ : ∃ x, S[t]? = some x := ⟨_, List.getElem?_eq_getElem (by rw [HSL.out]; exact htn)⟩
          obtain ⟨y, hy⟩ : ∃ y, S[u]? = some y := ⟨_, List.getElem?_eq_getElem (by rw [HSL.out]; have := hu.out; omega)⟩
          have hno := sorted_at HSS.out hx (by rw [← hu.out]; exact hy) (by omega)
          obtain ⟨g, hag⟩ : ∃ g, ra = some ⟨g, 0, none⟩ := by
            rcases O6.out.2 with ⟨e, _⟩ | ⟨g, _, _, e, _⟩
            · injection e with _ e; omega
            · injection e with e; exact ⟨g, e⟩
          subst hag
          have o8 := O6.out.lat HR.out
          have gl : g < wr.heap.size := (o8.lt g rfl).2
          have x0 : ∀ X : Gr wr, X.1.cell? ⟨g, t, none⟩ = some (.string ⟨x.toArray⟩) := fun X => (X.2.cell (p := ⟨g, t, none⟩) gl).trans (OS.cell o8 hx)
          have y0 : ∀ X : Gr wr, X.1.cell? ⟨g, u, none⟩ = some (.string ⟨y.toArray⟩) := fun X => (X.2.cell (p := ⟨g, u, none⟩) gl).trans (OS.cell o8 hy)
          have HA := hide (fun X : Gr wr => shorter_ok.tells x y X.1)
          have hdf : decide (kL x < kL y) = false := by rw [decide_eq_false_iff_not]; unfold kL; omega
          rw [hdf] at HA
          unfold pv at HA
          have HG0 := hide (drew_below (B := wr.heap.size) (w := wr))
          have hne : Nonempty (Gr wr) := ⟨⟨_, HG0.out⟩⟩
          clear hx hy hno o8 gl hdf
          go_wp2_with fail
          refine region_class (C := fun w' => ∃ x : Gr wr, w' = x.1) (by kernel_rfl) (by kernel_rfl) ⟨⟨_, HG0.out⟩, rfl⟩ ?_
          repeat (first
            | go_big_quiet_skip
            | (go_big_quiet_want; (go_big_quiet_op; first
                | go_big_quiet_on
                | (apply Exists.intro; refine ⟨fun X => ?_, ?_⟩; (go_at_call 30; exact X.call (HA.out X)); go_big_quiet_on))))
          refine wpQuiet_nil ?_
          rintro w9 ⟨X, rfl⟩
          obtain ⟨w9, hx9⟩ := X
          dsimp only
          have H9 := hide (HR.out.trans (hx9.mono HR.out.size))
          clear x0 y0 hne hx9 HG0 HA wu wu'
          go_wp2_with fail
          go_roundw
          case rel => exact ⟨t + 1, by first | rfl | (rw [wt]; rfl), by omega, by omega, H9⟩
          case measure => first | exact meas_lt htn | (rw [wt]; exact meas_lt htn)
        · have d1 : decide ((t : Int) < (n : Int)) = false := by rw [decide_eq_false_iff_not]; omega
          have HB8 := hide HR.out
          have T8 := hide (T6.out.later HR.out)
          have O8 := hide (O6.out.lat HR.out)
          have BB8 := hide (BB6.out.trans (HR.out.mono BB6.out.size))
          clear T6 O6 BB6 HR
          go_wp2_with fail
          obtain ⟨w8, rfl⟩ : ∃ w8, w8 = wr := ⟨wr, rfl⟩
          go_loopw [8] (fun i wr => ∃ t : Nat, i = .int .i64 (t : Int) ∧ t ≤ n ∧ Hid (Below w8.heap.size w8 wr)) (fun i _ => n - (intOf i).toNat)
          case atStart => exact ⟨0, rfl, by omega, hide (Below.refl _ _)⟩
          case round =>
            obtain ⟨w9, rfl⟩ : ∃ w9, w9 = wr := ⟨wr, rfl⟩
            obtain ⟨t, rfl, ht, HR⟩ := hrel
            by_cases htn : t < n
            · have d1 : decide ((t : Int) < (n : Int)) = true := by rw [decide_eq_true_eq]; omega
              have k0 : (0 : Int) ≤ (t : Int) := by omega
              have k1 : (t : Int) < (n : Int) := by omega
              have wt : wrap64 ((t : Int) + 1) = (t : Int) + 1 := wrap_up htn (by have := HNL.out; omega)
              obtain ⟨s, hs⟩ : ∃ s, L[t]? = some s := ⟨_, List.getElem?_eq_getElem (by rw [hn.out]; exact htn)⟩
              have HS := hide hs
              have BB9 := hide (BB8.out.trans (HR.out.mono BB8.out.size))
              have O9 := hide (O8.out.lat HR.out)
              obtain ⟨_, _, ev, hcv⟩ := HH.out
              injection ev with ev en ec
              clear en ec
              obtain ⟨bv, ov, ha, hbv, hv⟩ := hcv.resolve_left (fun e => by rw [e] at hs; simp at hs)
              rw [ha] at ev
              subst ev
              have HLA : Hid (∀ W : World, Below w.heap.size w W → ∀ j s, L[j]? = some s → W.cell? ⟨bv, ov + j, none⟩ = some (.string ⟨s.toArray⟩)) := hide (fun W hb j s hj => (hb.cell (p := ⟨bv, _, none⟩) hbv).trans (hv j s hj))
              obtain ⟨g, hag⟩ : ∃ g, ra = some ⟨g, 0, none⟩ := by
                rcases O8.out.2 with ⟨_, e⟩ | ⟨g, _, _, e, _⟩
                · rw [HSL.out] at e; omega
                · injection e with e; exact ⟨g, e⟩
              subst hag
              have H40 : Hid (Cs w9 w9 (.slice none 0 0) (.slice none 0 0) ((L.take 0).filter (fun y => kL y == kL s)) ((S.take 0).filter (fun y => kL y == kL s))) := hide ⟨Below.refl _ _, World.ownsRow_nil _ _ _ 1, World.ownsRow_nil _ _ _ 1, fun q e => by cases e⟩
              clear hs hv hcv hbv
              go_wp2_with fail
              go_loopw [9, 10, 11] (fun vc vs j wr => ∃ u : Nat, j = .int .i64 (u : Int) ∧ u ≤ n ∧ Hid (Cs w9 wr vc vs ((L.take u).filter (fun y => kL y == kL s)) ((S.take u).filter (fun y => kL y == kL s)))) (fun _ _ j _ => n - (intOf j).toNat)
              case atStart => exact ⟨0, rfl, by omega, H40⟩
              case round =>
                obtain ⟨u, rfl, hu, HR4⟩ := hrel
                by_cases hun : u < n
                · have e1 : decide ((u : Int) < (n : Int)) = true := by rw [decide_eq_true_eq]; omega
                  have j0 : (0 : Int) ≤ (u : Int) := by omega
                  have j1 : (u : Int) < (n : Int) := by omega
                  have wu : wrap64 ((u : Int) + 1) = (u : Int) + 1 := wrap_up hun (by have := HNL.out; omega)
                  obtain ⟨x, hx⟩ : ∃ x, L[u]? = some x := ⟨_, List.getElem?_eq_getElem (by rw [hn.out]; exact hun)⟩
                  obtain ⟨y, hy⟩ : ∃ y, S[u]? = some y := ⟨_, List.getElem?_eq_getElem (by rw [HSL.out]; exact hun)⟩
                  have HX := hide hx
                  have HY := hide hy
                  clear hx hy
                  have x0 : wr.cell? ⟨bv, ov + u, none⟩ = some (.string ⟨x.toArray⟩) := HLA.out wr (BB9.out.trans (HR4.out.bl.mono BB9.out.size)) u x HX.out
                  have z1 : wr.cell? ⟨bv, ov + t, none⟩ = some (.string ⟨s.toArray⟩) := HLA.out wr (BB9.out.trans (HR4.out.bl.mono BB9.out.size)) t s HS.out
                  by_cases hxc : kL x = kL s
                  · have HXC := hide (filt_yes HX.out hxc)
                    have c1x : ((x.length : Int) == (s.length : Int)) = true := by rw [beq_iff_eq]; unfold kL at hxc; exact hxc
                    have c2x : (x.length == s.length) = true := by rw [beq_iff_eq]; unfold kL at hxc; omega
                    have c3x : decide (x.length = s.length) = true := by rw [decide_eq_true_eq]; unfold kL at hxc; omega
                    clear hxc
                    go_wp2_with fail
                    go_quiet (fail)
                    have HC1 := hide (HR4.out.later (below_dq (Below.refl _ _) nq))
                    obtain ⟨Wk, hWk⟩ : ∃ Wk, wr.drewN nq = Wk := ⟨_, rfl⟩
                    rw [hWk] at HC1 ⊢
                    clear hWk x0 z1
                    have x0 : Wk.cell? ⟨bv, ov + u, none⟩ = some (.string ⟨x.toArray⟩) := HLA.out Wk (BB9.out.trans (HC1.out.bl.mono BB9.out.size)) u x HX.out
                    have HOC := hide (World.ownsRow.alloc HC1.out.oc (.cells #[.string ⟨x.toArray⟩] 9))
                    have HNC := hide (alloc_new Wk (.cells #[.string ⟨x.toArray⟩] 9))
                    have HLC : Hid (((L.take u).filter (fun y => kL y == kL s)).length + 1 ≤ 8796093022208) := hide (by have := take_len (fun y => kL y == kL s) L u; have := HLE.out; omega)
                    have HBC : Hid (w9.heap.size ≤ (Wk.alloc (.cells #[.string ⟨x.toArray⟩] 9)).heap.size) := hide (by have := HC1.out.bl.size; simp; omega)
                    go_wp2_with (at_builtin; refine wp_append_st (Wk.alloc (.cells #[.string ⟨x.toArray⟩] 9)) w9.heap.size rfl _ _ rfl _ _ rfl HOC.out Wk.heap.size x rfl HNC.out HLC.out HBC.out ?_)
                    intro v' w11 r1 r2 r3
                    have HC3 := HC1.out.step r1 r2 (fun q hq => (r3 q hq).elim .inl (fun q' => .inr (by first | exact q' | (simp; omega))))
                    rw [← HXC.out] at HC3
                    have HC := hide HC3
                    clear r1 r2 r3 HC3 x0 HOC HNC HLC HBC HC1 c1x c2x c3x
                    have z0 : w11.cell? ⟨g, u, none⟩ = some (.string ⟨y.toArray⟩) := OS.cell (O9.out.lat HC.out.bl) HY.out
                    have z1 : w11.cell? ⟨bv, ov + t, none⟩ = some (.string ⟨s.toArray⟩) := HLA.out w11 (BB9.out.trans (HC.out.bl.mono BB9.out.size)) t s HS.out
                    by_cases hyc : kL y = kL s
                    · have HYC := hide (filt_yes HY.out hyc)
                      have c1y : ((y.length : Int) == (s.length : Int)) = true := by rw [beq_iff_eq]; unfold kL at hyc; exact hyc
                      have c2y : (y.length == s.length) = true := by rw [beq_iff_eq]; unfold kL at hyc; omega
                      have c3y : decide (y.length = s.length) = true := by rw [decide_eq_true_eq]; unfold kL at hyc; omega
                      clear hyc
                      go_wp2_with fail
                      go_quiet (fail)
                      have HC2 := hide (HC.out.later (below_dq (Below.refl _ _) nq))
                      obtain ⟨Wm, hWm⟩ : ∃ Wm, w11.drewN nq = Wm := ⟨_, rfl⟩
                      rw [hWm] at HC2 ⊢
                      clear hWm HC z0 z1
                      have z0 : Wm.cell? ⟨g, u, none⟩ = some (.string ⟨y.toArray⟩) := OS.cell (O9.out.lat HC2.out.bl) HY.out
                      have HOD := hide (World.ownsRow.alloc HC2.out.od (.cells #[.string ⟨y.toArray⟩] 9))
                      have HND := hide (alloc_new Wm (.cells #[.string ⟨y.toArray⟩] 9))
                      have HLD : Hid (((S.take u).filter (fun y => kL y == kL s)).length + 1 ≤ 8796093022208) := hide (by have := take_len (fun y => kL y == kL s) S u; have := HSL.out; have := HNL.out; omega)
                      have HBD : Hid (w9.heap.size ≤ (Wm.alloc (.cells #[.string ⟨y.toArray⟩] 9)).heap.size) := hide (by have := HC2.out.bl.size; simp; omega)
                      go_wp2_with (at_builtin; refine wp_append_st (Wm.alloc (.cells #[.string ⟨y.toArray⟩] 9)) w9.heap.size rfl _ _ rfl _ _ rfl HOD.out Wm.heap.size y rfl HND.out HLD.out HBD.out ?_)
                      intro v' w12 r1 r2 r3
                      have HC3 := (HC2.out.symm.step r1 r2 (fun q hq => (r3 q hq).elim .inl (fun q' => .inr (by first | exact q' | (simp; omega))))).symm
                      rw [← HYC.out] at HC3
                      have HF := hide HC3
                      clear r1 r2 r3 HC3 z0
                      go_wp2_with fail
                      go_roundw
                      case rel => exact ⟨u + 1, by first | rfl | (rw [wu]; rfl), hun, HF⟩
                      case measure => first | exact meas_lt hun | (rw [wu]; exact meas_lt hun)
                    · have HYC := hide (filt_no HY.out hyc)
                      have c1y : ((y.length : Int) == (s.length : Int)) = false := by rw [beq_eq_false_iff_ne]; unfold kL at hyc; exact hyc
                      have c2y : (y.length == s.length) = false := by rw [beq_eq_false_iff_ne]; unfold kL at hyc; omega
                      have c3y : decide (y.length = s.length) = false := by rw [decide_eq_false_iff_not]; unfold kL at hyc; omega
                      have c4y : ¬ y.length = s.length := by unfold kL at hyc; omega
                      clear hyc
                      go_wp2_with fail
                      go_quiet (fail)
                      have HC2 := HC.out.later (below_dq (Below.refl _ _) nq)
                      rw [← HYC.out] at HC2
                      have HF := hide HC2
                      clear HC2 z0 z1
                      go_wp2_with fail
                      go_roundw
                      case rel => exact ⟨u + 1, by first | rfl | (rw [wu]; rfl), hun, HF⟩
                      case measure => first | exact meas_lt hun | (rw [wu]; exact meas_lt hun)
                  · have HXC := hide (filt_no HX.out hxc)
                    have c1x : ((x.length : Int) == (s.length : Int)) = false := by rw [beq_eq_false_iff_ne]; unfold kL at hxc; exact hxc
                    have c2x : (x.length == s.length) = false := by rw [beq_eq_false_iff_ne]; unfold kL at hxc; omega
                    have c3x : decide (x.length = s.length) = false := by rw [decide_eq_false_iff_not]; unfold kL at hxc; omega
                    have c4x : ¬ x.length = s.length := by unfold kL at hxc; omega
                    clear hxc
                    go_wp2_with fail
                    go_quiet (fail)
                    have HC3 := HR4.out.later (below_dq (Below.refl _ _) nq)
                    obtain ⟨w11, hW11⟩ : ∃ w11, wr.drewN nq = w11 := ⟨_, rfl⟩
                    rw [hW11] at HC3 ⊢
                    rw [← HXC.out] at HC3
                    have HC := hide HC3
                    clear HC3 hW11 x0 z1 c1x c2x c3x c4x
                    have z0 : w11.cell? ⟨g, u, none⟩ = some (.string ⟨y.toArray⟩) := OS.cell (O9.out.lat HC.out.bl) HY.out
                    have z1 : w11.cell? ⟨bv, ov + t, none⟩ = some (.string ⟨s.toArray⟩) := HLA.out w11 (BB9.out.trans (HC.out.bl.mono BB9.out.size)) t s HS.out
                    by_cases hyc : kL y = kL s
                    · have HYC := hide (filt_yes HY.out hyc)
                      have c1y : ((y.length : Int) == (s.length : Int)) = true := by rw [beq_iff_eq]; unfold kL at hyc; exact hyc
                      have c2y : (y.length == s.length) = true := by rw [beq_iff_eq]; unfold kL at hyc; omega
                      have c3y : decide (y.length = s.length) = true := by rw [decide_eq_true_eq]; unfold kL at hyc; omega
                      clear hyc
                      go_wp2_with fail
                      go_quiet (fail)
                      have HC2 := hide (HC.out.later (below_dq (Below.refl _ _) nq))
                      obtain ⟨Wm, hWm⟩ : ∃ Wm, w11.drewN nq = Wm := ⟨_, rfl⟩
                      rw [hWm] at HC2 ⊢
                      clear hWm HC z0 z1
                      have z0 : Wm.cell? ⟨g, u, none⟩ = some (.string ⟨y.toArray⟩) := OS.cell (O9.out.lat HC2.out.bl) HY.out
                      have HOD := hide (World.ownsRow.alloc HC2.out.od (.cells #[.string ⟨y.toArray⟩] 9))
                      have HND := hide (alloc_new Wm (.cells #[.string ⟨y.toArray⟩] 9))
                      have HLD : Hid (((S.take u).filter (fun y => kL y == kL s)).length + 1 ≤ 8796093022208) := hide (by have := take_len (fun y => kL y == kL s) S u; have := HSL.out; have := HNL.out; omega)
                      have HBD : Hid (w9.heap.size ≤ (Wm.alloc (.cells #[.string ⟨y.toArray⟩] 9)).heap.size) := hide (by have := HC2.out.bl.size; simp; omega)
                      go_wp2_with (at_builtin; refine wp_append_st (Wm.alloc (.cells #[.string ⟨y.toArray⟩] 9)) w9.heap.size rfl _ _ rfl _ _ rfl HOD.out Wm.heap.size y rfl HND.out HLD.out HBD.out ?_)
                      intro v' w12 r1 r2 r3
                      have HC3 := (HC2.out.symm.step r1 r2 (fun q hq => (r3 q hq).elim .inl (fun q' => .inr (by first | exact q' | (simp; omega))))).symm
                      rw [← HYC.out] at HC3
                      have HF := hide HC3
                      clear r1 r2 r3 HC3 z0
                      go_wp2_with fail
                      go_roundw
                      case rel => exact ⟨u + 1, by first | rfl | (rw [wu]; rfl), hun, HF⟩
                      case measure => first | exact meas_lt hun | (rw [wu]; exact meas_lt hun)
                    · have HYC := hide (filt_no HY.out hyc)
                      have c1y : ((y.length : Int) == (s.length : Int)) = false := by rw [beq_eq_false_iff_ne]; unfold kL at hyc; exact hyc
                      have c2y : (y.length == s.length) = false := by rw [beq_eq_false_iff_ne]; unfold kL at hyc; omega
                      have c3y : decide (y.length = s.length) = false := by rw [decide_eq_false_iff_not]; unfold kL at hyc; omega
                      have c4y : ¬ y.length = s.length := by unfold kL at hyc; omega
                      clear hyc
                      go_wp2_with fail
                      go_quiet (fail)
                      have HC2 := HC.out.later (below_dq (Below.refl _ _) nq)
                      rw [← HYC.out] at HC2
                      have HF := hide HC2
                      clear HC2 z0 z1
                      go_wp2_with fail
                      go_roundw
                      case rel => exact ⟨u + 1, by first | rfl | (rw [wu]; rfl), hun, HF⟩
                      case measure => first | exact meas_lt hun | (rw [wu]; exact meas_lt hun)
                · have e1 : decide ((u : Int) < (n : Int)) = false := by rw [decide_eq_false_iff_not]; omega
                  have huu : u = n := by omega
                  have hC := HR4.out
                  rw [List.take_of_length_le (by rw [hn.out]; omega), List.take_of_length_le (by rw [HSL.out]; omega), ← HSF.out (kL s)] at hC
                  have HSM := hide (sameT_any _ _ _ wr hC.oc.rt hC.od.rt (by have := List.length_filter_le (fun y => kL y == kL s) L; have := HLE.out; omega))
                  have HBX := hide hC.bl
                  clear hC huu
                  go_wp2_with fail
                  refine HSM.out.mono ?_
                  rintro e w10 ⟨rfl, b10⟩
                  have H10 := hide (HR.out.trans ((HBX.out.trans (b10.mono HBX.out.size)).mono HR.out.size))
                  clear b10 HSM HBX
                  go_wp2_with fail
                  go_roundw
                  case rel => exact ⟨t + 1, by first | rfl | (rw [wt]; rfl), htn, H10⟩
                  case measure => first | exact meas_lt htn | (rw [wt]; exact meas_lt htn)
            · have d1 : decide ((t : Int) < (n : Int)) = false := by rw [decide_eq_false_iff_not]; omega
              have T9 := hide (T8.out.later HR.out)
              have O9 := hide (O8.out.lat HR.out)
              have BB9 := hide (BB8.out.trans (HR.out.mono BB8.out.size))
              clear T8 O8 BB8 HR
              go_wp2_with fail
              have HO0 : Hid (Ou S L.zipIdx 0 n) := hide ⟨[], by rw [← hS.out]; rfl, rfl, HZL.out⟩
              have HI0 := T9.out
              rw [HTT.out] at HI0
              have HL0 : Hid (Lp w w9 hb2 Bq Br n rc ra S v1 v2 L.zipIdx L.zipIdx) := hide ⟨HI0, O9.out, BB9.out⟩
              clear HI0 T9 O9 BB9
              go_loopw [12] (fun i wr => ∃ (t : Nat) (v1 v2 : Value) (R : List En), i = .int .i64 (t : Int) ∧ t ≤ n ∧ Hid (Ou S R t n) ∧ Hid (Lp w wr hb2 Bq Br n rc ra S v1 v2 R R)) (fun i _ => n - (intOf i).toNat)
              case atStart => exact ⟨0, _, _, _, rfl, by omega, HO0, HL0⟩
              case round =>
                obtain ⟨t, v1, v2, R, rfl, ht, HO, HR⟩ := hrel
                by_cases htn : t < n
                · have d1 : decide ((t : Int) < (n : Int)) = true := by rw [decide_eq_true_eq]; omega
                  have k0 : (0 : Int) ≤ (t : Int) := by omega
                  have k1 : (t : Int) < (n : Int) := by omega
                  have wt : wrap64 ((t : Int) + 1) = (t : Int) + 1 := wrap_up htn (by have := HNL.out; omega)
                  obtain ⟨x, hx, hSx, hO1, hel⟩ := HO.out.step htn
                  have HSX := hide hSx
                  have HO1 := hide hO1
                  have HEL := hide hel
                  have HMX := hide hx
                  clear hx hSx hO1 hel
                  obtain ⟨g, hag⟩ : ∃ g, ra = some ⟨g, 0, none⟩ := by
                    rcases HR.out.os.2 with ⟨_, e⟩ | ⟨g, _, _, e, _⟩
                    · have := HSL.out; omega
                    · injection e with e; exact ⟨g, e⟩
                  subst hag
                  have HK := hide (peekQ HR.out.tw.h)
                  rw [HMX.out] at HK
                  unfold pv ans at HK
                  go_wp2_with fail
                  refine HK.out.mono ?_
                  rintro e w10 ⟨rfl, b10⟩
                  have HR1 := hide (HR.out.later b10)
                  clear b10 HK HR
                  have HK := hide (popQ shorter_ok HR1.out.tw.h (by have := HNL.out; omega))
                  rw [HMX.out] at HK
                  unfold pv ans nx at HK
                  go_wp2_with fail
                  refine HK.out.mono ?_
                  rintro e w11 ⟨rfl, v1', q1, f1⟩
                  have HR2 := hide (HR1.out.left q1 f1)
                  clear q1 f1 HK HR1
                  have HK := hide (removeQ shorter_ok (every_ok w11) HR2.out.tw.g (by have := HNL.out; omega))
                  rw [HMX.out] at HK
                  unfold pv ans nx at HK
                  go_wp2_with fail
                  refine HK.out.mono ?_
                  rintro e w12 ⟨rfl, v2', q2, f2⟩
                  have HR3 := hide (HR2.out.right HSZ.out q2 f2)
                  clear q2 f2 HK HR2
                  have x0 : w12.cell? ⟨g, t, none⟩ = some (.string ⟨x.1.toArray⟩) := OS.cell HR3.out.os HSX.out
                  have HLH := hide (lenQ HR3.out.tw.h)
                  have HLG := hide (lenQ HR3.out.tw.g)
                  rw [HEL.out] at HLH HLG
                  have wn : wrap64 ((n : Int) - (t : Int)) = ((n - t : Nat) : Int) := by have := HNL.out; unfold wrap64; omega
                  have wn2 : wrap64 (((n - t : Nat) : Int) - 1) = ((n - t - 1 : Nat) : Int) := by have := HNL.out; unfold wrap64; omega
                  go_wp2_with fail
                  refine HLH.out.mono ?_
                  rintro e w13 ⟨rfl, rfl⟩
                  go_wp2_with fail
                  refine HLG.out.mono ?_
                  rintro e w14 ⟨rfl, rfl⟩
                  go_wp2_with fail
                  refine HLH.out.mono ?_
                  rintro e w15 ⟨rfl, rfl⟩
                  go_wp2_with fail
                  go_roundw
                  case rel => exact ⟨t + 1, _, _, _, by first | rfl | (rw [wt]; rfl), htn, HO1, HR3⟩
                  case measure => first | exact meas_lt htn | (rw [wt]; exact meas_lt htn)
                · have d1 : decide ((t : Int) < (n : Int)) = false := by rw [decide_eq_false_iff_not]; omega
                  have hR : R = [] := by
                    obtain ⟨D, _, _, h3⟩ := HO.out
                    exact List.length_eq_zero_iff.1 (by omega)
                  subst hR
                  have HM0 : Hid (mn kL (fun _ => true) ([] : List En) = none) := hide (mn_none.2 (fun e he => by cases he))
                  have HK := hide (popQ shorter_ok HR.out.tw.h (by have := HNL.out; omega))
                  rw [HM0.out] at HK
                  unfold pv ans nx at HK
                  go_wp2_with fail
                  refine HK.out.mono ?_
                  rintro e w11 ⟨rfl, v1', q1, f1⟩
                  have HR2 := hide (HR.out.left q1 f1)
                  clear q1 f1 HK HR
                  have HK := hide (removeQ shorter_ok (every_ok w11) HR2.out.tw.g (by have := HNL.out; omega))
                  rw [HM0.out] at HK
                  unfold pv ans nx at HK
                  go_wp2_with fail
                  refine HK.out.mono ?_
                  rintro e w12 ⟨rfl, v2', q2, f2⟩
                  have HR3 := hide (HR2.out.right HSZ.out q2 f2)
                  clear q2 f2 HK HR2
                  have HK := hide (peekQ HR3.out.tw.h)
                  rw [HM0.out] at HK
                  unfold pv ans at HK
                  go_wp2_with fail
                  refine HK.out.mono ?_
                  rintro e w13 ⟨rfl, b13⟩
                  have HR4 := hide (HR3.out.later b13)
                  clear b13 HK HR3
                  have HK := hide (sortedQ shorter_ok HR4.out.tw.h (by have := HNL.out; omega))
                  go_wp2_with fail
                  refine HK.out.mono ?_
                  rintro e w14 ⟨vz, rfl, oz, bz⟩
                  obtain ⟨za, zc, hvz⟩ := oz.rt.slc
                  rw [show (srt kL ([] : List En).length []).length = 0 from srt_len 0 [] rfl] at hvz
                  subst hvz
                  have HFI := hide (HR4.out.bl.trans (bz.mono HR4.out.bl.size))
                  clear oz bz HK
                  go_wp2_with fail
                  go_ret
                  exact ⟨rfl, HFI.out⟩
end Go.Proofs.Ytolmngjppnmkoaa.SG
