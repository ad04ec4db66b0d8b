/-
  My own text: any call of a store; are all keys seen alike in two stores?
-/
import Derived.Test.YtnjjehlfgoggfaaDoorSN11
import Derived.Test.YtnjjehlfgoggfaaDoorSM5
namespace Go.Proofs.YtnjjehlfgoggfaaDoor
open Go.RowKit Go.Extern Go.MapKept Go.ChangeMaps

theorem ask_any (d : Cl) (B sb n kk : Nat) (X : Sx) (F : Nat → Prop) (w : World) (HE : Hid (∀ w', Below B w w' → ErrType w')) (h : SO B w sb n X kk F) (hk : KOK d.k) (hI : IOK d.N) (hN : d.N ≤ 9223372036854775807) (hl : kk ≤ 5864062014803) :
    Calls Tryd.prog 9 #[.pointer (some ⟨sb, 0, none⟩), .agg (clc d)] w fun e w' => (∃ s x b, e = .returned (.agg #[.string s, .int .i64 x, .bool b]) ∧ (d.kind = 0 → s = ⟨#[]⟩ ∧ x = peR d.N (X.K d.k) ∧ b = true)) ∧ SO B w' sb n (X.ask d) (kk + 1) (gw F w w') ∧ FB w w' F (gw F w w') := by
  obtain ⟨on, kind, k, N, V⟩ := d
  unfold clc Sx.ask
  dsimp only at hk hI hN ⊢
  by_cases h0 : kind = 0
  · subst h0
    refine (ask_put on k N V B sb n kk X F w HE h hk hN hl).mono ?_
    rintro e w' ⟨rfl, r⟩
    exact ⟨⟨_, _, _, rfl, fun _ => ⟨rfl, rfl, rfl⟩⟩, by rw [if_pos rfl]; exact r⟩
  rw [if_neg h0]
  by_cases h1 : kind = 1
  · subst h1
    refine (ask_at on k N V B sb n kk X F w h hk hl).mono ?_
    rintro e w' ⟨⟨s, x, b, rfl⟩, r⟩
    exact ⟨⟨_, _, _, rfl, fun e => absurd e h0⟩, by rw [if_neg (by decide), if_neg (by decide), if_neg (by decide)]; exact r⟩
  by_cases h2 : kind = 2
  · subst h2
    refine (ask_last on k N V B sb n kk X F w h hk hl).mono ?_
    rintro e w' ⟨⟨s, x, b, rfl⟩, r⟩
    exact ⟨⟨_, _, _, rfl, fun e => absurd e h0⟩, by rw [if_neg (by decide), if_neg (by decide), if_neg (by decide)]; exact r⟩
  by_cases h4 : kind = 4
  · subst h4
    refine (ask_open on k N V B sb n kk X F w h hl).mono ?_
    rintro e w' ⟨⟨s, x, b, rfl⟩, r⟩
    exact ⟨⟨_, _, _, rfl, fun e => absurd e h0⟩, by rw [if_pos rfl]; exact r⟩
  rw [if_neg h4]
  by_cases h5 : kind = 5
  · subst h5
    refine (ask_close on k N V B sb n kk X F w h hI hl).mono ?_
    rintro e w' ⟨⟨s, x, b, rfl⟩, r⟩
    exact ⟨⟨_, _, _, rfl, fun e => absurd e h0⟩, by rw [if_pos rfl]; exact r⟩
  rw [if_neg h5]
  by_cases h6 : kind = 6
  · subst h6
    refine (ask_old on k N V B sb n kk X F w h hl).mono ?_
    rintro e w' ⟨⟨s, x, b, rfl⟩, r⟩
    exact ⟨⟨_, _, _, rfl, fun e => absurd e h0⟩, by rw [if_neg (by decide)]; exact r⟩
  by_cases h7 : kind = 7
  · subst h7
    refine (ask_prune on k N V B sb n kk X F w h hk hl).mono ?_
    rintro e w' ⟨⟨s, x, b, rfl⟩, r⟩
    exact ⟨⟨_, _, _, rfl, fun e => absurd e h0⟩, by rw [if_pos rfl]; exact r⟩
  rw [if_neg h7]
  by_cases h8 : kind = 8
  · subst h8
    refine (ask_ver on k N V B sb n kk X F w h).mono ?_
    rintro e w' ⟨⟨s, x, b, rfl⟩, r⟩
    exact ⟨⟨_, _, _, rfl, fun e => absurd e h0⟩, r⟩
  refine (ask_rest on kind k N V B sb n kk X F w h ⟨h0, h1, h2, h4, h5, h6, h7, h8⟩).mono ?_
  rintro e w' ⟨⟨s, x, b, rfl⟩, r⟩
  exact ⟨⟨_, _, _, rfl, fun e => absurd e h0⟩, r⟩
/-- A row of calls in memory. -/
def RCl (w : World) (v : Value) (ps : List Cl) : Prop := ∃ a cap, v = .slice a ps.length cap ∧ ∀ (i : Nat) (p : Cl), ps[i]? = some p → ∃ g off, a = some ⟨g, off, none⟩ ∧ w.cell? ⟨g, off + i * 6, none⟩ = some (.int .i64 p.on) ∧ w.cell? ⟨g, off + i * 6 + 1, none⟩ = some (.int .i64 p.kind) ∧ w.cell? ⟨g, off + i * 6 + 2, none⟩ = some (.int .i64 p.k.1) ∧ w.cell? ⟨g, off + i * 6 + 3, none⟩ = some (.int .i64 p.k.2) ∧ w.cell? ⟨g, off + i * 6 + 4, none⟩ = some (.int .i64 p.N) ∧ w.cell? ⟨g, off + i * 6 + 5, none⟩ = some (.string ⟨p.V.toArray⟩)
theorem RCl.below {w w' : World} {v : Value} {ps : List Cl} (h : RCl w v ps) (hb : Below w.heap.size w w') : RCl w' v ps := by
  obtain ⟨a, cap, hv, h1⟩ := h
  refine ⟨a, cap, hv, fun i p hp => ?_⟩
  obtain ⟨g, off, e, c0, c1, c2, c3, c4, c5⟩ := h1 i p hp
  have hlt := World.block_lt_of_cell? _ _ c0
  have hc : ∀ o, w'.cell? ⟨g, o, none⟩ = w.cell? ⟨g, o, none⟩ := fun o => hb.cell (p := ⟨g, o, none⟩) hlt
  exact ⟨g, off, e, (hc _).trans c0, (hc _).trans c1, (hc _).trans c2, (hc _).trans c3, (hc _).trans c4, (hc _).trans c5⟩
set_option maxRecDepth 100000 in
set_option maxHeartbeats 1000000 in
theorem sees_any (v : Value) (ps : List Cl) (q : Int) (w : World) (B sa sc n kk kk' : Nat) (X Y : Sx) (F G : Nat → Prop) (hr : RCl w v ps) (hx : SO B w sa n X kk F) (hy : SO B w sc n Y kk' G) (hk : ∀ p ∈ ps, KOK p.k) (hps : ps.length ≤ 5864062014804) (hl : kk ≤ 5864062014803) (hl' : kk' ≤ 5864062014803)
    (hsame : ∀ k z, q ≤ z → atS z (X.K k) = atS z (Y.K k) ∧ atB z (X.K k) = atB z (Y.K k)) :
    Calls Tryd.prog 10 #[.pointer (some ⟨sa, 0, none⟩), .pointer (some ⟨sc, 0, none⟩), v, .int .i64 q] w fun e w' => e = .returned (.bool true) ∧ Below w.heap.size w w' := by
  obtain ⟨a, cap, rfl, hcell⟩ := hr
  have HX := hide hx
  have HY := hide hy
  have HC := hide hcell
  have HK := hide hk
  have HSM := hide hsame
  clear hx hy hcell hk hsame
  go_enter Tryd.func10, Tryd.ntmps10
  go_wp2_with fail
  go_loopw [9] (fun i wr => ∃ k : Nat, k ≤ ps.length ∧ i = .int .i64 (k : Int) ∧ Hid (Below w.heap.size w wr)) (fun i _ => ps.length - (intOf i).toNat)
  case atStart => exact ⟨0, Nat.zero_le _, rfl, hide (Below.refl _ _)⟩
  case round =>
    obtain ⟨k, hk, rfl, HB⟩ := hrel
    by_cases hlt : k < ps.length
    · obtain ⟨p, hp⟩ : ∃ p, ps[k]? = some p := ⟨_, List.getElem?_eq_getElem hlt⟩
      obtain ⟨g, off, rfl, x0, x1, c2, c3, c4, x5⟩ := HC.out k p hp
      clear x0 x1 x5
      have hgl : g < w.heap.size := World.block_lt_of_cell? _ _ c2
      have e2 : wr.cell? ⟨g, off + k * 6 + 2, none⟩ = some (.int .i64 p.k.1) := (HB.out.cell (p := ⟨g, _, none⟩) hgl).trans c2
      have e3 : wr.cell? ⟨g, off + k * 6 + 3, none⟩ = some (.int .i64 p.k.2) := (HB.out.cell (p := ⟨g, _, none⟩) hgl).trans c3
      have HKP := hide (HK.out p (List.mem_of_getElem? hp))
      clear c2 c3
      have hd1 : decide ((k : Int) < (ps.length : Int)) = true := by rw [decide_eq_true_eq]; omega
      have k0 : (0 : Int) ≤ (k : Int) := by omega
      have k1 : (k : Int) < (ps.length : Int) := by omega
      have wk : wrap64 ((k : Int) + 1) = (k : Int) + 1 := by unfold wrap64; omega
      obtain ⟨W1, hW1⟩ : ∃ W1, wr.alloc (.cells #[.int .i64 p.k.1, .int .i64 p.k.2] 29) = W1 := ⟨_, rfl⟩
      have hb1 : Below wr.heap.size wr W1 := by rw [← hW1]; exact (Below.refl _ _).alloc (Nat.le_refl _) _
      have hk1 : W1.heap[wr.heap.size]? = some (.cells #[.int .i64 p.k.1, .int .i64 p.k.2] 29 (0, 0)) := by rw [← hW1]; exact alloc_newV wr _
      have HB1 := hide (HB.out.trans (hb1.mono HB.out.size))
      have e4 : W1.cell? ⟨g, off + k * 6 + 4, none⟩ = some (.int .i64 p.N) := (HB1.out.cell (p := ⟨g, _, none⟩) hgl).trans c4
      clear c4 hgl
      go_wp2_with fail
      have z1 : wr.heap.size < W1.heap.size := (Array.getElem?_eq_some_iff.1 hk1).1
      have hb2 : Below W1.heap.size W1 (W1.alloc (.cells #[.int .i64 q, .int .i64 (wrap64 (q + 1)), .int .i64 (wrap64 (q + 7)), .int .i64 p.N, .int .i64 9223372036854775807] 3)) := (Below.refl _ _).alloc (Nat.le_refl _) _
      have hm2 := alloc_newV W1 (.cells #[.int .i64 q, .int .i64 (wrap64 (q + 1)), .int .i64 (wrap64 (q + 7)), .int .i64 p.N, .int .i64 9223372036854775807] 3)
      have hk2 := (hb2.block _ z1).trans hk1
      have HM : Hid (∀ j, j < 5 → ∃ z : Int, (W1.alloc (.cells #[.int .i64 q, .int .i64 (wrap64 (q + 1)), .int .i64 (wrap64 (q + 7)), .int .i64 p.N, .int .i64 9223372036854775807] 3)).cell? ⟨W1.heap.size, j, none⟩ = some (.int .i64 z)) := hide (fun j hj => by
        rw [cell_of_row _ _ _ _ _ _ hm2]
        match j, hj with
        | 0, _ => exact ⟨_, rfl⟩
        | 1, _ => exact ⟨_, rfl⟩
        | 2, _ => exact ⟨_, rfl⟩
        | 3, _ => exact ⟨_, rfl⟩
        | 4, _ => exact ⟨_, rfl⟩)
      have b0 : (W1.alloc (.cells #[.int .i64 q, .int .i64 (wrap64 (q + 1)), .int .i64 (wrap64 (q + 7)), .int .i64 p.N, .int .i64 9223372036854775807] 3)).cell? ⟨wr.heap.size, 0, none⟩ = some (.int .i64 p.k.1) := by rw [cell_of_row _ _ 0 _ _ _ hk2]; rfl
      have b1 : (W1.alloc (.cells #[.int .i64 q, .int .i64 (wrap64 (q + 1)), .int .i64 (wrap64 (q + 7)), .int .i64 p.N, .int .i64 9223372036854775807] 3)).cell? ⟨wr.heap.size, 1, none⟩ = some (.int .i64 p.k.2) := by rw [cell_of_row _ _ 1 _ _ _ hk2]; rfl
      have HKL2 : Hid (wr.heap.size < (W1.alloc (.cells #[.int .i64 q, .int .i64 (wrap64 (q + 1)), .int .i64 (wrap64 (q + 7)), .int .i64 p.N, .int .i64 9223372036854775807] 3)).heap.size) := hide (Array.getElem?_eq_some_iff.1 hk2).1
      have HML2 : Hid (W1.heap.size < (W1.alloc (.cells #[.int .i64 q, .int .i64 (wrap64 (q + 1)), .int .i64 (wrap64 (q + 7)), .int .i64 p.N, .int .i64 9223372036854775807] 3)).heap.size) := hide (Array.getElem?_eq_some_iff.1 hm2).1
      have HB2 := hide (HB1.out.trans (hb2.mono HB1.out.size))
      clear hb1 hk1 hb2 hm2 hk2 z1 hW1 e2 e3 e4 HB HB1
      generalize W1.alloc (.cells #[.int .i64 q, .int .i64 (wrap64 (q + 1)), .int .i64 (wrap64 (q + 7)), .int .i64 p.N, .int .i64 9223372036854775807] 3) = W2 at *
      generalize W1.heap.size = mb at *
      obtain ⟨Wr, rfl⟩ : ∃ Wr, Wr = wr := ⟨wr, rfl⟩
      generalize Wr.heap.size = kb at *
      go_loopw [12] (fun j wr => ∃ jj : Nat, jj ≤ 5 ∧ j = .int .i64 (jj : Int) ∧ Hid (Below W2.heap.size W2 wr)) (fun j _ => 5 - (intOf j).toNat)
      case atStart => exact ⟨0, Nat.zero_le _, rfl, hide (Below.refl _ _)⟩
      case round =>
        obtain ⟨jj, hjk, rfl, HB⟩ := hrel
        by_cases hj5 : jj < 5
        · obtain ⟨z, hz⟩ := HM.out jj hj5
          have a0 : wr.cell? ⟨kb, 0, none⟩ = some (.int .i64 p.k.1) := (HB.out.cell (p := ⟨kb, 0, none⟩) HKL2.out).trans b0
          have a1 : wr.cell? ⟨kb, 1, none⟩ = some (.int .i64 p.k.2) := (HB.out.cell (p := ⟨kb, 1, none⟩) HKL2.out).trans b1
          have a2 : wr.cell? ⟨mb, jj, none⟩ = some (.int .i64 z) := (HB.out.cell (p := ⟨mb, jj, none⟩) HML2.out).trans hz
          have HKL : Hid (kb < wr.heap.size) := hide (Nat.lt_of_lt_of_le HKL2.out HB.out.size)
          have HML : Hid (mb < wr.heap.size) := hide (Nat.lt_of_lt_of_le HML2.out HB.out.size)
          have hj1 : decide ((jj : Int) < 5) = true := by rw [decide_eq_true_eq]; omega
          have j0 : (0 : Int) ≤ (jj : Int) := by omega
          have j1 : (jj : Int) < 5 := by omega
          have wj : wrap64 ((jj : Int) + 1) = (jj : Int) + 1 := by unfold wrap64; omega
          clear hz
          by_cases hzq : z < q
          · have hdz : decide (z < q) = true := decide_eq_true hzq
            go_wp2_with fail
            go_roundw
            case rel => exact ⟨jj + 1, by omega, by go_num, HB⟩
            case measure => simp [intOf]; omega
          have hdz : decide (z < q) = false := decide_eq_false hzq
          have HSQ := hide (HSM.out p.k z (by omega))
          have HBW := hide (HB2.out.trans (HB.out.mono HB2.out.size))
          have HA : Hid (∀ x : Gr wr, Calls Tryd.prog 24 #[.pointer (some ⟨sa, 0, none⟩), .agg #[.int .i64 p.k.1, .int .i64 p.k.2], .int .i64 z] x.1 fun e w' => e = .returned (.tuple #[.string ⟨(atS z (X.K p.k)).toArray⟩, .bool (atB z (X.K p.k))]) ∧ Below x.1.heap.size x.1 w') := hide (fun x => atO_any p.k z B sa n kk X F x.1 (HX.out.later (HBW.out.trans (x.2.mono HBW.out.size))) HKP.out hl)
          have HA2 : Hid (∀ w2 : World, Below wr.heap.size wr w2 → ∀ x : Gr w2, Calls Tryd.prog 24 #[.pointer (some ⟨sc, 0, none⟩), .agg #[.int .i64 p.k.1, .int .i64 p.k.2], .int .i64 z] x.1 fun e w' => e = .returned (.tuple #[.string ⟨(atS z (X.K p.k)).toArray⟩, .bool (atB z (X.K p.k))]) ∧ Below x.1.heap.size x.1 w') := hide (fun w2 hb2 x => by
            rw [HSQ.out.1, HSQ.out.2]
            exact atO_any p.k z B sc n kk' Y G x.1 (HY.out.later ((HBW.out.trans (hb2.mono HBW.out.size)).trans (x.2.mono (Nat.le_trans HBW.out.size hb2.size)))) HKP.out hl')
          generalize atS z (X.K p.k) = S at *
          generalize atB z (X.K p.k) = T at *
          go_wp2_with fail
          have HX0 := hide ((Below.refl wr.heap.size wr).drew)
          haveI : Nonempty (Gr wr) := ⟨⟨_, HX0.out⟩⟩
          have y0 : ∀ x : Gr wr, x.1.cell? ⟨kb, 0, none⟩ = some (.int .i64 p.k.1) := fun x => (x.2.cell (p := ⟨kb, 0, none⟩) HKL.out).trans a0
          have y1 : ∀ x : Gr wr, x.1.cell? ⟨kb, 1, none⟩ = some (.int .i64 p.k.2) := fun x => (x.2.cell (p := ⟨kb, 1, none⟩) HKL.out).trans a1
          have y2 : ∀ x : Gr wr, x.1.cell? ⟨mb, jj, none⟩ = some (.int .i64 z) := fun x => (x.2.cell (p := ⟨mb, jj, none⟩) HML.out).trans a2
          refine region_class (C := fun w' => ∃ x : Gr wr, w' = x.1) (by kernel_rfl) (by kernel_rfl) ⟨⟨_, HX0.out⟩, rfl⟩ ?_
          repeat (first
            | go_big_quiet_skip
            | (go_big_quiet_want; (go_big_quiet_op; first
                | go_big_quiet_on
                | (apply Exists.intro; refine ⟨fun x => ?_, ?_⟩; (go_at_call 24; exact x.call (HA.out x)); go_big_quiet_on))))
          refine wpQuiet_nil ?_
          rintro w3 ⟨x, rfl⟩
          obtain ⟨w3, hx3⟩ := x
          dsimp only
          have HB3 := hide (HB.out.trans (hx3.mono HB.out.size))
          have HA3 := hide (HA2.out w3 hx3)
          have a0' := y0 ⟨w3, hx3⟩
          have a1' := y1 ⟨w3, hx3⟩
          have a2' := y2 ⟨w3, hx3⟩
          dsimp only at a0' a1' a2'
          have HKL' : Hid (kb < w3.heap.size) := hide (Nat.lt_of_lt_of_le HKL.out hx3.size)
          have HML' : Hid (mb < w3.heap.size) := hide (Nat.lt_of_lt_of_le HML.out hx3.size)
          clear a0 a1 a2 y0 y1 y2 this HX0 HKL HML HA HA2 hx3
          have a0 := a0'
          have a1 := a1'
          have a2 := a2'
          have HKL := HKL'
          have HML := HML'
          clear a0' a1' a2' HKL' HML'
          go_wp2_with fail
          have HX0 := hide ((Below.refl w3.heap.size w3).drew)
          haveI : Nonempty (Gr w3) := ⟨⟨_, HX0.out⟩⟩
          have y0 : ∀ x : Gr w3, x.1.cell? ⟨kb, 0, none⟩ = some (.int .i64 p.k.1) := fun x => (x.2.cell (p := ⟨kb, 0, none⟩) HKL.out).trans a0
          have y1 : ∀ x : Gr w3, x.1.cell? ⟨kb, 1, none⟩ = some (.int .i64 p.k.2) := fun x => (x.2.cell (p := ⟨kb, 1, none⟩) HKL.out).trans a1
          have y2 : ∀ x : Gr w3, x.1.cell? ⟨mb, jj, none⟩ = some (.int .i64 z) := fun x => (x.2.cell (p := ⟨mb, jj, none⟩) HML.out).trans a2
          refine region_class (C := fun w' => ∃ x : Gr w3, w' = x.1) (by kernel_rfl) (by kernel_rfl) ⟨⟨_, HX0.out⟩, rfl⟩ ?_
          repeat (first
            | go_big_quiet_skip
            | (go_big_quiet_want; (go_big_quiet_op; first
                | go_big_quiet_on
                | (apply Exists.intro; refine ⟨fun x => ?_, ?_⟩; (go_at_call 24; exact x.call (HA3.out x)); go_big_quiet_on))))
          refine wpQuiet_nil ?_
          rintro w4 ⟨x, rfl⟩
          obtain ⟨w4, hx4⟩ := x
          dsimp only
          have HB4 := hide (HB3.out.trans (hx4.mono HB3.out.size))
          clear a0 a1 a2 y0 y1 y2 this HX0 HKL HML HA3 hx4
          go_wp2_with fail
          go_roundw
          case rel => exact ⟨jj + 1, by omega, by go_num, HB4⟩
          case measure => simp [intOf]; omega
        · have e : jj = 5 := by omega
          subst e
          go_wp2_with fail
          go_roundw
          case rel => exact ⟨k + 1, by omega, by go_num, hide (HB2.out.trans (HB.out.mono HB2.out.size))⟩
          case measure => simp [intOf]; omega
    · have e : k = ps.length := by omega
      subst e
      go_wp2_with fail
      go_ret
      exact ⟨rfl, HB.out⟩
end Go.Proofs.YtnjjehlfgoggfaaDoor
