/-
  My own text: are Left and Parts of an order the document's?
-/
import Derived.Test.YtmojckejjjlkjaaDoorY9
namespace Go.Proofs.YtmojckejjjlkjaaDoor
open Go.RowKit

theorem GB.below {w w' w'' : World} {row : Option Nat} (h : w.grownBy w' row) (hb : Below w'.heap.size w' w'') : w.grownBy w'' row :=
  ⟨hb.os.trans h.os, hb.tape.trans h.tape, hb.output.trans h.output, Nat.le_trans h.size hb.size, fun k hk hn => (hb.block k (Nat.lt_of_lt_of_le hk h.size)).trans (h.block k hk hn)⟩
theorem GB.on {w w' w'' : World} {row r2 : Option Nat} (h : w.grownBy w' row) (k : w'.grownBy w'' r2) (hv : ∀ x, r2 = some x → row = some x ∨ w.heap.size ≤ x) : w.grownBy w'' row :=
  ⟨k.os.trans h.os, k.tape.trans h.tape, k.output.trans h.output, Nat.le_trans h.size k.size, fun x hx hn => (k.block x (Nat.lt_of_lt_of_le hx h.size) (fun e => by
    rcases hv x e.symm with q | q
    · exact hn q.symm
    · omega)).trans (h.block x hx hn)⟩
theorem GB.refl (w : World) (row : Option Nat) : w.grownBy w row := ⟨rfl, rfl, rfl, Nat.le_refl _, fun _ _ _ => rfl⟩
theorem owns_some {w : World} {B : Nat} {e : TypeId} {k n cap : Nat} {a : Option Addr} {xs : List Value} (h : w.ownsRow B e k (.slice a n cap) n xs) (hn : 0 < n) : ∃ g, a = some ⟨g, 0, none⟩ := by
  rcases h.2 with ⟨_, h0⟩ | ⟨g, c, cur, hv, _⟩
  · omega
  · cases hv; exact ⟨g, rfl⟩
set_option maxRecDepth 100000 in
set_option maxHeartbeats 1000000 in
theorem asked_any (g gr : Nat) (o : Od) (pv pr : Value) (w : World) (h : OB w g o pv) (hr : RB6 w gr o pr) (ok : o.Ok) (hl : o.P.length ≤ 8796093022000) :
    Calls Tryd.prog 20 #[.pointer (some ⟨g, 0, none⟩), .pointer (some ⟨gr, 0, none⟩)] w fun e w' => e = .returned (.bool true) ∧ Below w.heap.size w w' := by
  have HL := hide (left_any g o pv w h ok)
  have HH := hide h
  have HR := hide hr
  have HK := hide ok
  have HN := hide hl
  have wq : wrap64 (o.Q - o.D) = o.lq := by have := ok.DQ; have := ok.D0; have := ok.Q1; unfold Od.lq wrap64; omega
  have bb := sh_bnd ok.A0 ok.D0 ok.DQ ok.Q0
  have wm : wrap64 (o.A - sh o.A o.D o.Q) = o.lm := by have := ok.A1; have := ok.A0; unfold Od.lm wrap64; omega
  obtain ⟨lq, hlq⟩ : ∃ x, o.lq = x := ⟨_, rfl⟩
  obtain ⟨lm, hlm⟩ : ∃ x, o.lm = x := ⟨_, rfl⟩
  rw [hlq] at wq HL
  rw [hlm] at wm HL
  clear h hr ok hl bb hlq hlm
  go_enter Tryd.func20, Tryd.ntmps20
  go_wp2_with fail
  refine HL.out.mono ?_
  rintro e w1 ⟨rfl, hb1⟩
  have HB1 := hide hb1
  have HP1 := hide (parts_any g o pv w1 (HH.out.later hb1) (Nat.le_trans HN.out (by decide)))
  clear HL hb1
  go_wp2_with fail
  refine HP1.out.mono ?_
  rintro e w2 ⟨⟨va, rfl, hoa⟩, hb2⟩
  have HB2 := hide (HB1.out.trans (hb2.mono HB1.out.size))
  have HOA := hide hoa
  have HP2 := hide (parts_any g o pv w2 (HH.out.later HB2.out) (Nat.le_trans HN.out (by decide)))
  obtain ⟨aa, ac, hva⟩ := TL.OM.slice hoa
  have HBa := hide hb2
  clear HP1 hb2 hoa
  subst hva
  go_wp2_with fail
  refine HP2.out.mono ?_
  rintro e w3 ⟨⟨vb, rfl, hob⟩, hb3⟩
  have HB3 := hide (HB2.out.trans (hb3.mono HB2.out.size))
  have HOB := hide hob
  obtain ⟨ba, bc, hvb⟩ := TL.OM.slice hob
  have HBb := hide hb3
  have hr3 := HR.out.later HB3.out
  obtain ⟨f0, f1, f2, f3, f4, f5, f6⟩ := seven_cells hr3.box rfl
  obtain ⟨ra, rc, hvr⟩ := TL.OM.slice hr3.row
  have HM1 := hide (moneys_any pr o.P w3 hr3.row.rm HN.out)
  clear HP2 hb3 hob hr3
  subst hvb
  subst hvr
  go_wp2_with fail
  refine HM1.out.mono ?_
  rintro e w4 ⟨vw, rfl, how, hb4⟩
  have HB4 := hide (HB3.out.trans (hb4.mono HB3.out.size))
  have HOW := hide how
  have HBw := hide hb4
  obtain ⟨wa, wc, hvw⟩ := LN.OM.slice how
  clear HM1 hb4 how f0 f1 f2 f3 f4 f5 f6
  subst hvw
  obtain ⟨S5, hS5⟩ : ∃ x, sh o.A o.D o.Q = x := ⟨_, rfl⟩
  have HCR : Hid (∀ W, Below w4.heap.size w4 W → W.cell? ⟨gr, 0, none⟩ = some (.int .i64 o.Q) ∧ W.cell? ⟨gr, 4, none⟩ = some (.int .i64 o.D) ∧ W.cell? ⟨gr, 1, none⟩ = some (.int .i64 o.A) ∧ W.cell? ⟨gr, 5, none⟩ = some (.int .i64 S5)) := hide (fun W hb => by
    obtain ⟨f0, f1, f2, f3, f4, f5, f6⟩ := seven_cells ((HR.out.later HB4.out).later hb).box rfl
    rw [hS5] at f5
    exact ⟨f0, f4, f1, f5⟩)
  rw [hS5] at wm
  have HA4 : Hid (∀ W, Below w4.heap.size w4 W → TL.OM W w1.heap.size (.slice aa o.P.length ac) o.P) := hide (fun W hb => ((HOA.out.later HBb.out).later HBw.out).later hb)
  have HB5 : Hid (∀ W, Below w4.heap.size w4 W → TL.OM W w2.heap.size (.slice ba o.P.length bc) o.P) := hide (fun W hb => (HOB.out.later HBw.out).later hb)
  have HW4 : Hid (∀ W, Below w4.heap.size w4 W → LN.OM W w3.heap.size (.slice wa (flat o.P).length wc) (flat o.P)) := hide (fun W hb => HOW.out.later hb)
  have hfl : (flat o.P).length ≤ 4611686018427387904 := by have := HN.out; rw [flat_len]; omega
  have HFL := hide hfl
  have HMA := hide (fun W (hb : Below w4.heap.size w4 W) => (moneys_any (.slice aa o.P.length ac) o.P W (HA4.out W hb).rm HN.out).mono (fun e w' (x : ∃ v', e = .returned v' ∧ LN.OM w' W.heap.size v' (flat o.P) ∧ Below W.heap.size W w') => show ∃ a1 c1, e = .returned (.slice a1 (flat o.P).length c1) ∧ LN.RM w' (.slice a1 (flat o.P).length c1) (flat o.P) ∧ Below w4.heap.size w4 w' ∧ w'.cell? ⟨gr, 0, none⟩ = some (.int .i64 o.Q) ∧ w'.cell? ⟨gr, 4, none⟩ = some (.int .i64 o.D) ∧ w'.cell? ⟨gr, 1, none⟩ = some (.int .i64 o.A) ∧ w'.cell? ⟨gr, 5, none⟩ = some (.int .i64 S5) from by
    obtain ⟨v', rfl, h1, h2⟩ := x
    obtain ⟨a1, c1, rfl⟩ := LN.OM.slice h1
    have hb2 := hb.trans (h2.mono hb.size)
    exact ⟨a1, c1, rfl, h1.rm, hb2, HCR.out _ hb2⟩))
  have HMB := hide (fun W (hb : Below w4.heap.size w4 W) => (moneys_any (.slice ba o.P.length bc) o.P W (HB5.out W hb).rm HN.out).mono (fun e w' (x : ∃ v', e = .returned v' ∧ LN.OM w' W.heap.size v' (flat o.P) ∧ Below W.heap.size W w') => show ∃ a1 c1, e = .returned (.slice a1 (flat o.P).length c1) ∧ LN.RM w' (.slice a1 (flat o.P).length c1) (flat o.P) ∧ Below w4.heap.size w4 w' ∧ w'.cell? ⟨gr, 0, none⟩ = some (.int .i64 o.Q) ∧ w'.cell? ⟨gr, 4, none⟩ = some (.int .i64 o.D) ∧ w'.cell? ⟨gr, 1, none⟩ = some (.int .i64 o.A) ∧ w'.cell? ⟨gr, 5, none⟩ = some (.int .i64 S5) from by
    obtain ⟨v', rfl, h1, h2⟩ := x
    obtain ⟨a1, c1, rfl⟩ := LN.OM.slice h1
    have hb2 := hb.trans (h2.mono hb.size)
    exact ⟨a1, c1, rfl, h1.rm, hb2, HCR.out _ hb2⟩))
  have HSL := hide (fun W v (hb : Below w4.heap.size w4 W) (hv : LN.RM W v (flat o.P)) => (LN.sameM_any v (.slice wa (flat o.P).length wc) (flat o.P) (flat o.P) W hv (HW4.out W hb).rm HFL.out HFL.out).mono (fun e w' (x : e = .returned (.bool (decide (flat o.P = flat o.P))) ∧ Below W.heap.size W w') => show e = .returned (.bool true) ∧ Below w4.heap.size w4 w' ∧ w'.cell? ⟨gr, 0, none⟩ = some (.int .i64 o.Q) ∧ w'.cell? ⟨gr, 4, none⟩ = some (.int .i64 o.D) ∧ w'.cell? ⟨gr, 1, none⟩ = some (.int .i64 o.A) ∧ w'.cell? ⟨gr, 5, none⟩ = some (.int .i64 S5) from by
    have hb2 := hb.trans (x.2.mono hb.size)
    exact ⟨by rw [x.1, decide_eq_true rfl], hb2, HCR.out _ hb2⟩))
  have wq2 : IntKind.i64.wrap (o.Q - o.D) = lq := by rw [IntKind.wrap_i64]; unfold wrap64 at wq; exact wq
  have wm2 : IntKind.i64.wrap (o.A - S5) = lm := by rw [IntKind.wrap_i64]; unfold wrap64 at wm; exact wm
  have hb0 := (Below.refl w4.heap.size w4).drew
  have hc0 := HCR.out _ hb0
  have nq : (lq != lq) = false := by simp
  have nm : (lm != lm) = false := by simp
  clear hS5 hfl
  go_wp2_with fail
  go_region_held3 (fun W => W.cell? ⟨gr, 0, none⟩ = some (.int .i64 o.Q) ∧ W.cell? ⟨gr, 4, none⟩ = some (.int .i64 o.D) ∧ W.cell? ⟨gr, 1, none⟩ = some (.int .i64 o.A) ∧ W.cell? ⟨gr, 5, none⟩ = some (.int .i64 S5)) (go_keep) ((first
    | (go_at_call_of 37 ac; refine (HMA.out _ ?_).mono ?_; assumption; rintro e w5 ⟨x1, y1, rfl, hm5, hb5, hz1, hz2, hz3, hz4⟩)
    | (go_at_call_of 37 bc; refine (HMB.out _ ?_).mono ?_; assumption; rintro e w7 ⟨x2, y2, rfl, hm7, hb7, hz1, hz2, hz3, hz4⟩)
    | (go_at_call 38; refine (HSL.out _ _ ?_ ?_).mono ?_; assumption; assumption; rintro e w6 ⟨rfl, hb6, hz1, hz2, hz3, hz4⟩)))
  have HB6 := hide (HB4.out.trans (hb6.mono HB4.out.size))
  have HA6 := hide (HA4.out _ hb6)
  have HBB6 := hide (HB5.out _ hb6)
  have HW6 := hide (HW4.out _ hb6)
  have H46 := hide hb6
  clear hm5 hb5 hm7 hb7 hb6 hz1 hz2 hz3 hz4 hb0 hc0 HMA HMB HCR wq wm wq2 wm2 nq nm HSL
  go_wp2_with fail
  obtain ⟨n, hn⟩ : ∃ n, o.P.length = n := ⟨_, rfl⟩
  have HA7 : Hid (∃ xs, w6.ownsRow w1.heap.size 62 2 (.slice aa n ac) n xs) := hide ⟨TL.mc o.P, by rw [← hn]; exact HA6.out⟩
  have HNn := hide hn
  rw [hn]
  go_loopw [10] (fun i wr => ∃ k : Nat, k ≤ n ∧ i = .int .i64 (k : Int) ∧ Hid (∃ xs, wr.ownsRow w1.heap.size 62 2 (.slice aa n ac) n xs) ∧ Hid (w6.grownBy wr (Value.slice aa n ac).ownBlock)) (fun i _ => n - (intOf i).toNat)
  case atStart => exact ⟨0, Nat.zero_le _, rfl, HA7, hide (GB.refl _ _)⟩
  case round =>
    obtain ⟨k, hk, rfl, HX, HG⟩ := hrel
    by_cases hlt : k < n
    · obtain ⟨xs, hxs⟩ := HX.out
      obtain ⟨ga, rfl⟩ := owns_some hxs (by omega)
      have c0 : ∃ u, wr.cell? ⟨ga, k * 2, none⟩ = some u := ⟨_, (World.ownsRow.cellAt hxs (k * 2) (by omega)).trans (List.getElem?_eq_getElem (by rw [hxs.1]; omega))⟩
      have c1 : ∃ u, wr.cell? ⟨ga, k * 2 + 1, none⟩ = some u := ⟨_, (World.ownsRow.cellAt hxs (k * 2 + 1) (by omega)).trans (List.getElem?_eq_getElem (by rw [hxs.1]; omega))⟩
      obtain ⟨u0, c0⟩ := c0
      obtain ⟨u1, c1⟩ := c1
      have z0 := World.ownsRow.frozenAt hxs (k * 2)
      have z1 := World.ownsRow.frozenAt hxs (k * 2 + 1)
      obtain ⟨t1, t2⟩ := World.ownsRow.stored hxs (k * 2) (.int .i64 (-1))
      obtain ⟨t3, t4⟩ := World.ownsRow.stored t1 (k * 2 + 1) (.int .i64 (-1))
      have d0 : (wr.setCell ⟨ga, k * 2, none⟩ (.int .i64 (-1))).cell? ⟨ga, k * 2 + 1, none⟩ = some u1 := by
        rw [World.ownsRow.cellAt t1 (k * 2 + 1) (by omega), List.getElem?_set_ne (by omega), ← World.ownsRow.cellAt hxs (k * 2 + 1) (by omega)]; exact c1
      have z2 := World.ownsRow.frozenAt t1 (k * 2 + 1)
      have HX2 : Hid (∃ xs, World.ownsRow ((wr.setCell ⟨ga, k * 2, none⟩ (.int .i64 (-1))).setCell ⟨ga, k * 2 + 1, none⟩ (.int .i64 (-1))) w1.heap.size 62 2 (.slice (some ⟨ga, 0, none⟩) n ac) n xs) := hide ⟨_, t3⟩
      have HG2 : Hid (w6.grownBy ((wr.setCell ⟨ga, k * 2, none⟩ (.int .i64 (-1))).setCell ⟨ga, k * 2 + 1, none⟩ (.int .i64 (-1))) (Value.slice (some ⟨ga, 0, none⟩) n ac).ownBlock) := hide (GB.on (GB.on HG.out t2 (fun x hx => .inl hx)) t4 (fun x hx => .inl hx))
      have hd1 : decide ((k : Int) < (n : Int)) = true := by rw [decide_eq_true_eq]; omega
      have k0 : (0 : Int) ≤ (k : Int) := by omega
      have k1 : (k : Int) < (n : Int) := by omega
      have wk : wrap64 ((k : Int) + 1) = (k : Int) + 1 := by have := HN.out; have := HNn.out; unfold wrap64; omega
      have HKn := hide (And.intro hlt hk)
      clear hxs t1 t2 t3 t4 hlt hk HX HG
      go_wp2_with fail
      go_roundw
      case rel => exact ⟨k + 1, HKn.out.1, by go_num, HX2, HG2⟩
      case measure => have := HKn.out.1; first | (rw [wk]; simp [intOf]; omega) | (simp [intOf]; omega)
    · have e : k = n := by omega
      subst e
      clear hlt hk
      go_wp2_with fail
      obtain ⟨i0, hi, hz0, hz1, hz2⟩ := info_parts TL.Tryd.infoMk
      have HI := hide (And.intro hi (And.intro hz0 (And.intro hz1 hz2)))
      have HLO : Hid (∀ x, (Value.slice aa k ac).ownBlock = some x → w1.heap.size ≤ x ∧ x < w2.heap.size) := hide (fun x hx => World.ownsRow.lt HOA.out x (by rw [HNn.out]; exact hx))
      clear hi hz0 hz1 hz2
      go_loopw [7, 11] (fun av i wr => ∃ (j : Nat) (a2 : Option Addr) (c2 : Nat), j ≤ 9 ∧ i = .int .i64 (j : Int) ∧ av = .slice a2 (k + j) c2 ∧ Hid (∃ xs, wr.ownsRow w1.heap.size 62 2 (.slice a2 (k + j) c2) (k + j) xs) ∧ Hid (w6.grownBy wr (Value.slice aa k ac).ownBlock) ∧ Hid (∀ x, (Value.slice a2 (k + j) c2).ownBlock = some x → (Value.slice aa k ac).ownBlock = some x ∨ w6.heap.size ≤ x)) (fun _ i _ => 9 - (intOf i).toNat)
      case atStart => exact ⟨0, aa, ac, by decide, rfl, rfl, HX, HG, hide (fun x hx => .inl hx)⟩
      case round =>
        obtain ⟨j, a2, c2, hj, rfl, rfl, HX2, HG2, HO2⟩ := hrel
        by_cases hlt : j < 9
        · obtain ⟨xs, hxs⟩ := HX2.out
          have hd1 : decide ((j : Int) < 9) = true := by rw [decide_eq_true_eq]; omega
          have wk : wrap64 ((j : Int) + 1) = (j : Int) + 1 := by unfold wrap64; omega
          have HB1s := hide (Nat.le_trans (Nat.le_trans HBa.out.size (Nat.le_trans HBb.out.size (Nat.le_trans HBw.out.size H46.out.size))) HG2.out.size)
          have hN := pair_cells (alloc_new wr (.cells #[.int .i64 (-2), .int .i64 (-2)] 62)) rfl
          have HNE := hide hN
          have HXS := hide (World.ownsRow.alloc hxs (.cells #[.int .i64 (-2), .int .i64 (-2)] 62))
          have HGA := hide (GB.below HG2.out ((Below.refl wr.heap.size wr).alloc (Nat.le_refl _) (.cells #[.int .i64 (-2), .int .i64 (-2)] 62)))
          have HBN : Hid (k + j + 1 ≤ maxLen ∧ (k + j + 1) * 16 ≤ 140737488355328) := hide (by have := HN.out; have := HNn.out; unfold maxLen; omega)
          have HKn := hide hlt
          have hxl := hxs.1
          clear hxs hN hlt hj HX2 HG2
          go_wp2_with (at_builtin; refine wpList_append_own_at _ rfl _ _ 60 rfl w1.heap.size 62 i0 _ 2 16 Tryd.underlying60 HI.out.1 HI.out.2.1 HI.out.2.2.1 HI.out.2.2.2 rfl (by decide) _ _ _ rfl HXS.out ⟨wr.heap.size, 0, none⟩ 1 1 [.int .i64 (-2), .int .i64 (-2)] rfl rfl (two_news HNE.out.1 HNE.out.2) (two_one _ _) HBN.out.1 HBN.out.2 (Nat.le_trans HB1s.out (by simp)) ?_)
          intro v5 w8 ho5 hg5 _ hl5
          obtain ⟨a5, c5, hv5⟩ : ∃ a c, v5 = .slice a (k + j + 1) c := by
            rcases ho5.2 with ⟨_, h0⟩ | ⟨g5, c, cur, e, _⟩
            · omega
            · exact ⟨_, c, e⟩
          subst hv5
          have HO5 : Hid (∃ xs, w8.ownsRow w1.heap.size 62 2 (.slice a5 (k + (j + 1)) c5) (k + (j + 1)) xs) := hide ⟨_, ho5⟩
          have HG5 : Hid (w6.grownBy w8 (Value.slice aa k ac).ownBlock) := hide (GB.on HGA.out hg5 (fun x hx => HO2.out x hx))
          have HL5 : Hid (∀ x, (Value.slice a5 (k + (j + 1)) c5).ownBlock = some x → (Value.slice aa k ac).ownBlock = some x ∨ w6.heap.size ≤ x) := hide (fun x hx => by
            rcases hl5 with q | q
            · exact HO2.out x (q ▸ hx)
            · have e := q.symm.trans hx
              have := Option.some.inj e
              have := HGA.out.size
              simp at this
              right; simp at e; omega)
          clear ho5 hg5 hl5 HXS HGA HNE
          go_wp2_with fail
          go_roundw
          case rel => exact ⟨j + 1, a5, c5, HKn.out, by go_num, rfl, HO5, HG5, HL5⟩
          case measure => have := HKn.out; first | (rw [wk]; simp [intOf]; omega) | (simp [intOf]; omega)
        · have e : j = 9 := by omega
          subst e
          have hd1 : decide (((9 : Nat) : Int) < 9) = false := by decide
          have hbb : TL.OM wr w2.heap.size (.slice ba o.P.length bc) o.P := owns_blk HBB6.out (fun x hx => HG2.out.block x (World.ownsRow.lt HBB6.out x hx).2 (fun e => by
            have h1 := (HLO.out x e.symm).2
            have h2 := (World.ownsRow.lt HBB6.out x hx).1
            omega))
          have hww : LN.OM wr w3.heap.size (.slice wa (flat o.P).length wc) (flat o.P) := owns_blk HW6.out (fun x hx => HG2.out.block x (World.ownsRow.lt HW6.out x hx).2 (fun e => by
            have h1 := (HLO.out x e.symm).2
            have h2 := (World.ownsRow.lt HW6.out x hx).1
            have := HBb.out.size
            omega))
          have hbe : Below w.heap.size w wr := HB6.out.grown HG2.out HB6.out.size (fun x hx => Nat.le_trans HB1.out.size (HLO.out x hx).1)
          have HMB := hide (moneys_any (.slice ba o.P.length bc) o.P wr hbb.rm HN.out)
          rw [HNn.out] at HMB
          have HWW := hide hww
          have HBE := hide hbe
          clear hbb hww hbe hlt hj HX2 HG2 HO2 HX HG
          go_wp2_with fail
          refine HMB.out.mono ?_
          rintro e w9 ⟨v9, rfl, hm9, hb9⟩
          obtain ⟨a9, c9, hv9⟩ := LN.OM.slice hm9
          have HS9 := hide (LN.sameM_any v9 (.slice wa (flat o.P).length wc) (flat o.P) (flat o.P) w9 hm9.rm (HWW.out.later hb9).rm HFL.out HFL.out)
          have HB9 := hide (HBE.out.trans (hb9.mono HBE.out.size))
          clear hm9 hb9 HMB
          subst hv9
          go_wp2_with fail
          refine HS9.out.mono ?_
          rintro e wa2 ⟨rfl, hb10⟩
          go_wp2_with fail
          go_ret
          exact ⟨rfl, HB9.out.trans (hb10.mono HB9.out.size)⟩
end Go.Proofs.YtmojckejjjlkjaaDoor
