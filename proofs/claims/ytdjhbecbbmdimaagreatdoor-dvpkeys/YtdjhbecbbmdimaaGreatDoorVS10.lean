/-
  My own text: VS9, VS10 in one.
-/
import Derived.Test.YtdjhbecbbmdimaaGreatDoorVS8
import Derived.Test.YtdjhbecbbmdimaaGreatDoorB9
namespace Go.Proofs.YtdjhbecbbmdimaaGreatDoor
open Go.RowKit

/-- Does an entry's position change? -/
def hld (e : En) : Bool := !(decide (e.was.av = e.now.av ∧ e.was.ml = e.now.ml))
def ptd (e : En) : Bool := hld e || (e.was.st != e.now.st)
def chg (E : List En) : List Ky := (E.filter hld).map (·.k)
def pxs {X : Type} (I : VI X) (x : X) : List En → X
  | [] => x
  | e :: r => pxs I (if ptd e then I.px x e.k e.now else x) r
theorem pxs_app {X : Type} (I : VI X) (x : X) (a b : List En) : pxs I x (a ++ b) = pxs I (pxs I x a) b := by
  induction a generalizing x with
  | nil => rfl
  | cons e r ih => exact ih _
theorem pxs_take {X : Type} (I : VI X) (x : X) {E : List En} {k : Nat} {e : En} (h : E[k]? = some e) : pxs I x (E.take (k + 1)) = if ptd e then I.px (pxs I x (E.take k)) e.k e.now else pxs I x (E.take k) := by
  rw [List.take_add_one, h]
  show pxs I x (E.take k ++ [e]) = _
  rw [pxs_app]; rfl
theorem pxs_rm {X : Type} (I : VI X) (x : X) (E : List En) : I.rm x ≤ I.rm (pxs I x E) + E.length := by
  induction E generalizing x with
  | nil => exact Nat.le_refl _
  | cons e r ih =>
    have h1 := ih (if ptd e then I.px x e.k e.now else x)
    have h2 : I.rm x ≤ I.rm (if ptd e then I.px x e.k e.now else x) + 1 := by
      split
      · exact I.rmP x e.k e.now
      · omega
    show I.rm x ≤ I.rm (pxs I (if ptd e then I.px x e.k e.now else x) r) + (r.length + 1)
    omega
theorem chg_take {E : List En} {k : Nat} {e : En} (h : E[k]? = some e) : chg (E.take (k + 1)) = if hld e then chg (E.take k) ++ [e.k] else chg (E.take k) := by
  unfold chg
  rw [List.take_add_one, h, List.filter_append, List.map_append]
  cases hb : hld e <;> simp [hb]
theorem chg_len (E : List En) : (chg E).length ≤ E.length := by unfold chg; rw [List.length_map]; exact List.length_filter_le _ _
theorem ten_cells {w : World} {o : Obj} {a0 a1 a2 a3 a4 a5 a6 a7 a8 a9 : Value} {t : TypeId} {g : Nat} (h : w.heap[g]? = some o) (ho : o = .cells #[a0, a1, a2, a3, a4, a5, a6, a7, a8, a9] t (0, 0)) : w.cell? ⟨g, 0, none⟩ = some a0 ∧ w.cell? ⟨g, 1, none⟩ = some a1 ∧ w.cell? ⟨g, 2, none⟩ = some a2 ∧ w.cell? ⟨g, 3, none⟩ = some a3 ∧ w.cell? ⟨g, 4, none⟩ = some a4 ∧ w.cell? ⟨g, 5, none⟩ = some a5 ∧ w.cell? ⟨g, 6, none⟩ = some a6 ∧ w.cell? ⟨g, 7, none⟩ = some a7 ∧ w.cell? ⟨g, 8, none⟩ = some a8 ∧ w.cell? ⟨g, 9, none⟩ = some a9 := by
  subst ho
  exact ⟨by rw [cell_of_row _ _ 0 _ _ _ h]; rfl, by rw [cell_of_row _ _ 1 _ _ _ h]; rfl, by rw [cell_of_row _ _ 2 _ _ _ h]; rfl, by rw [cell_of_row _ _ 3 _ _ _ h]; rfl, by rw [cell_of_row _ _ 4 _ _ _ h]; rfl, by rw [cell_of_row _ _ 5 _ _ _ h]; rfl, by rw [cell_of_row _ _ 6 _ _ _ h]; rfl, by rw [cell_of_row _ _ 7 _ _ _ h]; rfl, by rw [cell_of_row _ _ 8 _ _ _ h]; rfl, by rw [cell_of_row _ _ 9 _ _ _ h]; rfl⟩
/-- What a put keeps. -/
structure PT {X : Type} (I : VI X) (y : X) (F : Nat → Prop) (w : World) (B g n cap : Nat) (E : List En) (C : List Ky) (v : Value) (U F' H' : Nat → Prop) (wr : World) : Prop where
  uh : ∀ b, H' b → U b
  row : KY.OM wr w.heap.size v C
  ap : ∀ b, v.ownBlock = some b → ¬ H' b
  sh : SH wr B (.slice (some ⟨g, 0, none⟩) n cap) E
  nf : ∀ e ∈ E, NFe F' e
  vw : I.V wr F' H' y
  fr : FrB F w wr
  up : ∀ b, F' b → F b ∨ w.heap.size ≤ b
  ng : ¬ F' g
theorem PT.below {X : Type} {I : VI X} {y : X} {F : Nat → Prop} {w : World} {B g n cap : Nat} {E : List En} {C : List Ky} {v : Value} {U F' H' : Nat → Prop} {wr w2 : World} (h : PT I y F w B g n cap E C v U F' H' wr) (hb : Below wr.heap.size wr w2) : PT I y F w B g n cap E C v U F' H' w2 :=
  ⟨h.uh, h.row.later hb, h.ap, h.sh.later hb, h.nf, I.keep h.vw hb.size (fun b hH => hb.block b (I.low h.vw b hH)), h.fr.trans (G := F) (FrB.ofBelow hb) (fun _ _ k => k), h.up, h.ng⟩
/-- The lists of an entry lie below. -/
theorem eo_low {w : World} {e : En} (h : EO w e) {b : Nat} (hb : e.was.mv.ownBlock = some b ∨ e.was.lv.ownBlock = some b ∨ e.now.mv.ownBlock = some b ∨ e.now.lv.ownBlock = some b) : b < w.heap.size := by
  rcases hb with k | k | k | k
  · exact h.1.2.2 b (.inl k)
  · exact h.1.2.2 b (.inr k)
  · exact h.2.2.2 b (.inl k)
  · exact h.2.2.2 b (.inr k)
/-- A key is told. -/
theorem PT.app {X : Type} {I : VI X} {y : X} {F : Nat → Prop} {w : World} {B g n cap : Nat} {E : List En} {C C2 : List Ky} {v v2 : Value} {U F' H' : Nat → Prop} {wr w2 : World} (h : PT I y F w B g n cap E C v U F' H' wr) (hO : KY.OM w2 w.heap.size v2 C2) (hv : Grew wr v w2 v2) (hgw : g < w.heap.size) (hE : ∀ e ∈ E, EO w e) : PT I y F w B g n cap E C2 v2 U F' H' w2 := by
  have hg := hv.grown
  have hvb : ∀ b, v.ownBlock = some b → w.heap.size ≤ b := fun b hb => (World.ownsRow.lt h.row b hb).1
  have hf : FrB (fun b => v.ownBlock = some b) wr w2 := ⟨hg.os, hg.tape, hg.output, hg.size, fun b hb hn => hg.block b hb (fun e => hn e.symm)⟩
  refine ⟨h.uh, hO, fun b hb => ?_, h.sh.frb hf (fun e => by have := hvb g e; omega) (fun e he b hb hv2 => ?_), h.nf, I.keep h.vw hg.size (fun b hH => hg.block b (I.low h.vw b hH) (fun e => h.ap b e.symm hH)), ?_, h.up, h.ng⟩
  · rcases hv.lies b hb with e | e
    · exact h.ap b e
    · intro hH
      have := I.low h.vw b hH
      omega
  · have h1 := hvb b hv2
    have := eo_low (hE e he) hb
    omega
  · exact h.fr.trans hf (fun b hb e => by have := hvb b e; omega)
/-- A cell is put. -/
theorem PT.put {X : Type} {I : VI X} {y y2 : X} {F : Nat → Prop} {w : World} {B g n cap : Nat} {E : List En} {C : List Ky} {v : Value} {U F' H' : Nat → Prop} {wr w2 : World} {c : Cl} (h : PT I y F w B g n cap E C v U F' H' wr) (hV : I.V w2 (nF F' wr w2) (fun b => nF H' wr w2 b ∨ c.mv.ownBlock = some b ∨ c.lv.ownBlock = some b) y2) (hf : FrB F' wr w2) (hgw : g < w.heap.size) (hE : ∀ e ∈ E, EO w e) (hc : ∀ b, c.mv.ownBlock = some b ∨ c.lv.ownBlock = some b → b < w.heap.size) (hU1 : ∀ b, w.heap.size ≤ b → U b) (hU2 : ∀ b, c.mv.ownBlock = some b ∨ c.lv.ownBlock = some b → U b) : PT I y2 F w B g n cap E C v U (nF F' wr w2) (fun b => nF H' wr w2 b ∨ c.mv.ownBlock = some b ∨ c.lv.ownBlock = some b) w2 := by
  have hsz := h.fr.size
  refine ⟨fun b k => ?_, owns_blk h.row (fun b hb => hf.block b (World.ownsRow.lt h.row b hb).2 (fun k => h.ap b hb (I.sub h.vw b k))), fun b hb k => ?_, h.sh.frb hf h.ng h.nf, fun e he b hb k => ?_, hV, h.fr.trans hf (fun b hb k => (h.up b k).resolve_right (by omega)), fun b k => ?_, fun k => ?_⟩
  · rcases k with k | k
    · rcases k with k | k
      · exact h.uh b k
      · exact hU1 b (Nat.le_trans hsz k.1)
    · exact hU2 b k
  · have h1 := World.ownsRow.lt h.row b hb
    rcases k with k | k
    · rcases k with k | k
      · exact h.ap b hb k
      · have := k.1; omega
    · have := hc b k; omega
  · rcases k with k | k
    · exact h.nf e he b hb k
    · have := eo_low (hE e he) hb; have := k.1; omega
  · rcases k with k | k
    · exact h.up b k
    · right; have := k.1; omega
  · rcases k with k | k
    · exact h.ng k
    · have := k.1; omega
end Go.Proofs.YtdjhbecbbmdimaaGreatDoor
namespace Go.Proofs.YtdjhbecbbmdimaaGreatDoor
open Go.RowKit

set_option maxRecDepth 100000 in
set_option maxHeartbeats 8000000 in
theorem put_any {X : Type} (I : VI X) (x : X) (U F H : Nat → Prop) (B g n cap : Nat) (E : List En) (w : World) (hS : SH w B (.slice (some ⟨g, 0, none⟩) n cap) E) (hV : I.V w F H x) (hNF : ∀ e ∈ E, NFe F e) (hg : ¬ F g) (hgw : g < w.heap.size) (h1 : n ≤ 1000000) (hfew : ∀ e ∈ E, e.was.ml.length ≤ 1000000 ∧ e.now.ml.length ≤ 1000000 ∧ e.now.ll.length ≤ 1000000) (hrmx : n ≤ I.rm x) (hU0 : ∀ b, H b → U b) (hU1 : ∀ b, w.heap.size ≤ b → U b) (hU2 : ∀ e ∈ E, ∀ b, e.now.mv.ownBlock = some b ∨ e.now.lv.ownBlock = some b → U b) :
    Calls Tryz.prog 40 #[.slice (some ⟨g, 0, none⟩) n cap, .iface I.T I.p] w fun r w' => ∃ v F' H', r = .returned v ∧ PT I (pxs I x E) F w B g n cap E (chg E) v U F' H' w' := by
  have HS := hide hS
  have HL := hide hS.len
  have HFW := hide hfew
  have HRM := hide hrmx
  have mP := I.mP
  have eP := I.eP
  have H0 : Hid (PT I (pxs I x (E.take 0)) F w B g n cap E (chg (E.take 0)) (.slice none 0 0) U F H w) := hide ⟨hU0, KY.OM.nil _ _, fun b hb => (by cases hb), hS, hNF, hV, FrB.refl _ _, fun b hb => .inl hb, hg⟩
  have HGW := hide hgw
  have HU1 := hide hU1
  have HU2 := hide hU2
  clear hS hV hNF hg hfew hrmx hgw hU0 hU1 hU2
  go_enter Tryz.func40, Tryz.ntmps40
  go_wp2_with fail
  go_loopw [5, 11] (fun c i wr => ∃ (k : Nat) (a : Option Addr) (m cp : Nat) (F' H' : Nat → Prop), k ≤ n ∧ i = .int .i64 (k : Int) ∧ c = .slice a m cp ∧ Hid (PT I (pxs I x (E.take k)) F w B g n cap E (chg (E.take k)) (.slice a m cp) U F' H' wr)) (fun _ i _ => n - (intOf i).toNat)
  case atStart => exact ⟨0, none, 0, 0, F, H, Nat.zero_le _, rfl, rfl, H0⟩
  case round =>
    clear H0
    obtain ⟨k, a, m, cp, F', H', hk, rfl, rfl, HP⟩ := hrel
    by_cases hlt : k < n
    · obtain ⟨e, he⟩ : ∃ e, E[k]? = some e := ⟨_, List.getElem?_eq_getElem (by rw [HL.out]; exact hlt)⟩
      have hd : decide ((k : Int) < (n : Int)) = true := by rw [decide_eq_true_eq]; omega
      have k0 : (0 : Int) ≤ (k : Int) := by omega
      have k1 : (k : Int) < (n : Int) := by omega
      have hpl : ∃ q0 q1 wa wm ma mc ws wl la lc na nm ma2 mc2 ns nl la2 lc2, e = ⟨(q0, q1), ⟨wa, wm, .slice ma (List.length wm) mc, ws, wl, .slice la (List.length wl) lc⟩, ⟨na, nm, .slice ma2 (List.length nm) mc2, ns, nl, .slice la2 (List.length nl) lc2⟩⟩ := by
        obtain ⟨⟨q0, q1⟩, ⟨wa, wm, m1, ws, wl, l1⟩, ⟨na, nm, m2, ns, nl, l2⟩⟩ := e
        have hEe := HS.out.ent _ (List.mem_of_getElem? he)
        obtain ⟨a1, c1, r1⟩ := BL.rm_lt hEe.1.1
        obtain ⟨a2, c2, r2⟩ := LG.rm_lt hEe.1.2.1
        obtain ⟨a3, c3, r3⟩ := BL.rm_lt hEe.2.1
        obtain ⟨a4, c4, r4⟩ := LG.rm_lt hEe.2.2.1
        simp only at r1 r2 r3 r4
        subst r1 r2 r3 r4
        exact ⟨_, _, _, _, _, _, _, _, _, _, _, _, _, _, _, _, _, _, rfl⟩
      obtain ⟨q0, q1, wa, wm, ma, mc, ws, wl, la, lc, na, nm, ma2, mc2, ns, nl, la2, lc2, rfl⟩ := hpl

      have hEO := HP.out.sh.ent _ (List.mem_of_getElem? he)
      obtain ⟨s0, s1, s2, s3, s4, s5, s6, s7, s8, s9⟩ := HP.out.sh.cells he
      simp only at s0 s1 s2 s3 s4 s5 s6 s7 s8 s9
      have b1 := (Below.refl wr.heap.size wr).alloc (Nat.le_refl _) (.cells #[.int .i64 q0, .int .i64 q1, .int .i64 wa, .slice ma wm.length mc, .int .i64 ws, .slice la wl.length lc, .int .i64 na, .slice ma2 nm.length mc2, .int .i64 ns, .slice la2 nl.length lc2] 103)
      have hs1 : (wr.alloc (.cells #[.int .i64 q0, .int .i64 q1, .int .i64 wa, .slice ma wm.length mc, .int .i64 ws, .slice la wl.length lc, .int .i64 na, .slice ma2 nm.length mc2, .int .i64 ns, .slice la2 nl.length lc2] 103)).heap.size = wr.heap.size + 1 := by simp
      have N1 := hide (alloc_new wr (.cells #[.int .i64 q0, .int .i64 q1, .int .i64 wa, .slice ma wm.length mc, .int .i64 ws, .slice la wl.length lc, .int .i64 na, .slice ma2 nm.length mc2, .int .i64 ns, .slice la2 nl.length lc2] 103))
      obtain ⟨y0, y1, y2, y3, y4, y5, y6, y7, y8, y9⟩ := ten_cells N1.out rfl
      have HP1 := hide (HP.out.below b1)
      have hEO1 := hEO.later b1
      have hfw := HFW.out _ (List.mem_of_getElem? he)
      have HSM := hide (BL.same_any wa na _ _ wm nm _ hEO1.1.1 hEO1.2.1 (by have := hfw.1; simp only at this; omega) (by have := hfw.2.1; simp only at this; omega))
      have HE := hide he
      have HWR := hide hs1
      have HNB : Hid (∀ b, (Value.slice a m cp).ownBlock = some b → b < wr.heap.size) := hide (fun b hb => (World.ownsRow.lt HP.out.row b hb).2)
      clear hEO1 hEO hs1 b1 he hfw
      go_wp2_with fail
      refine HSM.out.mono ?_
      rintro r w2 ⟨rfl, hb2⟩
      have HP2 := hide (HP1.out.below hb2)
      have N2 := hide (blk_later N1.out hb2)
      clear y0 y1 y2 y3 y4 y5 y6 y7 y8 y9 s0 s1 s2 s3 s4 s5 s6 s7 s8 s9 HSM N1 HP1 HP hb2
      obtain ⟨y0, y1, y2, y3, y4, y5, y6, y7, y8, y9⟩ := ten_cells N2.out rfl
      have HEM := hide (HS.out.ent _ (List.mem_of_getElem? HE.out))
      obtain ⟨sm, hsm⟩ : ∃ sm, decide (wa = na ∧ wm = nm) = sm := ⟨_, rfl⟩
      rw [hsm]
      have HSMv := hide hsm
      clear hsm
      cases sm with
      | false =>
        have HHL : Hid (hld ⟨(q0, q1), ⟨wa, wm, .slice ma wm.length mc, ws, wl, .slice la wl.length lc⟩, ⟨na, nm, .slice ma2 nm.length mc2, ns, nl, .slice la2 nl.length lc2⟩⟩ = true) := hide (by unfold hld; rw [show decide (wa = na ∧ wm = nm) = false from HSMv.out]; rfl)
        have HOa := hide HP2.out.row
        go_wp2_with (at_builtin; refine KY.wp_append_kept rfl _ _ rfl w.heap.size _ _ (q0, q1) _ rfl rfl (World.ownsRow.alloc HOa.out _) ?c1 ?c1b ?c2 ?c3 ?_)
        case c2 => have := HP2.out.fr.size; simp; omega
        case c3 => have := chg_len (E.take k); have h2 := HL.out; rw [List.length_take] at this; omega
        intro v' w3 hO3 hG3 _
        have HP3 := hide ((HP2.out.below ((Below.refl w2.heap.size w2).alloc (Nat.le_refl _) (.cells #[.int .i64 q0, .int .i64 q1] 39))).app hO3 hG3 HGW.out (fun e he => HS.out.ent e he))
        have hne : (Value.slice a m cp).ownBlock ≠ some wr.heap.size := fun h => by have := HNB.out _ h; omega
        have N3 := hide ((hG3.grown.block wr.heap.size (by have := (Array.getElem?_eq_some_iff.1 (alloc_block (o := .cells #[.int .i64 q0, .int .i64 q1] 39) N2.out)).1; exact this) (fun h => hne h.symm)).trans (alloc_block (o := .cells #[.int .i64 q0, .int .i64 q1] 39) N2.out))
        obtain ⟨a3, cp3, hv3⟩ := KY.OM.slice hO3
        obtain ⟨m3, hm3⟩ : ∃ m3, (chg (E.take k) ++ [(q0, q1)]).length = m3 := ⟨_, rfl⟩
        rw [hm3] at hv3
        subst hv3
        clear hO3 hG3 hne HP2 HOa N2 hm3 y0 y1 y2 y3 y4 y5 y6 y7 y8 y9
        obtain ⟨y0, y1, y2, y3, y4, y5, y6, y7, y8, y9⟩ := ten_cells N3.out rfl
        have HV3 := hide HP3.out.vw
        have HEN := hide (HP3.out.sh.ent _ (List.mem_of_getElem? HE.out))
        have HPU := hide (I.put (q0, q1) (⟨na, nm, .slice ma2 nm.length mc2, ns, nl, .slice la2 nl.length lc2⟩ : Cl) HV3.out HEN.out.2 (fun b hb hf => HP3.out.nf _ (List.mem_of_getElem? HE.out) b (hb.elim (fun h => .inr (.inr (.inl h))) (fun h => .inr (.inr (.inr h)))) hf) (by have h := pxs_rm I x (E.take k); have h2 := HRM.out; rw [List.length_take] at h; omega) (HFW.out _ (List.mem_of_getElem? HE.out)).2.1 (HFW.out _ (List.mem_of_getElem? HE.out)).2.2)
        have HPD : Hid (ptd (⟨(q0, q1), ⟨wa, wm, .slice ma wm.length mc, ws, wl, .slice la wl.length lc⟩, ⟨na, nm, .slice ma2 nm.length mc2, ns, nl, .slice la2 nl.length lc2⟩⟩ : En) = true) := hide (by unfold ptd; rw [HHL.out]; rfl)
        go_wp2_with fail
        refine HPU.out.mono ?_
        rintro r w4 ⟨rfl, hV4, hf4⟩
        have hP4 := HP3.out.put hV4 hf4 HGW.out (fun e he => HS.out.ent e he) (fun b hb => HEM.out.2.2.2 b hb) HU1.out (fun b hb => HU2.out _ (List.mem_of_getElem? HE.out) b hb)
        obtain ⟨F2, hF2⟩ : ∃ F2, nF F' w3 w4 = F2 := ⟨_, rfl⟩
        obtain ⟨H2, hH2⟩ : ∃ H2, (fun b => nF H' w3 w4 b ∨ (⟨na, nm, .slice ma2 nm.length mc2, ns, nl, .slice la2 nl.length lc2⟩ : Cl).mv.ownBlock = some b ∨ (⟨na, nm, .slice ma2 nm.length mc2, ns, nl, .slice la2 nl.length lc2⟩ : Cl).lv.ownBlock = some b) = H2 := ⟨_, rfl⟩
        rw [hF2, hH2] at hP4
        have HP4 := hide hP4
        clear hP4 hV4 hf4 hF2 hH2 HPU HV3 HEN y0 y1 y2 y3 y4 y5 y6 y7 y8 y9
        go_wp2_with fail
        go_roundw
        case rel => exact ⟨k + 1, a3, m3, cp3, F2, H2, by omega, by go_num, rfl, hide (by rw [pxs_take I x HE.out, chg_take HE.out, if_pos HPD.out, if_pos HHL.out]; exact HP4.out)⟩
        case measure => simp [intOf]; omega
        
      | true =>
        have HHL : Hid (hld (⟨(q0, q1), ⟨wa, wm, .slice ma wm.length mc, ws, wl, .slice la wl.length lc⟩, ⟨na, nm, .slice ma2 nm.length mc2, ns, nl, .slice la2 nl.length lc2⟩⟩ : En) = false) := hide (by unfold hld; rw [show decide (wa = na ∧ wm = nm) = true from HSMv.out]; rfl)
        by_cases hst : ws = ns
        · have HPD : Hid (ptd (⟨(q0, q1), ⟨wa, wm, .slice ma wm.length mc, ws, wl, .slice la wl.length lc⟩, ⟨na, nm, .slice ma2 nm.length mc2, ns, nl, .slice la2 nl.length lc2⟩⟩ : En) = false) := hide (by unfold ptd; rw [HHL.out, Bool.false_or]; exact bne_eq_false_iff_eq.2 hst)
          subst hst
          go_wp2_with fail
          go_roundw
          case rel => exact ⟨k + 1, a, m, cp, F', H', by omega, by go_num, rfl, hide (by rw [pxs_take I x HE.out, chg_take HE.out, if_neg (by rw [HPD.out]; exact Bool.false_ne_true), if_neg (by rw [HHL.out]; exact Bool.false_ne_true)]; exact HP2.out)⟩
          case measure => simp [intOf]; omega
        · have hsd : decide (ws = ns) = false := by rw [decide_eq_false_iff_not]; exact hst
          have HV3 := hide HP2.out.vw
          have HEN := hide (HP2.out.sh.ent _ (List.mem_of_getElem? HE.out))
          have HPU := hide (I.put (q0, q1) (⟨na, nm, .slice ma2 nm.length mc2, ns, nl, .slice la2 nl.length lc2⟩ : Cl) HV3.out HEN.out.2 (fun b hb hf => HP2.out.nf _ (List.mem_of_getElem? HE.out) b (hb.elim (fun h => .inr (.inr (.inl h))) (fun h => .inr (.inr (.inr h)))) hf) (by have h := pxs_rm I x (E.take k); have h2 := HRM.out; rw [List.length_take] at h; omega) (HFW.out _ (List.mem_of_getElem? HE.out)).2.1 (HFW.out _ (List.mem_of_getElem? HE.out)).2.2)
          have HPD : Hid (ptd (⟨(q0, q1), ⟨wa, wm, .slice ma wm.length mc, ws, wl, .slice la wl.length lc⟩, ⟨na, nm, .slice ma2 nm.length mc2, ns, nl, .slice la2 nl.length lc2⟩⟩ : En) = true) := hide (by unfold ptd; rw [HHL.out, Bool.false_or]; exact bne_iff_ne.2 hst)
          go_wp2_with fail
          refine HPU.out.mono ?_
          rintro r w4 ⟨rfl, hV4, hf4⟩
          have hP4 := HP2.out.put hV4 hf4 HGW.out (fun e he => HS.out.ent e he) (fun b hb => HEM.out.2.2.2 b hb) HU1.out (fun b hb => HU2.out _ (List.mem_of_getElem? HE.out) b hb)
          obtain ⟨F2, hF2⟩ : ∃ F2, nF F' w2 w4 = F2 := ⟨_, rfl⟩
          obtain ⟨H2, hH2⟩ : ∃ H2, (fun b => nF H' w2 w4 b ∨ (⟨na, nm, .slice ma2 nm.length mc2, ns, nl, .slice la2 nl.length lc2⟩ : Cl).mv.ownBlock = some b ∨ (⟨na, nm, .slice ma2 nm.length mc2, ns, nl, .slice la2 nl.length lc2⟩ : Cl).lv.ownBlock = some b) = H2 := ⟨_, rfl⟩
          rw [hF2, hH2] at hP4
          have HP4 := hide hP4
          clear hP4 hV4 hf4 hF2 hH2 HPU HV3 HEN y0 y1 y2 y3 y4 y5 y6 y7 y8 y9
          go_wp2_with fail
          go_roundw
          case rel => exact ⟨k + 1, a, m, cp, F2, H2, by omega, by go_num, rfl, hide (by rw [pxs_take I x HE.out, chg_take HE.out, if_pos HPD.out, if_neg (by rw [HHL.out]; exact Bool.false_ne_true)]; exact HP4.out)⟩
          case measure => simp [intOf]; omega
          
    · have hd : decide ((k : Int) < (n : Int)) = false := by rw [decide_eq_false_iff_not]; omega
      have HE : Hid (PT I (pxs I x E) F w B g n cap E (chg E) (.slice a m cp) U F' H' wr) := hide (by have h := HP.out; rw [List.take_of_length_le (by rw [HL.out]; omega)] at h; exact h)
      go_wp2_with fail
      go_ret
      exact ⟨_, F', H', rfl, HE.out⟩
end Go.Proofs.YtdjhbecbbmdimaaGreatDoor
