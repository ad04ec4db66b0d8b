/-
  My own text: layer 23: the law LinksLeast.
-/
import Derived.Test.YtmgjonifoeeemaaLW2
import Derived.Deep.CutRange
namespace Go.Proofs.Ytmgjonifoeeemaa
open Go.RowKit

theorem Try.infoBo : (Try.prog.info? 4).map (fun i => (i.zero, i.size, i.bytes)) = some (some (.bool false), 1, 1) := by kernel_rfl
/-- Block P is a row of these answers. -/
def BV (w : World) (P : Nat) (L : List Bool) : Prop := w.rowIs P 4 L.length (fun j => .bool (L.getD j false))
theorem BV.cell {w : World} {P : Nat} {L : List Bool} (h : BV w P L) {j : Nat} {x : Bool} (hx : L[j]? = some x) : w.cell? ⟨P, j, none⟩ = some (.bool x) := by
  have hj := (List.getElem?_eq_some_iff.1 hx).1
  rw [World.rowIs.cell h hj, List.getD_eq_getElem?_getD, hx]; rfl
theorem BV.frozen {w : World} {P : Nat} {L : List Bool} (h : BV w P L) (j : Nat) : w.frozen? ⟨P, j, none⟩ = false := World.rowIs.frozen h j
theorem BV.lt {w : World} {P : Nat} {L : List Bool} (h : BV w P L) : P < w.heap.size := World.rowIs.lt h
theorem BV.set {w : World} {P : Nat} {L : List Bool} (h : BV w P L) (k : Nat) (x : Bool) : BV (w.setCell ⟨P, k, none⟩ (.bool x)) P (L.set k x) := by
  have h2 := World.rowIs.set h k (.bool x)
  unfold BV
  rw [List.length_set]
  refine World.rowIs.congr h2 fun i hi => ?_
  by_cases e : i = k
  · subst e; rw [if_pos rfl, List.getD_eq_getElem?_getD, List.getElem?_set_self hi]; rfl
  · rw [if_neg e, List.getD_eq_getElem?_getD, List.getD_eq_getElem?_getD, List.getElem?_set_ne (fun q => e q.symm)]
theorem BV.made (w : World) (n : Nat) : BV (w.alloc (.cells (madeCells #[.bool false] n) 4)) w.heap.size (List.replicate n false) := by
  have h := World.rowIs_made w (.bool false) n 4
  unfold BV
  rw [List.length_replicate]
  refine World.rowIs.congr h fun i hi => ?_
  rw [List.getD_eq_getElem?_getD, List.getElem?_replicate, if_pos hi]; rfl
/-- What is read of the pairs and of the groups stays. -/
structure RP (n P b off : Nat) (M : List (Int × Int)) (ps : List (Nat × Nat)) (W : World) : Prop where
  g : ∀ x, x < n → W.cell? ⟨P, x, none⟩ = some (.int .i64 ((rk ps x : Nat) : Int))
  p : ∀ (j x y : Nat), ps[j]? = some (x, y) → W.cell? ⟨b, off + j * 2, none⟩ = some (.int .i64 (x : Int)) ∧ W.cell? ⟨b, off + j * 2 + 1, none⟩ = some (.int .i64 (y : Int))
theorem pn_at {L : List (Int × Int)} {j : Nat} {p : Int × Int} (h : L[j]? = some p) : (pn L)[j]? = some (p.1.toNat, p.2.toNat) := by
  unfold pn; rw [List.getElem?_map, h]; rfl
set_option maxRecDepth 100000 in
set_option maxHeartbeats 8000000 in
theorem least_law (n0 : Int) (v : Value) (L : List (Int × Int)) (w : World) (hv : TW.RM w v L) (hl : L.length ≤ 8796093022200) :
    Calls Try.prog 3 #[.int .i64 n0, v] w fun e w' => e = .returned (.bool true) ∧ Below w.heap.size w w' := by
  have HF := hide (fits_any n0 v L w hv hl)
  have HL := hide hl
  obtain ⟨a0, c0, rfl⟩ := TW.rm_lt hv
  clear hv hl
  go_enter Try.func3, Try.ntmps3
  go_wp2_with fail
  refine HF.out.mono ?_
  rintro e w1 ⟨n, vo, hn, rfl, hM, hb1⟩
  have HN := hide hn
  have HB1 := hide hb1
  have HMO := hide hM
  obtain ⟨M, hMM⟩ : ∃ M, Hid (fitP n L = M) := ⟨_, hide rfl⟩
  have HML : Hid (M.length ≤ 8796093022200) := hide (by rw [← hMM.out]; exact Nat.le_trans (fitP_len n L) HL.out)
  have HNM : Hid (∀ (j : Nat) (p : Int × Int), M[j]? = some p → namB (n : Int) p = true) := hide (by rw [← hMM.out]; exact fitP_ok n L)
  rw [hMM.out] at HMO
  have HG := hide (groupsOk_any n vo M w1 HMO.out HML.out (by omega) HNM.out)
  obtain ⟨oa, oc, rfl⟩ := TW.rm_lt HMO.out
  clear hM hb1 hn HF
  go_wp2_with fail
  refine HG.out.mono ?_
  rintro e w2 ⟨P, rfl, hP, hV, hb2⟩
  have HB2 := hide (HB1.out.trans (hb2.mono HB1.out.size))
  have HMO2 := hide (HMO.out.later hb2)
  have HVP := hide hV
  have hnn : ((n : Int) != (n : Int)) = false := by simp
  clear hP hV hb2 HG HMO
  go_wp2_with fail
  refine (works_any _).mono ?_
  rintro e w3 ⟨rfl, hb3⟩
  have HB3 := hide (HB2.out.trans (hb3.mono HB2.out.size))
  have HMO3 := hide (HMO2.out.later hb3)
  have HVP3 := hide (HVP.out.later hb3)
  obtain ⟨ps, hps⟩ : ∃ ps, Hid (pn M = ps) := ⟨_, hide rfl⟩
  have HPS : Hid (∀ p ∈ ps, p.1 < n ∧ p.2 < n) := hide (by rw [← hps.out]; exact pn_mem HNM.out)
  have HPL : Hid (ps.length = M.length) := hide (by rw [← hps.out]; exact pn_len M)
  rw [hps.out] at HVP3
  obtain ⟨b, off, HRP, HBO⟩ : ∃ b off, Hid (M.length = 0 ∨ oa = some ⟨b, off, none⟩) ∧ Hid (b < w3.heap.size ∧ ∀ W, Below w3.heap.size w3 W → RP n P b off M ps W) := by
    obtain ⟨a', cap', hv', _, hr⟩ := HMO3.out
    injection hv' with e1 _ _
    subst e1
    have hg : ∀ W, Below w3.heap.size w3 W → ∀ x, x < n → W.cell? ⟨P, x, none⟩ = some (.int .i64 ((rk ps x : Nat) : Int)) := fun W hW x hx => (HVP3.out.later hW).cell (grp_at ps hx)
    rcases hr with h0 | ⟨b, off, ha, hbl, hc⟩
    · refine ⟨P, 0, hide (.inl (by rw [h0]; rfl)), hide ⟨HVP3.out.lt, fun W hW => ⟨hg W hW, fun j x y hj => ?_⟩⟩⟩
      have := (List.getElem?_eq_some_iff.1 hj).1
      rw [HPL.out, h0] at this
      simp at this
    · refine ⟨b, off, hide (.inr ha), hide ⟨hbl, fun W hW => ⟨hg W hW, fun j x y hj => ?_⟩⟩⟩
      have hjM : j < M.length := by have := (List.getElem?_eq_some_iff.1 hj).1; rw [HPL.out] at this; exact this
      obtain ⟨p, hp⟩ : ∃ p, M[j]? = some p := ⟨_, List.getElem?_eq_getElem hjM⟩
      have h1 := pn_at hp
      rw [hps.out, hj] at h1
      injection h1 with h1
      injection h1 with hx hy
      have h2 := namB_iff.1 (HNM.out j p hp)
      obtain ⟨h3, h4⟩ := hc j p hp
      rw [hx, hy, show ((p.1.toNat : Nat) : Int) = p.1 by omega, show ((p.2.toNat : Nat) : Int) = p.2 by omega]
      exact ⟨(hW.cell (p := ⟨b, _, none⟩) hbl).trans h3, (hW.cell (p := ⟨b, _, none⟩) hbl).trans h4⟩
  obtain ⟨ml, hml⟩ : ∃ ml, Hid (M.length = ml) := ⟨_, hide rfl⟩
  rw [hml.out] at HRP HML HPL
  rw [hml.out]
  clear hb3 HB2 HMO2 HMO3 HVP HVP3 HNM hMM hps HB1
  go_wp2_with fail
  go_loopw [7] (fun i wr => ∃ j : Nat, j ≤ ml ∧ i = .int .i64 (j : Int) ∧ Hid (Below w3.heap.size w3 wr)) (fun i _ => ml - (intOf i).toNat)
  case atStart => exact ⟨0, Nat.zero_le _, rfl, hide (Below.refl _ _)⟩
  case round =>
    obtain ⟨j, hj, rfl, HB⟩ := hrel
    by_cases hlt : j < ml
    · have hd1 : decide ((j : Int) < (ml : Int)) = true := by rw [decide_eq_true_eq]; omega
      have hd1' : decide (j < ml) = true := decide_eq_true hlt
      have j0 : (0 : Int) ≤ (j : Int) := by omega
      have j1 : (j : Int) < (ml : Int) := by omega
      have wj : wrap64 ((j : Int) + 1) = (j : Int) + 1 := by have := HML.out; unfold wrap64; omega
      obtain ⟨⟨x, y⟩, hxy⟩ : ∃ p, ps[j]? = some p := ⟨_, List.getElem?_eq_getElem (by rw [HPL.out]; exact hlt)⟩
      have hm := List.mem_of_getElem? hxy
      obtain ⟨hxn, hyn⟩ := HPS.out _ hm
      dsimp only at hxn hyn
      have rp := HBO.out.2 wr HB.out
      obtain ⟨c1, c2⟩ := rp.p j x y hxy
      have c3 := rp.g x hxn
      have c4 := rp.g y hyn
      have hr := rk_pair ps _ hm
      dsimp only at hr
      rw [← hr] at c4
      obtain ⟨r, hrr⟩ : ∃ r : Nat, rk ps x = r := ⟨_, rfl⟩
      rw [hrr] at c3 c4
      have hne := nat_eq r
      have x0 : (0 : Int) ≤ (x : Int) := by omega
      have x1 : (x : Int) < (n : Int) := by omega
      have y0 : (0 : Int) ≤ (y : Int) := by omega
      have y1 : (y : Int) < (n : Int) := by omega
      have hoa := HRP.out.resolve_left (by omega)
      subst hoa
      have HB5 := HB
      clear hm hr hrr rp hxy
      go_wp2_with fail
      go_quiet (fail)
      have HB6 := hide (below_dN HB5.out nq)
      go_wp2_with fail
      go_roundw
      case rel => exact ⟨j + 1, hlt, iv_succ wj, HB6⟩
      case measure => exact meas_j wj hlt
    · have e : j = ml := by omega
      subst e
      have hd1 : decide ((j : Int) < (j : Int)) = false := by simp
      have hd1' : decide (j < j) = false := by simp
      have hmk := run_make_row' (P := Try.prog) 32 4 (.bool false) 1 Try.underlying32 Try.infoBo rfl .i64 .i64 n (by have := HN.out; omega) (by have := HN.out; omega)
      have HQ0 := hide (BV.made wr n)
      have hbq : Below wr.heap.size wr (wr.alloc (.cells (madeCells #[.bool false] n) 4)) := (Below.refl _ _).alloc (Nat.le_refl _) _
      have HB4 := hide (HB.out.trans (hbq.mono HB.out.size))
      have HQL : Hid (w3.heap.size ≤ wr.heap.size) := hide HB.out.size
      obtain ⟨Q, hQ⟩ : ∃ Q, wr.heap.size = Q := ⟨_, rfl⟩
      rw [hQ] at HQ0 HQL
      clear hbq HB
      go_wp2_with fail
      generalize (wr.alloc (.cells (madeCells #[.bool false] n) 4)) = w4 at *
      clear hQ hmk hlt
      go_loopw [9] (fun i wr => ∃ (k : Nat) (m : List Bool), k ≤ n ∧ i = .int .i64 (k : Int) ∧ Hid (m.length = n ∧ ∀ x, x < k → m[x]? = some (decide (rk ps x = x))) ∧ Hid (BV wr Q m) ∧ Hid (Below w3.heap.size w3 wr)) (fun i _ => n - (intOf i).toNat)
      case atStart => exact ⟨0, _, Nat.zero_le _, rfl, hide ⟨List.length_replicate, fun x hx => by omega⟩, HQ0, HB4⟩
      case round =>
        clear HQ0 HB4
        obtain ⟨k, m, hk, rfl, HM, HV, HB⟩ := hrel
        by_cases hltk : k < n
        · have hd2 : decide ((k : Int) < (n : Int)) = true := by rw [decide_eq_true_eq]; omega
          have hd2' : decide (k < n) = true := decide_eq_true hltk
          have k0 : (0 : Int) ≤ (k : Int) := by omega
          have k1 : (k : Int) < (n : Int) := by omega
          have wk : wrap64 ((k : Int) + 1) = (k : Int) + 1 := by have := HN.out; unfold wrap64; omega
          have rp := HBO.out.2 wr HB.out
          obtain ⟨r, hr⟩ : ∃ r, Hid (rk ps k = r) := ⟨_, hide rfl⟩
          have h1 := rk_le ps k
          rw [hr.out] at h1
          have hrn : r < n := by omega
          have c1 := rp.g k hltk
          have c2 := rp.g r hrn
          rw [hr.out] at c1
          rw [h1.2] at c2
          have r0 : (0 : Int) ≤ (r : Int) := by omega
          have r1 : (r : Int) < (n : Int) := by omega
          have e1 : decide ((r : Int) < 0) = false := by rw [decide_eq_false_iff_not]; omega
          have e2 : decide ((k : Int) < (r : Int)) = false := by rw [decide_eq_false_iff_not]; omega
          have e2' : decide (k < r) = false := by rw [decide_eq_false_iff_not]; omega
          have e3 := nat_eq r
          obtain ⟨bq, hbq⟩ : ∃ bq, Hid (decide (rk ps k = k) = bq) := ⟨_, hide rfl⟩
          have e4 : ((r : Int) == (k : Int)) = bq := by rw [← hbq.out, hr.out, Bool.eq_iff_iff, beq_iff_eq, decide_eq_true_eq]; omega
          have hkm : k < m.length := by have := HM.out.1; omega
          have HVd : ∀ q, Hid (BV (wr.drewN q) Q m) := fun q => hide HV.out
          have HBd : ∀ q, Hid (Below w3.heap.size w3 (wr.drewN q)) := fun q => hide (below_dN HB.out q)
          have HVd := hide HVd
          have HBd := hide HBd
          have HCd : Hid (∀ W, Below w3.heap.size w3 W → W.cell? ⟨P, k, none⟩ = some (.int .i64 (r : Int))) := hide (fun W hW => by have := (HBO.out.2 W hW).g k hltk; rw [hr.out] at this; exact this)
          clear rp h1 HV HB
          go_wp2_with fail
          go_quiet (fail)
          obtain ⟨w5, hw5⟩ : ∃ x, wr.drewN nq = x := ⟨_, rfl⟩
          have HV5 := HVd.out nq
          have HB5 := HBd.out nq
          rw [hw5] at HV5 HB5
          rw [hw5]
          have c5 := HCd.out w5 HB5.out
          have c6 := HV5.out.cell (List.getElem?_eq_getElem hkm)
          obtain ⟨mb, hmb⟩ : ∃ mb, m[k] = mb := ⟨_, rfl⟩
          rw [hmb] at c6
          have f6 := HV5.out.frozen k
          obtain ⟨w6, hw6⟩ : ∃ x, w5.setCell ⟨Q, k, none⟩ (.bool bq) = x := ⟨_, rfl⟩
          have HV6 : Hid (BV w6 Q (m.set k bq)) := hide (by rw [← hw6]; exact HV5.out.set k bq)
          have HB6 : Hid (Below w3.heap.size w3 w6) := hide (by rw [← hw6]; exact gb_below HB5.out (gb_set w5 Q k _) HQL.out HB5.out.size)
          clear hw5 hmb hkm HVd HBd HCd c1 c2
          go_wp2_with fail
          go_roundw
          case rel =>
            refine ⟨k + 1, m.set k bq, hltk, iv_succ wk, hide ⟨by rw [List.length_set]; exact HM.out.1, fun x hx => ?_⟩, HV6, HB6⟩
            by_cases e : k = x
            · subst e; rw [List.getElem?_set_self (by have := HM.out.1; omega), hbq.out]
            · rw [List.getElem?_set_ne e]; exact HM.out.2 x (by omega)
          case measure => exact meas_j wk hltk
        · have e : k = n := by omega
          subst e
          have hd2 : decide ((k : Int) < (k : Int)) = false := by simp
          have hd2' : decide (k < k) = false := by simp
          have HMA := hide (met_all HM.out.1 HPS.out HM.out.2)
          have HML0 : Hid (m.length = k) := hide HM.out.1
          clear HM
          go_wp2_with fail
          go_loopw [10] (fun i wr => ∃ s : Nat, s ≤ k ∧ i = .int .i64 (s : Int) ∧ Hid (BV wr Q (mrs m ps s)) ∧ Hid (Below w3.heap.size w3 wr)) (fun i _ => k - (intOf i).toNat)
          case atStart => exact ⟨0, Nat.zero_le _, rfl, HV, HB⟩
          case round =>
            clear HV HB
            obtain ⟨s, hs, rfl, HV, HB⟩ := hrel
            by_cases hlts : s < k
            · have hd3 : decide ((s : Int) < (k : Int)) = true := by rw [decide_eq_true_eq]; omega
              have hd3' : decide (s < k) = true := decide_eq_true hlts
              have ws : wrap64 ((s : Int) + 1) = (s : Int) + 1 := by have := HN.out; unfold wrap64; omega
              obtain ⟨ms, hms⟩ : ∃ ms, Hid (mrs m ps s = ms) := ⟨_, hide rfl⟩
              have HMS : Hid (ms.length = k) := hide (by rw [← hms.out, mrs_len]; exact HML0.out)
              rw [hms.out] at HV
              go_wp2_with fail
              go_loopw [11] (fun i wr => ∃ t : Nat, t ≤ j ∧ i = .int .i64 (t : Int) ∧ Hid (BV wr Q (mrd ms (ps.take t))) ∧ Hid (Below w3.heap.size w3 wr)) (fun i _ => j - (intOf i).toNat)
              case atStart => exact ⟨0, Nat.zero_le _, rfl, HV, HB⟩
              case round =>
                clear HV HB
                obtain ⟨t, ht, rfl, HV, HB⟩ := hrel
                by_cases hltt : t < j
                · have hd4 : decide ((t : Int) < (j : Int)) = true := by rw [decide_eq_true_eq]; omega
                  have hd4' : decide (t < j) = true := decide_eq_true hltt
                  have t0 : (0 : Int) ≤ (t : Int) := by omega
                  have t1 : (t : Int) < (j : Int) := by omega
                  have wt : wrap64 ((t : Int) + 1) = (t : Int) + 1 := by have := HML.out; unfold wrap64; omega
                  obtain ⟨⟨x, y⟩, hxy⟩ : ∃ p, ps[t]? = some p := ⟨_, List.getElem?_eq_getElem (by rw [HPL.out]; exact hltt)⟩
                  obtain ⟨hxn, hyn⟩ := HPS.out _ (List.mem_of_getElem? hxy)
                  dsimp only at hxn hyn
                  have rp := HBO.out.2 wr HB.out
                  obtain ⟨c1, c2⟩ := rp.p t x y hxy
                  obtain ⟨mt, hmt⟩ : ∃ mt, Hid (mrd ms (ps.take t) = mt) := ⟨_, hide rfl⟩
                  have HT : Hid (mrd ms (ps.take (t + 1)) = mst mt (x, y)) := hide (by rw [List.take_add_one, hxy]; show mrd ms (ps.take t ++ [(x, y)]) = _; rw [mrd_snoc, hmt.out])
                  have hml : mt.length = k := by rw [← hmt.out, mrd_len]; exact HMS.out
                  rw [hmt.out] at HV
                  obtain ⟨bx, hbx⟩ : ∃ bx, mt[x]? = some bx := ⟨_, List.getElem?_eq_getElem (by omega)⟩
                  obtain ⟨by', hby⟩ : ∃ by', mt[y]? = some by' := ⟨_, List.getElem?_eq_getElem (by omega)⟩
                  have c3 := HV.out.cell hbx
                  have c4 := HV.out.cell hby
                  have x0 : (0 : Int) ≤ (x : Int) := by omega
                  have x1 : (x : Int) < (k : Int) := by omega
                  have y0 : (0 : Int) ≤ (y : Int) := by omega
                  have y1 : (y : Int) < (k : Int) := by omega
                  have hoa := HRP.out.resolve_left (by omega)
                  subst hoa
                  obtain ⟨w5, hw5⟩ : ∃ z, wr.setCell ⟨Q, x, none⟩ (.bool true) = z := ⟨_, rfl⟩
                  obtain ⟨w6, hw6⟩ : ∃ z, w5.setCell ⟨Q, y, none⟩ (.bool true) = z := ⟨_, rfl⟩
                  have f0 := HV.out.frozen x
                  have HV5 : Hid (BV w5 Q (mt.set x true)) := hide (by rw [← hw5]; exact HV.out.set x true)
                  have HV6 : Hid (BV w6 Q ((mt.set x true).set y true)) := hide (by rw [← hw6]; exact HV5.out.set y true)
                  have HB5 : Hid (Below w3.heap.size w3 w5) := hide (by rw [← hw5]; exact gb_below HB.out (gb_set wr Q x _) HQL.out HB.out.size)
                  have HB6 : Hid (Below w3.heap.size w3 w6) := hide (by rw [← hw6]; exact gb_below HB5.out (gb_set w5 Q y _) HQL.out HB5.out.size)
                  have f1 := HV5.out.frozen y
                  obtain ⟨d1, d2⟩ := (HBO.out.2 w5 HB5.out).p t x y hxy
                  obtain ⟨cy, hcy⟩ : ∃ cy, (mt.set x true)[y]? = some cy := ⟨_, List.getElem?_eq_getElem (by rw [List.length_set]; omega)⟩
                  have d3 := HV5.out.cell hcy
                  have HXB := hide hbx
                  have HYB := hide hby
                  clear rp hxy hml hcy hbx hby
                  cases bx with
                  | true =>
                    have HVF : Hid (BV w6 Q (mrd ms (ps.take (t + 1)))) := hide (by rw [HT.out]; unfold mst; rw [HXB.out, if_pos (by simp)]; exact HV6.out)
                    clear HV HV5 HV6
                    go_wp2_with fail
                    go_roundw
                    case rel => exact ⟨t + 1, hltt, iv_succ wt, HVF, HB6⟩
                    case measure => exact meas_j wt hltt
                  | false =>
                    cases by' with
                    | true =>
                      have HVF : Hid (BV w6 Q (mrd ms (ps.take (t + 1)))) := hide (by rw [HT.out]; unfold mst; rw [HXB.out, HYB.out, if_pos (by simp)]; exact HV6.out)
                      clear HV HV5 HV6
                      go_wp2_with fail
                      go_roundw
                      case rel => exact ⟨t + 1, hltt, iv_succ wt, HVF, HB6⟩
                      case measure => exact meas_j wt hltt
                    | false =>
                      have HVF : Hid (BV wr Q (mrd ms (ps.take (t + 1)))) := hide (by rw [HT.out]; unfold mst; rw [HXB.out, HYB.out, if_neg (by simp)]; exact HV.out)
                      clear HV HV5 HV6 hw5 hw6 d1 d2 d3 f1
                      go_wp2_with fail
                      go_roundw
                      case rel => exact ⟨t + 1, hltt, iv_succ wt, HVF, HB⟩
                      case measure => exact meas_j wt hltt
                · have e : t = j := by omega
                  subst e
                  have hd4 : decide ((t : Int) < (t : Int)) = false := by simp
                  have hd4' : decide (t < t) = false := by simp
                  have HVF : Hid (BV wr Q (mrs m ps (s + 1))) := hide (by
                    have h := HV.out
                    rw [List.take_of_length_le (by rw [HPL.out]; exact Nat.le_refl _), ← hms.out] at h
                    exact h)
                  clear HV
                  go_wp2_with fail
                  go_roundw
                  case rel => exact ⟨s + 1, hlts, iv_succ ws, HVF, HB⟩
                  case measure => exact meas_j ws hlts
            · have e : s = k := by omega
              subst e
              have hd3 : decide ((s : Int) < (s : Int)) = false := by simp
              have hd3' : decide (s < s) = false := by simp
              go_wp2_with fail
              go_loopw [12] (fun i wr2 => ∃ t : Nat, t ≤ s ∧ i = .int .i64 (t : Int) ∧ wr2 = wr) (fun i _ => s - (intOf i).toNat)
              case atStart => exact ⟨0, Nat.zero_le _, rfl, rfl⟩
              case round =>
                obtain ⟨t, ht, rfl, hw⟩ := hrel
                obtain rfl := hw.symm
                by_cases hltt : t < s
                · have hd4 : decide ((t : Int) < (s : Int)) = true := by rw [decide_eq_true_eq]; omega
                  have hd4' : decide (t < s) = true := decide_eq_true hltt
                  have t0 : (0 : Int) ≤ (t : Int) := by omega
                  have t1 : (t : Int) < (s : Int) := by omega
                  have wt : wrap64 ((t : Int) + 1) = (t : Int) + 1 := by have := HN.out; unfold wrap64; omega
                  have c1 := HV.out.cell (HMA.out t hltt)
                  go_wp2_with fail
                  go_roundw
                  case rel => exact ⟨t + 1, hltt, iv_succ wt, trivial⟩
                  case measure => exact meas_j wt hltt
                · have e : t = s := by omega
                  subst e
                  have hd4 : decide ((t : Int) < (t : Int)) = false := by simp
                  have hd4' : decide (t < t) = false := by simp
                  have HBF := hide (HB3.out.trans (HB.out.mono HB3.out.size))
                  go_wp2_with fail
                  go_ret
                  exact ⟨rfl, HBF.out⟩
end Go.Proofs.Ytmgjonifoeeemaa
