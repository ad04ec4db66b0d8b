/-
  My own text: LK3, QReg, QRz in one.
-/
import Derived.Test.YtcdhblfefpkjgaaDoorLVC
import Derived.Deep.RegionHeld3
import Derived.Test.YtcdhblfefpkjgaaDoorHeld
namespace Go.Proofs.YtcdhblfefpkjgaaDoor
open Go.RowKit

/-- Pairs as places. -/
def pn (L : List (Int × Int)) : List (Nat × Nat) := L.map fun p => (p.1.toNat, p.2.toNat)
theorem pn_len (L : List (Int × Int)) : (pn L).length = L.length := by simp [pn]
theorem pn_take {L : List (Int × Int)} {k : Nat} {p : Int × Int} (h : L[k]? = some p) : (pn L).take (k + 1) = (pn L).take k ++ [(p.1.toNat, p.2.toNat)] := by
  unfold pn
  rw [List.take_add_one, List.getElem?_map, h]; rfl
theorem pn_mem {n : Nat} {L : List (Int × Int)} (h : ∀ (j : Nat) (p : Int × Int), L[j]? = some p → namB n p = true) : ∀ p ∈ pn L, p.1 < n ∧ p.2 < n := by
  intro p hp
  unfold pn at hp
  rw [List.mem_map] at hp
  obtain ⟨q, hq, rfl⟩ := hp
  obtain ⟨j, hj⟩ := List.getElem?_of_mem hq
  have := namB_iff.1 (h j q hj)
  omega
theorem NV.made (w : World) (n : Nat) : NV (w.alloc (.cells (madeCells #[.int .i64 0] n) 3)) w.heap.size (List.replicate n 0) := by
  have h := World.rowIs_made w (.int .i64 0) n 3
  unfold NV
  rw [List.length_replicate]
  refine World.rowIs.congr h fun i hi => ?_
  rw [List.getD_eq_getElem?_getD, List.getElem?_replicate, if_pos hi]; rfl
theorem range_of {n : Nat} {L : List Nat} (hl : L.length = n) (h : ∀ j, j < n → L[j]? = some j) : L = List.range n := by
  apply List.ext_getElem?
  intro j
  by_cases hj : j < n
  · rw [h j hj, List.getElem?_range hj]
  · rw [List.getElem?_eq_none (by omega), List.getElem?_eq_none (by rw [List.length_range]; omega)]
theorem gb_below {B P : Nat} {w w1 w2 : World} (h : Below B w w1) (k : w1.grownBy w2 (some P)) (hB : B ≤ P) (h1 : B ≤ w1.heap.size) : Below B w w2 :=
  h.grown k h1 (fun q hq => by cases hq; exact hB)
/-- What two calls of head keep. -/
def GS (w : World) (P n bx : Nat) (R : Nat → Nat) (x0 y0 : Nat) (W : World) : Prop :=
  (∃ M, NV W P M ∧ Lead n M R) ∧ Below P w W ∧ W.cell? ⟨bx, 0, none⟩ = some (.int .i64 (x0 : Int)) ∧ W.cell? ⟨bx, 1, none⟩ = some (.int .i64 (y0 : Int))
theorem head_gs {w : World} {P n bx : Nat} {R : Nat → Nat} {x0 y0 : Nat} (hb : P ≠ bx) (z u : Nat) (W : World) (hz : z < n) (hu : R z = u) (h : GS w P n bx R x0 y0 W) :
    Calls Tryd.prog 40 #[.slice (some ⟨P, 0, none⟩) n n, .int .i64 (z : Int)] W fun e w' => e = .returned (.int .i64 (u : Int)) ∧ GS w P n bx R x0 y0 w' ∧ w'.cell? ⟨bx, 0, none⟩ = some (.int .i64 (x0 : Int)) ∧ w'.cell? ⟨bx, 1, none⟩ = some (.int .i64 (y0 : Int)) := by
  obtain ⟨⟨M, hM, hLd⟩, hbl, e0, e1⟩ := h
  refine (head_any P n n z R M W hM hLd hz).mono fun e w' hh => ?_
  obtain ⟨h1, ⟨M', h2, h3⟩, h4⟩ := hh
  rw [hu] at h1
  have f0 := h4.cell e0 (by intro q; injection q with q; exact hb q.symm)
  have f1 := h4.cell e1 (by intro q; injection q with q; exact hb q.symm)
  exact ⟨h1, ⟨⟨M', h2, h3⟩, gb_below hbl h4 (Nat.le_refl _) (Nat.le_of_lt hM.lt), f0, f1⟩, f0, f1⟩
set_option maxRecDepth 100000 in
set_option maxHeartbeats 2000000 in
theorem groups_any (n : Nat) (v : Value) (L : List (Int × Int)) (w : World) (hv : TW.RM w v L) (hl : L.length ≤ 8796093022200) (hn : n ≤ 4096) (hall : ∀ (j : Nat) (p : Int × Int), L[j]? = some p → namB n p = true) :
    Calls Tryd.prog 26 #[.int .i64 (n : Int), v] w fun e w' => ∃ P, e = .returned (.slice (some ⟨P, 0, none⟩) n n) ∧ w.heap.size ≤ P ∧ NV w' P (grp n (pn L)) ∧ Below w.heap.size w w' := by
  obtain ⟨a, cap, rfl, _, hr⟩ := hv
  have HR := hide hr
  have HL := hide hl
  have HN := hide hn
  have HA := hide hall
  have hmk := run_make_row' (P := Tryd.prog) 41 3 (.int .i64 0) 8 Tryd.underlying41 Tryd.infoIn rfl .i64 .i64 n (by omega) (by omega)
  have hM := NV.made w n
  have hB := (Below.refl w.heap.size w).alloc (Nat.le_refl _) (.cells (madeCells #[.int .i64 0] n) 3)
  obtain ⟨P, hP⟩ : ∃ P, Hid (w.heap.size = P) := ⟨_, hide rfl⟩
  rw [hP.out] at hM
  have HM := hide hM
  have HB := hide hB
  clear hr hl hn hall hM hB
  go_enter Tryd.func26, Tryd.ntmps26
  go_wp2_with fail
  rw [hP.out]
  have HPW : Hid (∀ b o, b < P → ∀ W, Below P w W → W.cell? ⟨b, o, none⟩ = w.cell? ⟨b, o, none⟩) := hide (fun b o hb W h => by rw [← hP.out] at h hb; exact h.cell (p := ⟨b, o, none⟩) hb)
  have HB2 : Hid (Below P w (w.alloc (.cells (madeCells #[.int .i64 0] n) 3))) := hide (by have := HB.out; rw [hP.out] at this; exact this)
  have HR2 : Hid (L = [] ∨ ∃ b off, a = some ⟨b, off, none⟩ ∧ b < P ∧ ∀ (j : Nat) (p : Int × Int), L[j]? = some p → w.cell? ⟨b, off + j * 2, none⟩ = some (.int .i64 p.1) ∧ w.cell? ⟨b, off + j * 2 + 1, none⟩ = some (.int .i64 p.2)) := hide (by have := HR.out; rw [hP.out] at this; exact this)
  have HPP := hide (Nat.le_of_eq hP.out.symm)
  clear HB HR
  generalize (w.alloc (.cells (madeCells #[.int .i64 0] n) 3)) = w1 at *
  go_loopw [15] (fun i wr => ∃ (k : Nat) (M : List Nat), k ≤ n ∧ i = .int .i64 (k : Int) ∧ Hid (M.length = n ∧ ∀ j, j < k → M[j]? = some j) ∧ Hid (NV wr P M) ∧ Hid (Below P w wr)) (fun i _ => n - (intOf i).toNat)
  case atStart => exact ⟨0, _, Nat.zero_le _, rfl, hide ⟨List.length_replicate, fun j hj => by omega⟩, HM, HB2⟩
  case round =>
    clear HM HB2 hmk
    obtain ⟨k, M, hk, rfl, HI, HV, HW⟩ := hrel
    by_cases hlt : k < n
    · have hd1 : decide ((k : Int) < (n : Int)) = true := by rw [decide_eq_true_eq]; omega
      have k0 : (0 : Int) ≤ (k : Int) := by omega
      have k1 : (k : Int) < (n : Int) := by omega
      have wk : wrap64 ((k : Int) + 1) = (k : Int) + 1 := by have := HN.out; unfold wrap64; omega
      have f0 := HV.out.frozen k
      have hkm : k < M.length := by have := HI.out.1; omega
      have c0 := HV.out.cell (List.getElem?_eq_getElem hkm)
      obtain ⟨m, hm⟩ : ∃ m : Int, ((M[k] : Nat) : Int) = m := ⟨_, rfl⟩
      rw [hm] at c0
      obtain ⟨w2, hw2⟩ : ∃ w2, wr.setCell ⟨P, k, none⟩ (.int .i64 ((k : Nat) : Int)) = w2 := ⟨_, rfl⟩
      have HV2 : Hid (NV w2 P (M.set k k)) := hide (by rw [← hw2]; exact HV.out.set k k)
      have HW2 : Hid (Below P w w2) := hide (by rw [← hw2]; exact gb_below HW.out (gb_set wr P k _) (Nat.le_refl _) (Nat.le_of_lt HV.out.lt))
      clear hkm hm
      go_wp2_with fail
      go_roundw
      case rel =>
        refine ⟨k + 1, M.set k k, by omega, by go_num, hide ⟨by rw [List.length_set]; exact HI.out.1, fun j hj => ?_⟩, HV2, HW2⟩
        by_cases e : k = j
        · subst e; rw [List.getElem?_set_self (by have := HI.out.1; omega)]
        · rw [List.getElem?_set_ne e]; exact HI.out.2 j (by omega)
      case measure => first | (rw [wk]; simp [intOf]; omega) | (simp [intOf]; omega)
    · have e : k = n := by omega
      subst e
      have e2 := range_of HI.out.1 HI.out.2
      subst e2
      have HS := hide (Lead.start k)
      clear HI
      have hd1 : decide ((k : Int) < (k : Int)) = false := by simp
      go_wp2_with fail
      go_loopw [25] (fun i wr => ∃ j : Nat, j ≤ L.length ∧ i = .int .i64 (j : Int) ∧ Hid (∃ M, NV wr P M ∧ Lead k M (rk ((pn L).take j))) ∧ Hid (Below P w wr)) (fun i _ => L.length - (intOf i).toNat)
      case atStart => exact ⟨0, Nat.zero_le _, rfl, hide ⟨_, HV.out, HS.out⟩, HW⟩
      case round =>
        clear HV HW HS
        obtain ⟨j, hj, rfl, HV, HW⟩ := hrel
        by_cases hlt : j < L.length
        · obtain ⟨⟨q0, q1⟩, hp⟩ : ∃ p, L[j]? = some p := ⟨_, List.getElem?_eq_getElem hlt⟩
          obtain ⟨b, off, rfl, hgl, hc⟩ := HR2.out.resolve_left (fun h => by rw [h] at hlt; simp at hlt)
          have hnm := namB_iff.1 (HA.out j _ hp)
          dsimp only at hnm
          obtain ⟨x0, rfl⟩ : ∃ x : Nat, q0 = (x : Int) := ⟨q0.toNat, by omega⟩
          obtain ⟨y0, rfl⟩ : ∃ y : Nat, q1 = (y : Int) := ⟨q1.toNat, by omega⟩
          have hx0 : x0 < k := by omega
          have hy0 : y0 < k := by omega
          have z0 : wr.cell? ⟨b, off + j * 2, none⟩ = some (.int .i64 (x0 : Int)) := (HPW.out b _ hgl _ HW.out).trans (hc j _ hp).1
          have z1 : wr.cell? ⟨b, off + j * 2 + 1, none⟩ = some (.int .i64 (y0 : Int)) := (HPW.out b _ hgl _ HW.out).trans (hc j _ hp).2
          have z1' : wr.cell? ⟨b, off + (j * 2 + 1), none⟩ = some (.int .i64 (y0 : Int)) := z1
          have hd2 : decide ((j : Int) < (L.length : Int)) = true := by rw [decide_eq_true_eq]; omega
          have k0 : (0 : Int) ≤ (j : Int) := by omega
          have k1 : (j : Int) < (L.length : Int) := by omega
          have wk : wrap64 ((j : Int) + 1) = (j : Int) + 1 := by have := HL.out; unfold wrap64; omega
          obtain ⟨R, hR⟩ : ∃ R, Hid (rk ((pn L).take j) = R) := ⟨_, hide rfl⟩
          have HT : Hid (rk ((pn L).take (j + 1)) = mrg R (x0, y0)) := hide (by rw [pn_take hp, rk_snoc, hR.out]; rfl)
          rw [hR.out] at HV
          obtain ⟨x, hx⟩ : ∃ x, Hid (R x0 = x) := ⟨_, hide rfl⟩
          obtain ⟨y, hy⟩ : ∃ y, Hid (R y0 = y) := ⟨_, hide rfl⟩
          have hsz : P < wr.heap.size := by obtain ⟨M, hM, _⟩ := HV.out; exact hM.lt
          have N1 := alloc_new wr (.cells #[.int .i64 (x0 : Int), .int .i64 (y0 : Int)] 46)
          obtain ⟨d0, d1⟩ := TW.cellsA N1 rfl
          obtain ⟨bx, hbx⟩ : ∃ bx, wr.heap.size = bx := ⟨_, rfl⟩
          rw [hbx] at d0 d1
          obtain ⟨w2, hw2⟩ : ∃ w2, wr.alloc (.cells #[.int .i64 (x0 : Int), .int .i64 (y0 : Int)] 46) = w2 := ⟨_, rfl⟩
          have hPb : P < bx := by omega
          have hb2 : Below wr.heap.size wr w2 := by rw [← hw2]; exact (Below.refl _ _).alloc (Nat.le_refl _) _
          rw [hw2] at d0 d1
          have hS0 : GS w P k bx R x0 y0 w2.drew := by
            obtain ⟨M, hM, hLd⟩ := HV.out
            exact ⟨⟨M, hM.later hb2.drew, hLd⟩, (HW.out.trans (hb2.mono (by omega))).drew, d0, d1⟩
          have HH := hide (fun (z u : Nat) (W : World) => head_gs (w := w) (P := P) (n := k) (bx := bx) (R := R) (x0 := x0) (y0 := y0) (by omega) z u W)
          have HL2 := hide hsz
          clear hb2 hsz HV HW N1 hp hc hnm
          go_wp2_with fail
          go_region_held3 (fun W => W.cell? ⟨bx, 0, none⟩ = some (.int .i64 (x0 : Int)) ∧ W.cell? ⟨bx, 1, none⟩ = some (.int .i64 (y0 : Int))) (go_keep) ((first
            | (go_at_call_of 40 x0; refine (HH.out x0 x _ hx0 hx.out ?_).mono ?_; assumption; rintro e w' ⟨rfl, hS, hx1, hx2⟩)
            | (go_at_call_of 40 y0; refine (HH.out y0 y _ hy0 hy.out ?_).mono ?_; assumption; rintro e w' ⟨rfl, hS, hx1, hx2⟩)))
          obtain ⟨M, HM3, HL3⟩ : ∃ M, Hid (NV w' P M) ∧ Hid (Lead k M R) := by obtain ⟨M, h1, h2⟩ := hS.1; exact ⟨M, hide h1, hide h2⟩
          have HW3 := hide hS.2.1
          have hxk : x < k := by have := (HL3.out.root x0 x0 (Nat.le_refl _) hx0).1; rw [hx.out] at this; omega
          have hyk : y < k := by have := (HL3.out.root y0 y0 (Nat.le_refl _) hy0).1; rw [hy.out] at this; omega
          have HU := HL3.out.union (p := (x0, y0)) hx0 hy0
          dsimp only at HU
          rw [hx.out, hy.out] at HU
          have HU := hide HU
          have HCC : Hid (∀ z, z < k → ∃ m : Int, w'.cell? ⟨P, z, none⟩ = some (.int .i64 m)) := hide (fun z hz => ⟨_, HM3.out.cell (List.getElem?_eq_getElem (by rw [HL3.out.len]; exact hz))⟩)
          clear hS hx1 hx2 HH hS0 d0 d1 z0 z1 z1' HL3
          by_cases hlt2 : x < y
          · have q1 : (x : Int) < (y : Int) := by omega
            have q2 : ¬ (y : Int) < (x : Int) := by omega
            have q3 : (0 : Int) ≤ (y : Int) := by omega
            have q4 : (y : Int) < (k : Int) := by omega
            have f0 := HM3.out.frozen y
            obtain ⟨m, c0⟩ := HCC.out y hyk
            obtain ⟨w3, hw3⟩ : ∃ w3, w'.setCell ⟨P, y, none⟩ (.int .i64 ((x : Nat) : Int)) = w3 := ⟨_, rfl⟩
            have HV4 : Hid (∃ M, NV w3 P M ∧ Lead k M (mrg R (x0, y0))) := hide ⟨M.set y x, by rw [← hw3]; exact HM3.out.set y x, by have := HU.out; rw [show max x y = y by omega, show min x y = x by omega] at this; exact this⟩
            have HW4 : Hid (Below P w w3) := hide (by rw [← hw3]; exact gb_below HW3.out (gb_set w' P y _) (Nat.le_refl _) (Nat.le_of_lt HM3.out.lt))
            rw [← HT.out] at HV4
            go_wp2_with fail
            go_roundw
            case rel => exact ⟨j + 1, by omega, by go_num, HV4, HW4⟩
            case measure => first | (rw [wk]; simp [intOf]; omega) | (simp [intOf]; omega)
          · by_cases hlt3 : y < x
            · have q1 : (y : Int) < (x : Int) := by omega
              have q2 : ¬ (x : Int) < (y : Int) := by omega
              have q3 : (0 : Int) ≤ (x : Int) := by omega
              have q4 : (x : Int) < (k : Int) := by omega
              have f0 := HM3.out.frozen x
              obtain ⟨m, c0⟩ := HCC.out x hxk
              obtain ⟨w3, hw3⟩ : ∃ w3, w'.setCell ⟨P, x, none⟩ (.int .i64 ((y : Nat) : Int)) = w3 := ⟨_, rfl⟩
              have HV4 : Hid (∃ M, NV w3 P M ∧ Lead k M (mrg R (x0, y0))) := hide ⟨M.set x y, by rw [← hw3]; exact HM3.out.set x y, by have := HU.out; rw [show max x y = x by omega, show min x y = y by omega] at this; exact this⟩
              have HW4 : Hid (Below P w w3) := hide (by rw [← hw3]; exact gb_below HW3.out (gb_set w' P x _) (Nat.le_refl _) (Nat.le_of_lt HM3.out.lt))
              rw [← HT.out] at HV4
              go_wp2_with fail
              go_roundw
              case rel => exact ⟨j + 1, by omega, by go_num, HV4, HW4⟩
              case measure => first | (rw [wk]; simp [intOf]; omega) | (simp [intOf]; omega)
            · have e : y = x := by omega
              subst e
              have q3 : (0 : Int) ≤ (y : Int) := by omega
              have q4 : (y : Int) < (k : Int) := by omega
              have f0 := HM3.out.frozen y
              obtain ⟨m, c0⟩ := HCC.out y hyk
              obtain ⟨w3, hw3⟩ : ∃ w3, w'.setCell ⟨P, y, none⟩ (.int .i64 ((y : Nat) : Int)) = w3 := ⟨_, rfl⟩
              have HV4 : Hid (∃ M, NV w3 P M ∧ Lead k M (mrg R (x0, y0))) := hide ⟨M.set y y, by rw [← hw3]; exact HM3.out.set y y, by have := HU.out; rw [show max y y = y by omega, show min y y = y by omega] at this; exact this⟩
              have HW4 : Hid (Below P w w3) := hide (by rw [← hw3]; exact gb_below HW3.out (gb_set w' P y _) (Nat.le_refl _) (Nat.le_of_lt HM3.out.lt))
              rw [← HT.out] at HV4
              go_wp2_with fail
              go_roundw
              case rel => exact ⟨j + 1, by omega, by go_num, HV4, HW4⟩
              case measure => first | (rw [wk]; simp [intOf]; omega) | (simp [intOf]; omega)
        · have e : j = L.length := by omega
          subst e
          obtain ⟨ps, hps⟩ : ∃ ps, Hid (pn L = ps) := ⟨_, hide rfl⟩
          have ht : (pn L).take L.length = pn L := by rw [List.take_of_length_le (by rw [pn_len]; omega)]
          rw [ht, hps.out] at HV
          rw [hps.out]
          have hd2 : decide ((L.length : Int) < (L.length : Int)) = false := by simp
          clear ht
          go_wp2_with fail
          go_loopw [47] (fun i wr => ∃ (u : Nat) (M : List Nat), u ≤ k ∧ i = .int .i64 (u : Int) ∧ Hid (NV wr P M) ∧ Hid (Lead k M (rk ps)) ∧ Hid (∀ x, x < u → M[x]? = some (rk ps x)) ∧ Hid (Below P w wr)) (fun i _ => k - (intOf i).toNat)
          case atStart =>
            obtain ⟨M, h1, h2⟩ := HV.out
            exact ⟨0, M, Nat.zero_le _, rfl, hide h1, hide h2, hide (fun x hx => by omega), HW⟩
          case round =>
            clear HV HW
            obtain ⟨u, M, hu, rfl, HV, HLd, HD, HW⟩ := hrel
            by_cases hlt2 : u < k
            · have hd3 : decide ((u : Int) < (k : Int)) = true := by rw [decide_eq_true_eq]; omega
              have k0 : (0 : Int) ≤ (u : Int) := by omega
              have k1 : (u : Int) < (k : Int) := by omega
              have wk : wrap64 ((u : Int) + 1) = (u : Int) + 1 := by have := HN.out; unfold wrap64; omega
              obtain ⟨y, hy, hyu⟩ := HLd.out.ex hlt2
              obtain ⟨z, hz, hzy⟩ := HLd.out.ex (x := y) (by omega)
              have c1 := HV.out.cell hy
              have c2 := HV.out.cell hz
              have f0 := HV.out.frozen u
              have y0 : y < k := by omega
              have HY := hide (And.intro hy hz)
              obtain ⟨w2, hw2⟩ : ∃ w2, wr.setCell ⟨P, u, none⟩ (.int .i64 ((z : Nat) : Int)) = w2 := ⟨_, rfl⟩
              have HV2 : Hid (NV w2 P (M.set u z)) := hide (by rw [← hw2]; exact HV.out.set u z)
              have HW2 : Hid (Below P w w2) := hide (by rw [← hw2]; exact gb_below HW.out (gb_set wr P u _) (Nat.le_refl _) (Nat.le_of_lt HV.out.lt))
              clear hy hz
              go_wp2_with fail
              go_roundw
              case rel => exact ⟨u + 1, M.set u z, by omega, by go_num, HV2, hide (HLd.out.halve HY.out.1 HY.out.2), hide (HLd.out.last HD.out HY.out.1 HY.out.2).2, HW2⟩
              case measure => first | (rw [wk]; simp [intOf]; omega) | (simp [intOf]; omega)
            · have e : u = k := by omega
              subst e
              have e2 := HLd.out.done HD.out
              have HV5 : Hid (NV wr P (grp u ps)) := hide (by rw [← e2]; exact HV.out)
              have HW5 : Hid (Below w.heap.size w wr) := hide (by rw [hP.out]; exact HW.out)
              have hd3 : decide ((u : Int) < (u : Int)) = false := by simp
              clear e2
              go_wp2_with fail
              go_ret
              exact ⟨P, rfl, by rw [hP.out]; exact Nat.le_refl _, by rw [hps.out]; exact HV5.out, HW5.out⟩
/-- What Groups answers. -/
theorem groupsOk_any (n : Nat) (v : Value) (L : List (Int × Int)) (w : World) (hv : TW.RM w v L) (hl : L.length ≤ 8796093022200) (hn : n ≤ 4096) (hall : ∀ (j : Nat) (p : Int × Int), L[j]? = some p → namB n p = true) :
    Calls Tryd.prog 14 #[.int .i64 (n : Int), v] w fun e w' => ∃ P, e = .returned (.tuple #[.slice (some ⟨P, 0, none⟩) n n, .nilIface]) ∧ w.heap.size ≤ P ∧ NV w' P (grp n (pn L)) ∧ Below w.heap.size w w' := by
  have H1 := hide (checkCount_any (n : Int))
  rw [show cntE (n : Int) = 0 by unfold cntE; rw [if_neg (by omega), if_neg (by omega)], errV_zero] at H1
  have H2 := hide (fun W (hb : Below w.heap.size w W) => checkPairs_any (n : Int) v L W (hv.later hb) hl)
  rw [show lostV (n : Int) L = .nilIface by unfold lostV; rw [lost_none hall]] at H2
  have H3 := hide (fun W (hb : Below w.heap.size w W) => groups_any n v L W (hv.later hb) hl hn hall)
  obtain ⟨a, cap, rfl⟩ := TW.rm_lt hv
  clear hv hl hn hall
  go_enter Tryd.func14, Tryd.ntmps14
  go_wp2_with fail
  refine (H1.out _).mono ?_
  rintro e w1 ⟨rfl, hw⟩
  obtain rfl := hw.symm
  go_wp2_with fail
  refine (H2.out _ (Below.refl _ _)).mono ?_
  rintro e w2 ⟨rfl, hb⟩
  have HB := hide hb
  clear hb
  go_wp2_with fail
  refine (H3.out _ HB.out).mono ?_
  rintro e w3 ⟨P, rfl, hP, hV, hb2⟩
  have HP := hide hP
  have HV := hide hV
  have HB2 := hide (HB.out.trans (hb2.mono HB.out.size))
  clear hb2 hP hV
  go_wp2_with fail
  go_ret2
  exact ⟨P, rfl, by have := HP.out; have := HB.out.size; omega, HV.out, HB2.out⟩
end Go.Proofs.YtcdhblfefpkjgaaDoor
namespace Go.Proofs.YtcdhblfefpkjgaaDoor
open Go.RowKit

section
variable {P : Program} {ops : Array Oper} {Q : Exit → Act → World → Prop} {md : Region.Mode} {S : World → Prop}
/-- Taken first: what it yields lies in slot d. -/
theorem tk {fuel : Nat} {listed : Array Bool} {tmps : Array Value} {df : List Deferred} {w : World} {oi : Oper} {v : Value} (i d : Nat) (listed' : Array Bool) (hi : ops[i]? = some oi) (hd : oi.dst = some d)
    (hs : Region.noSelect ops = true) (hf : Region.free md ops listed i = true) (hr : (Region.ready md ops listed).contains i = true)
    (hQ : ∀ c a w, Q (.panic c) (a.put oi.dst v) w → Q (.panic c) a w) (hl : listed.setIfInBounds i true = listed')
    (hw : Region.wanted oi (yielded ops tmps) = true) (hy : ∀ w, S w → (execOp (Act.eval ⟨tmps, df⟩) oi).run P w = .ok (.value v) w) (hS : S w)
    (h : wpAnyH P md ops Q S fuel listed' ⟨tmps.setIfInBounds d v, df⟩ w) : wpAnyH P md ops Q S (fuel + 1) listed ⟨tmps, df⟩ w := by
  refine wpAnyH_take hi hs hf hr hQ (Or.inl ⟨hw, hy⟩) hS ?_
  rw [hl, hd]
  exact h
/-- Passed by: its guard says no. -/
theorem sk {fuel : Nat} {listed : Array Bool} {tmps : Array Value} {df : List Deferred} {w : World} {oi : Oper} (i d : Nat) (listed' : Array Bool) (hi : ops[i]? = some oi) (hd : oi.dst = some d)
    (hs : Region.noSelect ops = true) (hf : Region.free md ops listed i = true) (hr : (Region.ready md ops listed).contains i = true)
    (hQ : ∀ c a w, Q (.panic c) (a.put oi.dst undef) w → Q (.panic c) a w) (hl : listed.setIfInBounds i true = listed')
    (hw : Region.wanted oi (yielded ops tmps) = false) (hS : S w)
    (h : wpAnyH P md ops Q S fuel listed' ⟨tmps.setIfInBounds d undef, df⟩ w) : wpAnyH P md ops Q S (fuel + 1) listed ⟨tmps, df⟩ w := by
  refine wpAnyH_take hi hs hf hr hQ (Or.inr ⟨hw, rfl⟩) hS ?_
  rw [hl, hd]
  exact h
/-- The beginning, with the list of those that have come up written out. -/
theorem begins_held {id : Nat} {a : Act} {w : World} (fuel : Nat) (listed : Array Bool) (hm : P.follows .mixedOrders = true) (hf : ops.size = fuel) (hl : Array.replicate ops.size false = listed) (hS : S w.drew)
    (h : S w.drew → wpAnyH P .any ops Q S fuel listed a w.drew) : (Code.region id ops true).wp P Q a w := by
  subst hf hl
  exact wp_region_held_drew hm hS h
/-- The one that may come up, with the list written out. -/
theorem one_ready {fuel : Nat} {listed : Array Bool} {a : Act} {w : World} {oi : Oper} (i : Nat) (listed' : Array Bool) (hi : ops[i]? = some oi) (hr : Region.ready md ops listed = [i]) (hl : listed.setIfInBounds i true = listed')
    (hw : Region.wanted oi (yielded ops a.tmps) = true)
    (h : ∀ K' : Act → World → Prop, Shut (∀ a w, S w → (S w → wpAnyH P md ops Q S fuel listed' a w) → K' a w) → Oper.wp P oi a w K' Q) : wpAnyH P md ops Q S (fuel + 1) listed a w := by
  refine wpAnyH_ready hr (by simp) (AllReadyH.cons hi (fun K' hK => ?_) AllReadyH.nil)
  rw [if_pos hw]
  exact h K' (by rw [hl] at hK; exact hK)
end
end Go.Proofs.YtcdhblfefpkjgaaDoor
namespace Go.Proofs.YtcdhblfefpkjgaaDoor
open Go.RowKit

section
variable {P : Program} {ops : Array Oper} {Q : Exit → Act → World → Prop} {md : Region.Mode} {S : World → Prop} {z : Nat}
/-- In whatever order; S holds behind each one but z. -/
def anyZ (P : Program) (md : Region.Mode) (ops : Array Oper) (Q : Exit → Act → World → Prop) (S : World → Prop) (z : Nat) : Nat → Array Bool → Act → World → Prop
  | 0, ls, a, w => Region.ready md ops ls = [] ∧ Q .normal a w
  | f + 1, ls, a, w => (Region.ready md ops ls = [] → Q .normal a w) ∧ ∀ i ∈ Region.ready md ops ls, wpOp P ops Q i (fun a' w' => (i ≠ z → S w') ∧ anyZ P md ops Q S z f (ls.setIfInBounds i true) a' w') a w
theorem anyZ_any : ∀ (f : Nat) (ls : Array Bool) (a : Act) (w : World), anyZ P md ops Q S z f ls a w → wpAny P md ops Q f ls a w
  | 0, _, _, _, h => h
  | f + 1, _, _, _, h => ⟨h.1, fun i hi => wpOp_mono (fun a' w' h' => anyZ_any f _ a' w' h'.2) (h.2 i hi)⟩
/-- Does z wait for i? -/
def waitsB (md : Region.Mode) (ops : Array Oper) (z i : Nat) : Bool := match ops[z]? with
  | some o => o.after.any fun e => Region.binds md e && e.on == i
  | none => false
theorem waits_not {i : Nat} {ls : Array Bool} (h : waitsB md ops z i = true) (hi : ls.getD i true = false) : z ∉ Region.ready md ops ls := by
  intro hz
  obtain ⟨_, o, ho, hall⟩ := mem_ready.1 hz
  unfold waitsB at h
  rw [ho] at h
  dsimp only at h
  obtain ⟨k, hk, he⟩ := Array.any_iff_exists.1 h
  obtain ⟨hk2, he2⟩ := he
  rw [Bool.and_eq_true, beq_iff_eq] at he2
  have h1 := hall _ (Array.getElem_mem hk) he2.2.1
  rw [he2.2.2] at h1
  rcases Nat.lt_or_ge i ls.size with h' | h'
  · simp [h'] at hi h1; rw [hi] at h1; cases h1
  · simp [Array.getElem?_eq_none h'] at h1
theorem anyZ_first {i : Nat} {oi : Oper} {v : Value} (hi : ops[i]? = some oi) (hsel : ∀ (j : Nat) (o : Oper) cs b, ops[j]? = some o → o.op ≠ .select cs b) (hQ : ∀ c a w, Q (.panic c) (a.put oi.dst v) w → Q (.panic c) a w) (hz : waitsB md ops z i = true) :
    ∀ (f : Nat) (ls : Array Bool) (a : Act) (w : World), (∀ j oj, ops[j]? = some oj → j ≠ i → ls.getD j true = false → (∀ e ∈ oj.after, Region.binds md e = true → e.on ≠ i) → oi.apart ops oj = true) →
      i ∈ Region.ready md ops ls → YieldsIf P ops S oi v a → S w → anyZ P md ops Q S z f (ls.setIfInBounds i true) (a.put oi.dst v) w → anyZ P md ops Q S z (f + 1) ls a w := by
  intro f
  induction f with
  | zero =>
    intro ls a w _ hr hy hS H
    refine ⟨fun h => (by rw [h] at hr; cases hr), fun j hj => ?_⟩
    by_cases hji : j = i
    · subst hji; exact hy.wpOp hi hS ⟨fun _ => hS, H⟩
    · have := ready_mono hj hji
      rw [H.1] at this; cases this
  | succ f ih =>
    intro ls a w hfree hr hy hS H
    refine ⟨fun h => (by rw [h] at hr; cases hr), fun j hj => ?_⟩
    have hun := (mem_ready.1 hr).1
    by_cases hji : j = i
    · subst hji; exact hy.wpOp hi hS ⟨fun _ => hS, H⟩
    · have hjz : j ≠ z := fun e => waits_not hz hun (by rw [← e]; exact hj)
      have h1 := H.2 j (ready_mono hj hji)
      obtain ⟨hjun, oj, hoj, hall⟩ := mem_ready.1 hj
      have hno : ∀ e ∈ oj.after, Region.binds md e = true → e.on ≠ i := by
        intro e he hb heq
        have h2 := hall e he hb
        rw [heq] at h2
        rcases Nat.lt_or_ge i ls.size with h' | h'
        · simp [h'] at hun h2; rw [hun] at h2; cases h2
        · simp [Array.getElem?_eq_none h'] at h2
      have h2 := wpOp_putIf hoj (hfree j oj hoj hji hjun hno) (fun cs b => hsel i oi cs b hi) (fun cs b => hsel j oj cs b hoj) hQ hy h1
      refine wpOp_mono (fun a' w' h3 => ⟨fun _ => h3.2.1 hjz, ih (ls.setIfInBounds j true) a' w' (fun k ok hk hki hku hkn => hfree k ok hk hki ?_ hkn) (ready_mono hr (Ne.symm hji)) h3.1 (h3.2.1 hjz) ?_⟩) h2
      · by_cases hjk : j = k
        · subst hjk; exact hjun
        · rwa [getD_set_ne true hjk] at hku
      · rw [Array.setIfInBounds_comm _ _ hji]; exact h3.2.2
/-- Taken ahead: what it yields lies in slot d. -/
theorem zk {f : Nat} {ls : Array Bool} {tmps : Array Value} {df : List Deferred} {w : World} {oi : Oper} {v : Value} (i d : Nat) (ls' : Array Bool) (hi : ops[i]? = some oi) (hd : oi.dst = some d)
    (hs : Region.noSelect ops = true) (hf : Region.free md ops ls i = true) (hr : (Region.ready md ops ls).contains i = true) (hz : waitsB md ops z i = true)
    (hQ : ∀ c a w, Q (.panic c) (a.put oi.dst v) w → Q (.panic c) a w) (hl : ls.setIfInBounds i true = ls')
    (hw : Region.wanted oi (yielded ops tmps) = true) (hy : ∀ w, S w → (execOp (Act.eval ⟨tmps, df⟩) oi).run P w = .ok (.value v) w) (hS : S w)
    (h : anyZ P md ops Q S z f ls' ⟨tmps.setIfInBounds d v, df⟩ w) : anyZ P md ops Q S z (f + 1) ls ⟨tmps, df⟩ w := by
  refine anyZ_first hi (Region.noSelect_spec hs) hQ hz f ls _ w (Region.free_spec hi hf) (by simpa using hr) (Or.inl ⟨hw, hy⟩) hS ?_
  rw [hl, hd]; exact h
/-- The one that may come up. -/
theorem z_ready {f : Nat} {ls : Array Bool} {a : Act} {w : World} {oi : Oper} (i : Nat) (ls' : Array Bool) (hi : ops[i]? = some oi) (hr : Region.ready md ops ls = [i]) (hl : ls.setIfInBounds i true = ls')
    (hw : Region.wanted oi (yielded ops a.tmps) = true)
    (h : ∀ K' : Act → World → Prop, Shut (∀ a w, (i ≠ z → S w) → ((i ≠ z → S w) → anyZ P md ops Q S z f ls' a w) → K' a w) → Oper.wp P oi a w K' Q) : anyZ P md ops Q S z (f + 1) ls a w := by
  refine ⟨fun h0 => (by rw [hr] at h0; cases h0), fun j hj => ?_⟩
  rw [hr] at hj
  obtain rfl := List.mem_singleton.1 hj
  refine wpOp_step hi (fun K' hK => ?_)
  rw [if_pos hw]
  refine h K' (fun a w h1 h2 => hK a w ⟨h1, ?_⟩)
  rw [hl]; exact h2 h1
theorem z_done {ls : Array Bool} {a : Act} {w : World} (hr : Region.ready md ops ls = []) (h : Q .normal a w) : ∀ f, anyZ P md ops Q S z f ls a w
  | 0 => ⟨hr, h⟩
  | _ + 1 => ⟨fun _ => h, by rw [hr]; simp⟩
theorem z_begins {id : Nat} {a : Act} {w : World} (z f : Nat) (ls : Array Bool) (hm : P.follows .mixedOrders = true) (hf : ops.size = f) (hl : Array.replicate ops.size false = ls) (hS : S w.drew)
    (h : S w.drew → anyZ P .any ops Q S z f ls a w.drew) : (Code.region id ops true).wp P Q a w := by
  subst hf hl
  exact wp_region_any hm (anyZ_any _ _ _ _ (h hS))
end
end Go.Proofs.YtcdhblfefpkjgaaDoor
