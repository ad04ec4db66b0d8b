/-
  My own text: LV3, LS1, LS2 in one.
-/
import Derived.Test.YtcdhblfefpkjgaaDoorLK5
import Derived.Test.YtcdhblfefpkjgaaDoorLK4
import Derived.BigQuiet
import Derived.Test.YtcdhblfefpkjgaaDoorLS0
namespace Go.Proofs.YtcdhblfefpkjgaaDoor
open Go.RowKit

/-- Edges between the groups of things. -/
def btw (NUM : List Nat) (L : List (Int × Int)) : List (Int × Int) := L.map fun p => (((NUM.getD p.1.toNat 0 : Nat) : Int), ((NUM.getD p.2.toNat 0 : Nat) : Int))
theorem btw_len (NUM : List Nat) (L : List (Int × Int)) : (btw NUM L).length = L.length := by simp [btw]
theorem btw_at {NUM : List Nat} {L : List (Int × Int)} {j : Nat} {p : Int × Int} (h : L[j]? = some p) : (btw NUM L)[j]? = some (((NUM.getD p.1.toNat 0 : Nat) : Int), ((NUM.getD p.2.toNat 0 : Nat) : Int)) := by
  unfold btw
  rw [List.getElem?_map, h]; rfl
/-- A cell of these. -/
def FE (M : List (Int × Int)) (i : Nat) : Value := ((TW.mc M)[i]?).getD (.int .i64 0)
theorem FE_at {M : List (Int × Int)} {j : Nat} {p : Int × Int} (h : M[j]? = some p) : FE M (j * 2) = .int .i64 p.1 ∧ FE M (j * 2 + 1) = .int .i64 p.2 := by
  have e := TW.mc_at h
  unfold FE
  rw [e.1, e.2]; exact ⟨rfl, rfl⟩
/-- The first K cells are written. -/
def EW (w : World) (g m : Nat) (M : List (Int × Int)) (K : Nat) : Prop := w.rowIs g 46 (m * 2) (fun i => if i < K then FE M i else .int .i64 0)
theorem made22 (n : Nat) (j : Nat) (hj : j < n) : (madeCells #[.int .i64 0, .int .i64 0] n)[j]? = some (.int .i64 0) := by
  have hs : j < (madeCells #[.int .i64 0, .int .i64 0] n).size := by rw [size_madeCells]; exact hj
  rw [Array.getElem?_eq_getElem hs]
  simp only [madeCells, Array.getElem_map, Array.getElem_range]
  have h : j % 2 < 2 := Nat.mod_lt _ (by decide)
  show some ((#[Value.int .i64 0, Value.int .i64 0] : Array Value)[j % 2]!) = _
  rcases (show j % 2 = 0 ∨ j % 2 = 1 by omega) with e | e <;> rw [e] <;> rfl
theorem EW.made (w : World) (m : Nat) (M : List (Int × Int)) : EW (w.alloc (.cells (madeCells #[.int .i64 0, .int .i64 0] (m * 2)) 46)) w.heap.size m M 0 :=
  ⟨_, alloc_new w _, size_madeCells _ _, fun i hi => by rw [made22 _ _ hi]; show _ = some (if i < 0 then FE M i else .int .i64 0); rw [if_neg (by omega)]⟩
theorem EW.set {w : World} {g m K : Nat} {M : List (Int × Int)} (h : EW w g m M K) {v : Value} (hv : FE M K = v) : EW (w.setCell ⟨g, K, none⟩ v) g m M (K + 1) :=
  World.rowIs.congr (World.rowIs.set h K v) fun i _ => by
    by_cases e : i = K
    · subst e; rw [if_pos rfl, if_pos (by omega), hv]
    · rw [if_neg e]
      by_cases e2 : i < K
      · rw [if_pos e2, if_pos (by omega)]
      · rw [if_neg e2, if_neg (by omega)]
theorem EW.om {w : World} {g m B : Nat} {M : List (Int × Int)} (h : EW w g m M (m * 2)) (hM : M.length = m) (hB : B ≤ g) (hl : m ≤ maxLen) : TW.OM w B (.slice (some ⟨g, 0, none⟩) m m) M := by
  obtain ⟨c, hb, hs, hc⟩ := h
  refine ⟨by rw [TW.mc_len], .inr ⟨g, m, c, by rw [hM], hB, hb, by rw [hM]; exact Nat.le_refl _, hl, hs, ?_⟩⟩
  rw [hM]
  apply List.ext_getElem?
  intro i
  by_cases hi : i < m * 2
  · rw [List.getElem?_take, if_pos hi, Array.getElem?_toList, hc i hi]
    show some (if i < m * 2 then FE M i else .int .i64 0) = _
    rw [if_pos hi]
    have hl2 : i < (TW.mc M).length := by rw [TW.mc_len, hM]; exact hi
    unfold FE
    rw [List.getElem?_eq_getElem hl2]; rfl
  · rw [List.getElem?_eq_none (by rw [List.length_take]; omega), List.getElem?_eq_none (by rw [TW.mc_len, hM]; omega)]
set_option maxRecDepth 100000 in
set_option maxHeartbeats 2000000 in
theorem between_any (P n : Nat) (v : Value) (NUM : List Nat) (L : List (Int × Int)) (w : World) (hv : TW.RM w v L) (hN : NV w P NUM) (hn : NUM.length = n) (hl : L.length ≤ 1000000)
    (hall : ∀ (j : Nat) (p : Int × Int), L[j]? = some p → namB n p = true) :
    Calls Tryd.prog 28 #[v, .slice (some ⟨P, 0, none⟩) n n] w fun e w' => ∃ v', e = .returned v' ∧ TW.OM w' w.heap.size v' (btw NUM L) ∧ Below w.heap.size w w' := by
  obtain ⟨a, cap, rfl, _, hr⟩ := hv
  have HR := hide hr
  have HL := hide hl
  have HN := hide (And.intro hN hn)
  have HA := hide hall
  obtain ⟨i0, hi, hz0, hz1, hz2⟩ := info_parts TW.Tryd.infoMk
  have hmk : (Instr.makeSlice 47 (.int .i64 (L.length : Int)) (.int .i64 (L.length : Int))).run Tryd.prog w = .ok (.slice (some ⟨w.heap.size, 0, none⟩) L.length L.length) (w.alloc (.cells (madeCells #[.int .i64 0, .int .i64 0] (L.length * 2)) 46)) := by
    have h := run_make (P := Tryd.prog) w 47 46 i0 (.agg #[.int .i64 0, .int .i64 0]) Tryd.underlying47 hi hz0 .i64 .i64 (L.length : Int) (L.length : Int) (by omega) (Int.le_refl _) (by rw [hz2]; omega) (by omega)
    rw [Int.toNat_natCast, hz1] at h
    exact h
  have HE0 := hide (EW.made w L.length (btw NUM L))
  have HB0 := hide ((Below.refl w.heap.size w).alloc (Nat.le_refl _) (.cells (madeCells #[.int .i64 0, .int .i64 0] (L.length * 2)) 46))
  clear hr hl hall hN hn hi hz0 hz1 hz2
  go_enter Tryd.func28, Tryd.ntmps28
  go_wp2_with fail
  generalize (w.alloc (.cells (madeCells #[.int .i64 0, .int .i64 0] (L.length * 2)) 46)) = w1 at *
  obtain ⟨M, hM⟩ : ∃ M, Hid (btw NUM L = M) := ⟨_, hide rfl⟩
  obtain ⟨g, hg⟩ : ∃ g, Hid (w.heap.size = g) := ⟨_, hide rfl⟩
  rw [hM.out] at HE0
  rw [hg.out] at HE0 HB0 ⊢
  clear hmk
  go_loopw [13] (fun i wr => ∃ j : Nat, j ≤ L.length ∧ i = .int .i64 (j : Int) ∧ Hid (EW wr g L.length M (j * 2)) ∧ Hid (Below g w wr)) (fun i _ => L.length - (intOf i).toNat)
  case atStart => exact ⟨0, Nat.zero_le _, rfl, by rw [Nat.zero_mul]; exact HE0, HB0⟩
  case round =>
    clear HE0 HB0
    obtain ⟨j, hj, rfl, HE0, HB0⟩ := hrel
    by_cases hlt : j < L.length
    · obtain ⟨⟨q0, q1⟩, hp⟩ : ∃ p, L[j]? = some p := ⟨_, List.getElem?_eq_getElem hlt⟩
      obtain ⟨b, off, rfl, hgl, hc⟩ := HR.out.resolve_left (fun h => by rw [h] at hlt; simp at hlt)
      have hnm := namB_iff.1 (HA.out j _ hp)
      dsimp only at hnm
      obtain ⟨x0, rfl⟩ : ∃ x : Nat, q0 = (x : Int) := ⟨q0.toNat, by omega⟩
      obtain ⟨y0, rfl⟩ : ∃ y : Nat, q1 = (y : Int) := ⟨q1.toNat, by omega⟩
      have hx0 : x0 < n := by omega
      have hy0 : y0 < n := by omega
      have i0 : (0 : Int) ≤ (x0 : Int) := by omega
      have i1 : (x0 : Int) < (n : Int) := by omega
      have i2 : (0 : Int) ≤ (y0 : Int) := by omega
      have i3 : (y0 : Int) < (n : Int) := by omega
      have k0 : (0 : Int) ≤ (j : Int) := by omega
      have k1 : (j : Int) < (L.length : Int) := by omega
      have wk : wrap64 ((j : Int) + 1) = (j : Int) + 1 := by have := HL.out; unfold wrap64; omega
      have C := hide (hc j _ hp)
      obtain ⟨u0, hu0⟩ : ∃ u, NUM[x0]? = some u := ⟨_, List.getElem?_eq_getElem (by rw [HN.out.2]; exact hx0)⟩
      obtain ⟨u1, hu1⟩ : ∃ u, NUM[y0]? = some u := ⟨_, List.getElem?_eq_getElem (by rw [HN.out.2]; exact hy0)⟩
      have HF : Hid (FE M (j * 2) = .int .i64 (u0 : Int) ∧ FE M (j * 2 + 1) = .int .i64 (u1 : Int)) := hide (by
        have h := btw_at (NUM := NUM) hp
        rw [hM.out] at h
        have h2 := FE_at h
        have e0 : NUM.getD x0 0 = u0 := by rw [List.getD_eq_getElem?_getD, hu0]; rfl
        have e1 : NUM.getD y0 0 = u1 := by rw [List.getD_eq_getElem?_getD, hu1]; rfl
        dsimp only [Int.toNat_natCast] at h2
        rw [e0, e1] at h2
        exact h2)
      have D0 := hide (HN.out.1.cell hu0)
      have D1 := hide (HN.out.1.cell hu1)
      have HPl := hide HN.out.1.lt
      clear hp hc hnm hu0 hu1
      go_wp2_with fail
      go_loopw [16] (fun i wq => ∃ e : Nat, (i = .int .i64 0 ∧ e = 0 ∨ i = .int .i64 1 ∧ e = 1 ∨ i = .int .i64 2 ∧ e = 2) ∧ Hid (EW wq g L.length M (j * 2 + e)) ∧ Hid (Below g w wq)) (fun i _ => 2 - (intOf i).toNat)
      case atStart => exact ⟨0, .inl ⟨rfl, rfl⟩, HE0, HB0⟩
      case round =>
        clear HE0 HB0
        obtain ⟨e, hie, HE0, HB0⟩ := hrel
        have c0 := hide ((HB0.out.cell (p := ⟨b, off + j * 2, none⟩) (by rw [← hg.out]; exact hgl)).trans C.out.1)
        have c1 := hide ((HB0.out.cell (p := ⟨b, off + j * 2 + 1, none⟩) (by rw [← hg.out]; exact hgl)).trans C.out.2)
        have d0 := hide ((HB0.out.cell (p := ⟨P, x0, none⟩) (by rw [← hg.out]; exact HPl.out)).trans D0.out)
        have d1 := hide ((HB0.out.cell (p := ⟨P, y0, none⟩) (by rw [← hg.out]; exact HPl.out)).trans D1.out)
        obtain ⟨rfl, rfl⟩ | ⟨rfl, rfl⟩ | ⟨rfl, rfl⟩ := hie
        · go_wp2_with fail
          obtain ⟨D, hD⟩ : ∃ D, wr.drew = D := ⟨_, rfl⟩
          have hHeld : Hid (D.cell? ⟨b, off + j * 2, none⟩ = some (.int .i64 (x0 : Int)) ∧ D.cell? ⟨P, x0, none⟩ = some (.int .i64 (u0 : Int))) := hide (by rw [← hD]; exact ⟨c0.out, d0.out⟩)
          have HED : Hid (EW D g L.length M (j * 2 + 0)) := hide (by rw [← hD]; exact World.rowIs.drew HE0.out)
          have HBD : Hid (Below g w D) := hide (by rw [← hD]; exact HB0.out.drew)
          have z2 : D.cell? ⟨g, j * 2, none⟩ = some (.int .i64 0) := by
            rw [World.rowIs.cell HED.out (i := j * 2) (by omega), if_neg (by omega)]
          have z3 := World.rowIs.frozen HED.out (j * 2)
          obtain ⟨D2, hD2⟩ : ∃ V, D.setCell ⟨g, j * 2, none⟩ (.int .i64 (u0 : Int)) = V := ⟨_, rfl⟩
          have HE2 : Hid (EW D2 g L.length M (j * 2 + 1)) := hide (by rw [← hD2]; exact EW.set HED.out HF.out.1)
          have HB2 : Hid (Below g w D2) := hide (by rw [← hD2]; exact gb_below HBD.out (gb_set D g _ _) (Nat.le_refl _) (Nat.le_of_lt (World.rowIs.lt HED.out)))
          clear HE0 HB0 c0 c1 d0 d1 HED HBD
          refine s_begins (S := fun W : World => W.cell? ⟨b, off + j * 2, none⟩ = some (.int .i64 (x0 : Int)) ∧ W.cell? ⟨P, x0, none⟩ = some (.int .i64 (u0 : Int))) [14] 15 #[false, false, false, false, false, false, false, false, false, false, false, false, false, false, false] (by kernel_rfl) (by kernel_rfl) (by kernel_rfl) ?_
          rw [hD]
          clear hD
          refine sk0 (v := ?_) 0 19 #[true, false, false, false, false, false, false, false, false, false, false, false, false, false, false] rfl rfl (by kernel_rfl) (by kernel_rfl) (by kernel_rfl) (by kernel_rfl) (fun _ _ _ h => h) (by kernel_rfl) (by rfl) ?hy (fun _ => hHeld.out) ?_
          case hy => intro W; first | (go_simp; done) | (go_simp; with_reducible rfl)
          simp only [List.setIfInBounds_toArray, List.set_cons_zero, List.set_cons_succ]
          refine sk0 (v := ?_) 1 20 #[true, true, false, false, false, false, false, false, false, false, false, false, false, false, false] rfl rfl (by kernel_rfl) (by kernel_rfl) (by kernel_rfl) (by kernel_rfl) (fun _ _ _ h => h) (by kernel_rfl) (by rfl) ?hy (fun _ => hHeld.out) ?_
          case hy => intro W; first | (go_simp; done) | (go_simp; with_reducible rfl)
          simp only [List.setIfInBounds_toArray, List.set_cons_zero, List.set_cons_succ]
          refine sk0 (v := ?_) 2 21 #[true, true, true, false, false, false, false, false, false, false, false, false, false, false, false] rfl rfl (by kernel_rfl) (by kernel_rfl) (by kernel_rfl) (by kernel_rfl) (fun _ _ _ h => h) (by kernel_rfl) (by rfl) ?hy (fun _ => hHeld.out) ?_
          case hy => intro W; first | (go_simp; done) | (go_simp; with_reducible rfl)
          simp only [List.setIfInBounds_toArray, List.set_cons_zero, List.set_cons_succ]
          refine sk0 (v := ?_) 3 22 #[true, true, true, true, false, false, false, false, false, false, false, false, false, false, false] rfl rfl (by kernel_rfl) (by kernel_rfl) (by kernel_rfl) (by kernel_rfl) (fun _ _ _ h => h) (by kernel_rfl) (by rfl) ?hy (fun _ => hHeld.out) ?_
          case hy => intro W; first | (go_simp; done) | (go_simp; with_reducible rfl)
          simp only [List.setIfInBounds_toArray, List.set_cons_zero, List.set_cons_succ]
          refine sk0 (v := ?_) 4 23 #[true, true, true, true, true, false, false, false, false, false, false, false, false, false, false] rfl rfl (by kernel_rfl) (by kernel_rfl) (by kernel_rfl) (by kernel_rfl) (fun _ _ _ h => h) (by kernel_rfl) (by rfl) ?hy (fun _ => hHeld.out) ?_
          case hy => intro W; first | (go_simp; done) | (go_simp; with_reducible rfl)
          simp only [List.setIfInBounds_toArray, List.set_cons_zero, List.set_cons_succ]
          refine sk0 (v := ?_) 5 24 #[true, true, true, true, true, true, false, false, false, false, false, false, false, false, false] rfl rfl (by kernel_rfl) (by kernel_rfl) (by kernel_rfl) (by kernel_rfl) (fun _ _ _ h => h) (by kernel_rfl) (by rfl) ?hy (fun _ => hHeld.out) ?_
          case hy => intro W; first | (go_simp; done) | (go_simp; with_reducible rfl)
          simp only [List.setIfInBounds_toArray, List.set_cons_zero, List.set_cons_succ]
          refine sk0 (v := ?_) 6 25 #[true, true, true, true, true, true, true, false, false, false, false, false, false, false, false] rfl rfl (by kernel_rfl) (by kernel_rfl) (by kernel_rfl) (by kernel_rfl) (fun _ _ _ h => h) (by kernel_rfl) (by rfl) ?hy (fun _ => hHeld.out) ?_
          case hy => intro W; first | (go_simp; done) | (go_simp; with_reducible rfl)
          simp only [List.setIfInBounds_toArray, List.set_cons_zero, List.set_cons_succ]
          refine sk0 (v := ?_) 7 26 #[true, true, true, true, true, true, true, true, false, false, false, false, false, false, false] rfl rfl (by kernel_rfl) (by kernel_rfl) (by kernel_rfl) (by kernel_rfl) (fun _ _ _ h => h) (by kernel_rfl) (by rfl) ?hy (fun _ => hHeld.out) ?_
          case hy => intro W; first | (go_simp; done) | (go_simp; with_reducible rfl)
          simp only [List.setIfInBounds_toArray, List.set_cons_zero, List.set_cons_succ]
          refine sk0 (v := ?_) 8 27 #[true, true, true, true, true, true, true, true, true, false, false, false, false, false, false] rfl rfl (by kernel_rfl) (by kernel_rfl) (by kernel_rfl) (by kernel_rfl) (fun _ _ _ h => h) (by kernel_rfl) (by rfl) ?hy (fun _ => hHeld.out) ?_
          case hy => intro W; first | (go_simp; done) | (go_simp; with_reducible rfl)
          simp only [List.setIfInBounds_toArray, List.set_cons_zero, List.set_cons_succ]
          refine sk1 (v := ?_) 9 28 #[true, true, true, true, true, true, true, true, true, true, false, false, false, false, false] rfl rfl (by kernel_rfl) (by kernel_rfl) (by kernel_rfl) (by kernel_rfl) (by kernel_rfl) (by kernel_rfl) (fun _ _ _ h => h) (by kernel_rfl) (by rfl) ?hy hHeld.out ?_
          case hy => rintro W ⟨s1, s2⟩; first | (go_simp; done) | (go_simp; with_reducible rfl)
          simp only [List.setIfInBounds_toArray, List.set_cons_zero, List.set_cons_succ]
          refine sk0 (v := ?_) 10 29 #[true, true, true, true, true, true, true, true, true, true, true, false, false, false, false] rfl rfl (by kernel_rfl) (by kernel_rfl) (by kernel_rfl) (by kernel_rfl) (fun _ _ _ h => h) (by kernel_rfl) (by rfl) ?hy (fun _ => hHeld.out) ?_
          case hy => intro W; first | (go_simp; done) | (go_simp; with_reducible rfl)
          simp only [List.setIfInBounds_toArray, List.set_cons_zero, List.set_cons_succ]
          refine sk1 (v := ?_) 11 30 #[true, true, true, true, true, true, true, true, true, true, true, true, false, false, false] rfl rfl (by kernel_rfl) (by kernel_rfl) (by kernel_rfl) (by kernel_rfl) (by kernel_rfl) (by kernel_rfl) (fun _ _ _ h => h) (by kernel_rfl) (by rfl) ?hy hHeld.out ?_
          case hy => rintro W ⟨s1, s2⟩; first | (go_simp; done) | (go_simp; with_reducible rfl)
          simp only [List.setIfInBounds_toArray, List.set_cons_zero, List.set_cons_succ]
          refine sk0 (v := ?_) 12 31 #[true, true, true, true, true, true, true, true, true, true, true, true, true, false, false] rfl rfl (by kernel_rfl) (by kernel_rfl) (by kernel_rfl) (by kernel_rfl) (fun _ _ _ h => h) (by kernel_rfl) (by rfl) ?hy (fun _ => hHeld.out) ?_
          case hy => intro W; first | (go_simp; done) | (go_simp; with_reducible rfl)
          simp only [List.setIfInBounds_toArray, List.set_cons_zero, List.set_cons_succ]
          refine sk0 (v := ?_) 13 32 #[true, true, true, true, true, true, true, true, true, true, true, true, true, true, false] rfl rfl (by kernel_rfl) (by kernel_rfl) (by kernel_rfl) (by kernel_rfl) (fun _ _ _ h => h) (by kernel_rfl) (by rfl) ?hy (fun _ => hHeld.out) ?_
          case hy => intro W; first | (go_simp; done) | (go_simp; with_reducible rfl)
          simp only [List.setIfInBounds_toArray, List.set_cons_zero, List.set_cons_succ]
          refine s_ready 14 #[true, true, true, true, true, true, true, true, true, true, true, true, true, true, true] rfl (by kernel_rfl) (by kernel_rfl) (by rfl) (fun K hK => ?_)
          go_simp
          refine hK.out _ _ (fun h => absurd h (by decide)) ?_
          clear hK K
          refine s_done (by kernel_rfl) ?_ _
          go_wp2_with fail
          go_roundw
          case rel => exact ⟨1, .inr (.inl ⟨rfl, rfl⟩), HE2, HB2⟩
          case measure => simp [intOf]
        · go_wp2_with fail
          obtain ⟨D, hD⟩ : ∃ D, wr.drew = D := ⟨_, rfl⟩
          have hHeld : Hid (D.cell? ⟨b, off + j * 2 + 1, none⟩ = some (.int .i64 (y0 : Int)) ∧ D.cell? ⟨P, y0, none⟩ = some (.int .i64 (u1 : Int))) := hide (by rw [← hD]; exact ⟨c1.out, d1.out⟩)
          have HED : Hid (EW D g L.length M (j * 2 + 1)) := hide (by rw [← hD]; exact World.rowIs.drew HE0.out)
          have HBD : Hid (Below g w D) := hide (by rw [← hD]; exact HB0.out.drew)
          have z2 : D.cell? ⟨g, j * 2 + 1, none⟩ = some (.int .i64 0) := by
            rw [World.rowIs.cell HED.out (i := j * 2 + 1) (by omega), if_neg (by omega)]
          have z3 := World.rowIs.frozen HED.out (j * 2 + 1)
          obtain ⟨D2, hD2⟩ : ∃ V, D.setCell ⟨g, j * 2 + 1, none⟩ (.int .i64 (u1 : Int)) = V := ⟨_, rfl⟩
          have HE2 : Hid (EW D2 g L.length M (j * 2 + 2)) := hide (by rw [← hD2]; exact EW.set HED.out HF.out.2)
          have HB2 : Hid (Below g w D2) := hide (by rw [← hD2]; exact gb_below HBD.out (gb_set D g _ _) (Nat.le_refl _) (Nat.le_of_lt (World.rowIs.lt HED.out)))
          clear HE0 HB0 c0 c1 d0 d1 HED HBD
          refine s_begins (S := fun W : World => W.cell? ⟨b, off + j * 2 + 1, none⟩ = some (.int .i64 (y0 : Int)) ∧ W.cell? ⟨P, y0, none⟩ = some (.int .i64 (u1 : Int))) [14] 15 #[false, false, false, false, false, false, false, false, false, false, false, false, false, false, false] (by kernel_rfl) (by kernel_rfl) (by kernel_rfl) ?_
          rw [hD]
          clear hD
          refine sk0 (v := ?_) 0 19 #[true, false, false, false, false, false, false, false, false, false, false, false, false, false, false] rfl rfl (by kernel_rfl) (by kernel_rfl) (by kernel_rfl) (by kernel_rfl) (fun _ _ _ h => h) (by kernel_rfl) (by rfl) ?hy (fun _ => hHeld.out) ?_
          case hy => intro W; first | (go_simp; done) | (go_simp; with_reducible rfl)
          simp only [List.setIfInBounds_toArray, List.set_cons_zero, List.set_cons_succ]
          refine sk0 (v := ?_) 1 20 #[true, true, false, false, false, false, false, false, false, false, false, false, false, false, false] rfl rfl (by kernel_rfl) (by kernel_rfl) (by kernel_rfl) (by kernel_rfl) (fun _ _ _ h => h) (by kernel_rfl) (by rfl) ?hy (fun _ => hHeld.out) ?_
          case hy => intro W; first | (go_simp; done) | (go_simp; with_reducible rfl)
          simp only [List.setIfInBounds_toArray, List.set_cons_zero, List.set_cons_succ]
          refine sk0 (v := ?_) 2 21 #[true, true, true, false, false, false, false, false, false, false, false, false, false, false, false] rfl rfl (by kernel_rfl) (by kernel_rfl) (by kernel_rfl) (by kernel_rfl) (fun _ _ _ h => h) (by kernel_rfl) (by rfl) ?hy (fun _ => hHeld.out) ?_
          case hy => intro W; first | (go_simp; done) | (go_simp; with_reducible rfl)
          simp only [List.setIfInBounds_toArray, List.set_cons_zero, List.set_cons_succ]
          refine sk0 (v := ?_) 3 22 #[true, true, true, true, false, false, false, false, false, false, false, false, false, false, false] rfl rfl (by kernel_rfl) (by kernel_rfl) (by kernel_rfl) (by kernel_rfl) (fun _ _ _ h => h) (by kernel_rfl) (by rfl) ?hy (fun _ => hHeld.out) ?_
          case hy => intro W; first | (go_simp; done) | (go_simp; with_reducible rfl)
          simp only [List.setIfInBounds_toArray, List.set_cons_zero, List.set_cons_succ]
          refine sk0 (v := ?_) 4 23 #[true, true, true, true, true, false, false, false, false, false, false, false, false, false, false] rfl rfl (by kernel_rfl) (by kernel_rfl) (by kernel_rfl) (by kernel_rfl) (fun _ _ _ h => h) (by kernel_rfl) (by rfl) ?hy (fun _ => hHeld.out) ?_
          case hy => intro W; first | (go_simp; done) | (go_simp; with_reducible rfl)
          simp only [List.setIfInBounds_toArray, List.set_cons_zero, List.set_cons_succ]
          refine sk0 (v := ?_) 5 24 #[true, true, true, true, true, true, false, false, false, false, false, false, false, false, false] rfl rfl (by kernel_rfl) (by kernel_rfl) (by kernel_rfl) (by kernel_rfl) (fun _ _ _ h => h) (by kernel_rfl) (by rfl) ?hy (fun _ => hHeld.out) ?_
          case hy => intro W; first | (go_simp; done) | (go_simp; with_reducible rfl)
          simp only [List.setIfInBounds_toArray, List.set_cons_zero, List.set_cons_succ]
          refine sk0 (v := ?_) 6 25 #[true, true, true, true, true, true, true, false, false, false, false, false, false, false, false] rfl rfl (by kernel_rfl) (by kernel_rfl) (by kernel_rfl) (by kernel_rfl) (fun _ _ _ h => h) (by kernel_rfl) (by rfl) ?hy (fun _ => hHeld.out) ?_
          case hy => intro W; first | (go_simp; done) | (go_simp; with_reducible rfl)
          simp only [List.setIfInBounds_toArray, List.set_cons_zero, List.set_cons_succ]
          refine sk0 (v := ?_) 7 26 #[true, true, true, true, true, true, true, true, false, false, false, false, false, false, false] rfl rfl (by kernel_rfl) (by kernel_rfl) (by kernel_rfl) (by kernel_rfl) (fun _ _ _ h => h) (by kernel_rfl) (by rfl) ?hy (fun _ => hHeld.out) ?_
          case hy => intro W; first | (go_simp; done) | (go_simp; with_reducible rfl)
          simp only [List.setIfInBounds_toArray, List.set_cons_zero, List.set_cons_succ]
          refine sk0 (v := ?_) 8 27 #[true, true, true, true, true, true, true, true, true, false, false, false, false, false, false] rfl rfl (by kernel_rfl) (by kernel_rfl) (by kernel_rfl) (by kernel_rfl) (fun _ _ _ h => h) (by kernel_rfl) (by rfl) ?hy (fun _ => hHeld.out) ?_
          case hy => intro W; first | (go_simp; done) | (go_simp; with_reducible rfl)
          simp only [List.setIfInBounds_toArray, List.set_cons_zero, List.set_cons_succ]
          refine sk1 (v := ?_) 9 28 #[true, true, true, true, true, true, true, true, true, true, false, false, false, false, false] rfl rfl (by kernel_rfl) (by kernel_rfl) (by kernel_rfl) (by kernel_rfl) (by kernel_rfl) (by kernel_rfl) (fun _ _ _ h => h) (by kernel_rfl) (by rfl) ?hy hHeld.out ?_
          case hy => rintro W ⟨s1, s2⟩; first | (go_simp; done) | (go_simp; with_reducible rfl)
          simp only [List.setIfInBounds_toArray, List.set_cons_zero, List.set_cons_succ]
          refine sk0 (v := ?_) 10 29 #[true, true, true, true, true, true, true, true, true, true, true, false, false, false, false] rfl rfl (by kernel_rfl) (by kernel_rfl) (by kernel_rfl) (by kernel_rfl) (fun _ _ _ h => h) (by kernel_rfl) (by rfl) ?hy (fun _ => hHeld.out) ?_
          case hy => intro W; first | (go_simp; done) | (go_simp; with_reducible rfl)
          simp only [List.setIfInBounds_toArray, List.set_cons_zero, List.set_cons_succ]
          refine sk1 (v := ?_) 11 30 #[true, true, true, true, true, true, true, true, true, true, true, true, false, false, false] rfl rfl (by kernel_rfl) (by kernel_rfl) (by kernel_rfl) (by kernel_rfl) (by kernel_rfl) (by kernel_rfl) (fun _ _ _ h => h) (by kernel_rfl) (by rfl) ?hy hHeld.out ?_
          case hy => rintro W ⟨s1, s2⟩; first | (go_simp; done) | (go_simp; with_reducible rfl)
          simp only [List.setIfInBounds_toArray, List.set_cons_zero, List.set_cons_succ]
          refine sk0 (v := ?_) 12 31 #[true, true, true, true, true, true, true, true, true, true, true, true, true, false, false] rfl rfl (by kernel_rfl) (by kernel_rfl) (by kernel_rfl) (by kernel_rfl) (fun _ _ _ h => h) (by kernel_rfl) (by rfl) ?hy (fun _ => hHeld.out) ?_
          case hy => intro W; first | (go_simp; done) | (go_simp; with_reducible rfl)
          simp only [List.setIfInBounds_toArray, List.set_cons_zero, List.set_cons_succ]
          refine sk0 (v := ?_) 13 32 #[true, true, true, true, true, true, true, true, true, true, true, true, true, true, false] rfl rfl (by kernel_rfl) (by kernel_rfl) (by kernel_rfl) (by kernel_rfl) (fun _ _ _ h => h) (by kernel_rfl) (by rfl) ?hy (fun _ => hHeld.out) ?_
          case hy => intro W; first | (go_simp; done) | (go_simp; with_reducible rfl)
          simp only [List.setIfInBounds_toArray, List.set_cons_zero, List.set_cons_succ]
          refine s_ready 14 #[true, true, true, true, true, true, true, true, true, true, true, true, true, true, true] rfl (by kernel_rfl) (by kernel_rfl) (by rfl) (fun K hK => ?_)
          go_simp
          refine hK.out _ _ (fun h => absurd h (by decide)) ?_
          clear hK K
          refine s_done (by kernel_rfl) ?_ _
          go_wp2_with fail
          go_roundw
          case rel => exact ⟨2, .inr (.inr ⟨rfl, rfl⟩), HE2, HB2⟩
          case measure => simp [intOf]
        · clear c0 c1 d0 d1
          go_wp2_with fail
          go_roundw
          case rel => exact ⟨j + 1, by omega, by go_num, hide (by rw [show (j + 1) * 2 = j * 2 + 2 by omega]; exact HE0.out), HB0⟩
          case measure => first | (rw [wk]; simp [intOf]; omega) | (simp [intOf]; omega)
    · obtain rfl : j = L.length := by omega
      have HO := hide (EW.om HE0.out (by rw [← hM.out, btw_len]) (Nat.le_refl g) (by have := HL.out; unfold maxLen; omega))
      rw [← hg.out] at HO HB0 ⊢
      go_wp2_with fail
      go_ret
      exact ⟨_, rfl, by rw [hM.out]; exact HO.out, HB0.out⟩
end Go.Proofs.YtcdhblfefpkjgaaDoor
namespace Go.Proofs.YtcdhblfefpkjgaaDoor
open Go.RowKit

def cmpI (x y : Int) : Int := if x < y then -1 else if y < x then 1 else 0
theorem cmpI_neg {x y : Int} : cmpI x y < 0 ↔ x < y := by unfold cmpI; split <;> (try split) <;> omega
set_option maxHeartbeats 1000000 in
theorem compare_any (x y : Int) (w : World) :
    Calls Tryd.prog 49 #[.int .i64 x, .int .i64 y] w fun e w' => e = .returned (.int .i64 (cmpI x y)) ∧ w' = w := by
  have hx : (x != x) = false := by simp
  have hy : (y != y) = false := by simp
  by_cases h1 : x < y
  · have HE : Hid (cmpI x y = -1) := hide (if_pos h1)
    have d1 : decide (x < y) = true := decide_eq_true h1
    clear h1
    go_enter Tryd.func49, Tryd.ntmps49
    go_wp2
    go_ret
    exact ⟨by rw [HE.out]; rfl, rfl⟩
  · have d1 : decide (x < y) = false := decide_eq_false h1
    by_cases h2 : y < x
    · have HE : Hid (cmpI x y = 1) := hide (by unfold cmpI; rw [if_neg h1, if_pos h2])
      have d2 : decide (y < x) = true := decide_eq_true h2
      clear h1 h2
      go_enter Tryd.func49, Tryd.ntmps49
      go_wp2
      go_ret
      exact ⟨by rw [HE.out]; rfl, rfl⟩
    · have HE : Hid (cmpI x y = 0) := hide (by unfold cmpI; rw [if_neg h1, if_neg h2])
      have d2 : decide (y < x) = false := decide_eq_false h2
      clear h1 h2
      go_enter Tryd.func49, Tryd.ntmps49
      go_wp2
      go_ret
      exact ⟨by rw [HE.out]; rfl, rfl⟩
/-- The priorities lie behind a pointer: those of things below n. -/
structure PZ (w : World) (n pb : Nat) (pr : Nat → Int) : Prop where
  at_ : ∃ (a : Option Addr) (c : Nat), w.cell? ⟨pb, 0, none⟩ = some (.slice a n c) ∧ ∀ x, x < n → ∃ b off, a = some ⟨b, off, none⟩ ∧ w.cell? ⟨b, off + x, none⟩ = some (.int .i64 (pr x))
set_option maxRecDepth 100000 in
set_option maxHeartbeats 1000000 in
theorem ranked1_any (n pb x y : Nat) (pr : Nat → Int) (w : World) (h : PZ w n pb pr) (hx : x < n) (hy : y < n) :
    Calls Tryd.prog 48 #[.int .i64 (x : Int), .int .i64 (y : Int), .pointer (some ⟨pb, 0, none⟩)] w fun e w' => e = .returned (.int .i64 (cmpI (pr y) (pr x))) ∧ ∃ k, w' = w.drewN k := by
  obtain ⟨a, c, c0, hr⟩ := h.at_
  obtain ⟨b, off, rfl, cx⟩ := hr x hx
  obtain ⟨b', off', e, cy⟩ := hr y hy
  injection e with e
  injection e with e1 e2
  subst e1
  subst e2
  have HC := hide (fun W => compare_any (pr y) (pr x) W)
  generalize cmpI (pr y) (pr x) = r at *
  have x0 : (0 : Int) ≤ (x : Int) := by omega
  have x1 : (x : Int) < (n : Int) := by omega
  have y0 : (0 : Int) ≤ (y : Int) := by omega
  have y1 : (y : Int) < (n : Int) := by omega
  clear h hr
  go_enter Tryd.func48, Tryd.ntmps48
  go_wp2_with fail
  go_quiet (first | (go_at_call 49; exact Calls.quiet_of_same (HC.out _)))
  go_wp2_with fail
  go_ret
  exact ⟨rfl, _, rfl⟩
end Go.Proofs.YtcdhblfefpkjgaaDoor
namespace Go.Proofs.YtcdhblfefpkjgaaDoor
open Go.RowKit

theorem PZ.drew {w : World} {n pb : Nat} {pr : Nat → Int} (h : PZ w n pb pr) (k : Nat) : PZ (w.drewN k) n pb pr := ⟨h.at_⟩
/-- The order's closure. -/
def lessV (pb : Nat) : Value := .func (Fn.func 48) #[] #[.pointer (some ⟨pb, 0, none⟩)]
theorem gb_drewN {w w1 : World} {r : Option Nat} (h : w.grownBy w1 r) (q : Nat) : w.grownBy (w1.drewN q) r := ⟨h.os, h.tape, h.output, h.size, h.block⟩
theorem gb_drew {w w1 : World} {r : Option Nat} (h : w.grownBy w1 r) : w.grownBy w1.drew r := ⟨h.os, h.tape, h.output, h.size, h.block⟩
set_option maxRecDepth 100000 in
set_option maxHeartbeats 4000000 in
theorem isort_any (a b n P pb cap : Nat) (pr : Nat → Int) (L : List Nat) (w : World) (hN : NV w P L) (hS : SI pr n L) (hab : a ≤ b) (hbn : b ≤ n) (hn : n ≤ 4096) (hP : ∀ W, w.grownBy W (some P) → PZ W n pb pr) :
    Calls Tryd.prog 61 #[.slice (some ⟨P, 0, none⟩) n cap, .int .i64 (a : Int), .int .i64 (b : Int), lessV pb] w fun e w' => (∃ u, e = .returned u) ∧ ∃ L', NV w' P L' ∧ SI pr n L' ∧ Srt pr L' a b ∧ (∀ i, i < a ∨ b ≤ i → L'[i]? = L[i]?) ∧ w.grownBy w' (some P) := by
  have HP := hide hP
  have HB := hide (And.intro hab (And.intro hbn hn))
  have wa : wrap64 ((a : Int) + 1) = ((a + 1 : Nat) : Int) := by unfold wrap64; omega
  have wa2 : IntKind.i64.wrap ((a : Int) + 1) = ((a + 1 : Nat) : Int) := by rw [IntKind.wrap_i64]; omega
  obtain ⟨a1, ha1⟩ : ∃ a1, Hid (a + 1 = a1) := ⟨_, hide rfl⟩
  rw [ha1.out] at wa wa2
  unfold lessV
  go_enter Tryd.func61, Tryd.ntmps61
  go_wp2_with fail
  go_loopw [8] (fun i wr => ∃ (k : Nat) (M : List Nat), i = .int .i64 (k : Int) ∧ Hid (a + 1 ≤ k ∧ (k ≤ b ∨ k = a + 1)) ∧ Hid (NV wr P M) ∧ Hid (SI pr n M) ∧ Hid (Srt pr M a k) ∧ Hid (∀ i, i < a ∨ b ≤ i → M[i]? = L[i]?) ∧ Hid (w.grownBy wr (some P))) (fun i _ => b - (intOf i).toNat)
  case atStart => exact ⟨a1, L, rfl, hide (by have := ha1.out; omega), hide hN, hide hS, hide (by rw [← ha1.out]; exact Srt.one a), hide (fun _ _ => rfl), hide (gb_refl _ _)⟩
  case round =>
    clear hN hS hP hab hbn hn wa wa2
    obtain ⟨k, M, rfl, HK, HV, HI, HSr, HO, HG⟩ := hrel
    by_cases hlt : k < b
    · have hd1 : decide ((k : Int) < (b : Int)) = true := by rw [decide_eq_true_eq]; omega
      have wk : wrap64 ((k : Int) + 1) = (k : Int) + 1 := by have := HB.out; unfold wrap64; omega
      have wk2 : IntKind.i64.wrap ((k : Int) + 1) = (k : Int) + 1 := by have := HB.out; rw [IntKind.wrap_i64]; omega
      have HKB := hide hlt
      have hd1' : decide (k < b) = true := decide_eq_true hlt
      clear hlt
      go_wp2_with fail
      go_loopw [9] (fun i wr => ∃ (c : Nat) (M : List Nat), i = .int .i64 (c : Int) ∧ Hid (a ≤ c ∧ c ≤ k) ∧ Hid (NV wr P M) ∧ Hid (SI pr n M) ∧ Hid (JS pr M a k c) ∧ Hid (∀ i, i < a ∨ b ≤ i → M[i]? = L[i]?) ∧ Hid (w.grownBy wr (some P))) (fun i _ => (intOf i).toNat - a)
      case atStart =>
        obtain ⟨z, hz⟩ : ∃ z, M[k]? = some z := ⟨_, List.getElem?_eq_getElem (by have := HI.out.len; have := HKB.out; have := HB.out; omega)⟩
        exact ⟨k, M, rfl, hide (by have := HK.out; omega), HV, HI, hide (JS.start HSr.out hz), HO, HG⟩
      case round =>
        clear HV HI HSr HO HG M
        obtain ⟨c, M, rfl, HC, HV, HI, HJ, HO, HG⟩ := hrel
        by_cases hca : a < c
        · obtain ⟨j, hj⟩ : ∃ j, Hid (c = j + 1) := ⟨c - 1, hide (by omega)⟩
          have hcn : c < n := by have := HC.out; have := HKB.out; have := HB.out; omega
          obtain ⟨z, hz⟩ : ∃ z, M[c]? = some z := ⟨_, List.getElem?_eq_getElem (by rw [HI.out.len]; exact hcn)⟩
          obtain ⟨x, hx⟩ : ∃ x, M[j]? = some x := ⟨_, List.getElem?_eq_getElem (by have := hj.out; rw [HI.out.len]; omega)⟩
          have c1 := HV.out.cell hz
          have c2 := HV.out.cell hx
          have hzn := HI.out.lt _ _ hz
          have hxn := HI.out.lt _ _ hx
          have HX := hide hx
          have HZ := hide hz
          have wj : wrap64 ((c : Int) - 1) = (j : Int) := by have := hj.out; have := HB.out; unfold wrap64; omega
          have wj2 : IntKind.i64.wrap ((c : Int) - 1) = (j : Int) := by have := hj.out; have := HB.out; rw [IntKind.wrap_i64]; omega
          have hd2 : decide ((a : Int) < (c : Int)) = true := by rw [decide_eq_true_eq]; omega
          have j0 : (0 : Int) ≤ (j : Int) := by omega
          have j1 : (j : Int) < (n : Int) := by have := hj.out; omega
          have i0 : (0 : Int) ≤ (c : Int) := by omega
          have i1 : (c : Int) < (n : Int) := by omega
          have HR := hide (fun q => ranked1_any n pb z x pr (wr.drewN q) ((HP.out _ HG.out).drew q) hzn hxn)
          obtain ⟨r, hr⟩ : ∃ r, Hid (cmpI (pr x) (pr z) = r) := ⟨_, hide rfl⟩
          rw [hr.out] at HR
          clear hz hx hzn hxn
          by_cases hneg : r < 0
          · have hd3 : decide (r < 0) = true := decide_eq_true hneg
            have HPR : Hid (pr x < pr z) := hide (by rw [← hr.out] at hneg; exact cmpI_neg.1 hneg)
            clear hneg
            go_wp2_with fail
            go_quiet (first | (go_at_call 48; exact Calls.quiet_of (HR.out _)))
            go_wp2_with fail
            obtain ⟨V0, hV0⟩ : ∃ V, (World.drew (wr.drewN nq)) = V := ⟨_, rfl⟩
            have HV0 : Hid (NV V0 P M ∧ w.grownBy V0 (some P)) := hide (by rw [← hV0]; exact ⟨HV.out, gb_drew (gb_drewN HG.out nq)⟩)
            obtain ⟨V1, hV1⟩ : ∃ V, V0.setCell ⟨P, c, none⟩ (.int .i64 (x : Int)) = V := ⟨_, rfl⟩
            obtain ⟨V2, hV2⟩ : ∃ V, V1.setCell ⟨P, j, none⟩ (.int .i64 (z : Int)) = V := ⟨_, rfl⟩
            have HV1 : Hid (NV V1 P (M.set c x)) := hide (by rw [← hV1]; exact HV0.out.1.set c x)
            have HV2 : Hid (NV V2 P (swp M j x z)) := hide (by
              have h := HV1.out.set j z
              rw [hV2, hj.out] at h
              exact h)
            have HG2 : Hid (w.grownBy V2 (some P)) := hide (by
              rw [← hV2, ← hV1]
              exact gb_trans HV0.out.2 (gb_trans (gb_set V0 P c _) (gb_set _ P j _)))
            have HF : Hid (∀ (W : World) (q : Nat), (W = V0 ∨ W = V1) → W.frozen? ⟨P, q, none⟩ = false) := hide (fun W q h => by
              rcases h with rfl | rfl
              · exact HV0.out.1.frozen q
              · exact HV1.out.frozen q)
            have hHeld : Hid (V0.cell? ⟨P, j, none⟩ = some (.int .i64 (x : Int)) ∧ V0.cell? ⟨P, c, none⟩ = some (.int .i64 (z : Int))) := hide ⟨HV0.out.1.cell HX.out, HV0.out.1.cell HZ.out⟩
            have CZ0 := hHeld
            have CX1 : Hid (V1.cell? ⟨P, j, none⟩ = some (.int .i64 (x : Int))) := hide (HV1.out.cell (by rw [List.getElem?_set_ne (by have := hj.out; omega)]; exact HX.out))
            refine s_begins (S := fun W : World => W.cell? ⟨P, j, none⟩ = some (.int .i64 (x : Int)) ∧ W.cell? ⟨P, c, none⟩ = some (.int .i64 (z : Int))) [15, 17] 18 #[false, false, false, false, false, false, false, false, false, false, false, false, false, false, false, false, false, false] (by kernel_rfl) (by kernel_rfl) (by kernel_rfl) ?_
            rw [hV0]
            clear hV0
            refine sk0 (v := ?_) 0 37 #[true, false, false, false, false, false, false, false, false, false, false, false, false, false, false, false, false, false] rfl rfl (by kernel_rfl) (by kernel_rfl) (by kernel_rfl) (by kernel_rfl) (fun _ _ _ h => h) (by kernel_rfl) (by rfl) ?hy (fun _ => hHeld.out) ?_
            case hy => intro W; first | (go_simp; done) | (go_simp; with_reducible rfl)
            simp only [List.setIfInBounds_toArray, List.set_cons_zero, List.set_cons_succ]
            refine sk0 (v := ?_) 1 38 #[true, true, false, false, false, false, false, false, false, false, false, false, false, false, false, false, false, false] rfl rfl (by kernel_rfl) (by kernel_rfl) (by kernel_rfl) (by kernel_rfl) (fun _ _ _ h => h) (by kernel_rfl) (by rfl) ?hy (fun _ => hHeld.out) ?_
            case hy => intro W; first | (go_simp; done) | (go_simp; with_reducible rfl)
            simp only [List.setIfInBounds_toArray, List.set_cons_zero, List.set_cons_succ]
            refine sk0 (v := ?_) 2 39 #[true, true, true, false, false, false, false, false, false, false, false, false, false, false, false, false, false, false] rfl rfl (by kernel_rfl) (by kernel_rfl) (by kernel_rfl) (by kernel_rfl) (fun _ _ _ h => h) (by kernel_rfl) (by rfl) ?hy (fun _ => hHeld.out) ?_
            case hy => intro W; first | (go_simp; done) | (go_simp; with_reducible rfl)
            simp only [List.setIfInBounds_toArray, List.set_cons_zero, List.set_cons_succ]
            refine sk0 (v := ?_) 3 40 #[true, true, true, true, false, false, false, false, false, false, false, false, false, false, false, false, false, false] rfl rfl (by kernel_rfl) (by kernel_rfl) (by kernel_rfl) (by kernel_rfl) (fun _ _ _ h => h) (by kernel_rfl) (by rfl) ?hy (fun _ => hHeld.out) ?_
            case hy => intro W; first | (go_simp; done) | (go_simp; with_reducible rfl)
            simp only [List.setIfInBounds_toArray, List.set_cons_zero, List.set_cons_succ]
            refine sk0 (v := ?_) 4 41 #[true, true, true, true, true, false, false, false, false, false, false, false, false, false, false, false, false, false] rfl rfl (by kernel_rfl) (by kernel_rfl) (by kernel_rfl) (by kernel_rfl) (fun _ _ _ h => h) (by kernel_rfl) (by rfl) ?hy (fun _ => hHeld.out) ?_
            case hy => intro W; first | (go_simp; done) | (go_simp; with_reducible rfl)
            simp only [List.setIfInBounds_toArray, List.set_cons_zero, List.set_cons_succ]
            refine sk0 (v := ?_) 5 42 #[true, true, true, true, true, true, false, false, false, false, false, false, false, false, false, false, false, false] rfl rfl (by kernel_rfl) (by kernel_rfl) (by kernel_rfl) (by kernel_rfl) (fun _ _ _ h => h) (by kernel_rfl) (by rfl) ?hy (fun _ => hHeld.out) ?_
            case hy => intro W; first | (go_simp; done) | (go_simp; with_reducible rfl)
            simp only [List.setIfInBounds_toArray, List.set_cons_zero, List.set_cons_succ]
            refine sk0 (v := ?_) 6 43 #[true, true, true, true, true, true, true, false, false, false, false, false, false, false, false, false, false, false] rfl rfl (by kernel_rfl) (by kernel_rfl) (by kernel_rfl) (by kernel_rfl) (fun _ _ _ h => h) (by kernel_rfl) (by rfl) ?hy (fun _ => hHeld.out) ?_
            case hy => intro W; first | (go_simp; done) | (go_simp; with_reducible rfl)
            simp only [List.setIfInBounds_toArray, List.set_cons_zero, List.set_cons_succ]
            refine sk0 (v := ?_) 7 44 #[true, true, true, true, true, true, true, true, false, false, false, false, false, false, false, false, false, false] rfl rfl (by kernel_rfl) (by kernel_rfl) (by kernel_rfl) (by kernel_rfl) (fun _ _ _ h => h) (by kernel_rfl) (by rfl) ?hy (fun _ => hHeld.out) ?_
            case hy => intro W; first | (go_simp; done) | (go_simp; with_reducible rfl)
            simp only [List.setIfInBounds_toArray, List.set_cons_zero, List.set_cons_succ]
            refine sk0 (v := ?_) 8 45 #[true, true, true, true, true, true, true, true, true, false, false, false, false, false, false, false, false, false] rfl rfl (by kernel_rfl) (by kernel_rfl) (by kernel_rfl) (by kernel_rfl) (fun _ _ _ h => h) (by kernel_rfl) (by rfl) ?hy (fun _ => hHeld.out) ?_
            case hy => intro W; first | (go_simp; done) | (go_simp; with_reducible rfl)
            simp only [List.setIfInBounds_toArray, List.set_cons_zero, List.set_cons_succ]
            refine sk1 (v := ?_) 9 46 #[true, true, true, true, true, true, true, true, true, true, false, false, false, false, false, false, false, false] rfl rfl (by kernel_rfl) (by kernel_rfl) (by kernel_rfl) (by kernel_rfl) (by kernel_rfl) (by kernel_rfl) (fun _ _ _ h => h) (by kernel_rfl) (by rfl) ?hy hHeld.out ?_
            case hy => rintro W ⟨s1, s2⟩; first | (go_simp; done) | (go_simp; with_reducible rfl)
            simp only [List.setIfInBounds_toArray, List.set_cons_zero, List.set_cons_succ]
            refine sk0 (v := ?_) 10 47 #[true, true, true, true, true, true, true, true, true, true, true, false, false, false, false, false, false, false] rfl rfl (by kernel_rfl) (by kernel_rfl) (by kernel_rfl) (by kernel_rfl) (fun _ _ _ h => h) (by kernel_rfl) (by rfl) ?hy (fun _ => hHeld.out) ?_
            case hy => intro W; first | (go_simp; done) | (go_simp; with_reducible rfl)
            simp only [List.setIfInBounds_toArray, List.set_cons_zero, List.set_cons_succ]
            refine sk0 (v := ?_) 11 48 #[true, true, true, true, true, true, true, true, true, true, true, true, false, false, false, false, false, false] rfl rfl (by kernel_rfl) (by kernel_rfl) (by kernel_rfl) (by kernel_rfl) (fun _ _ _ h => h) (by kernel_rfl) (by rfl) ?hy (fun _ => hHeld.out) ?_
            case hy => intro W; first | (go_simp; done) | (go_simp; with_reducible rfl)
            simp only [List.setIfInBounds_toArray, List.set_cons_zero, List.set_cons_succ]
            refine sk0 (v := ?_) 12 49 #[true, true, true, true, true, true, true, true, true, true, true, true, true, false, false, false, false, false] rfl rfl (by kernel_rfl) (by kernel_rfl) (by kernel_rfl) (by kernel_rfl) (fun _ _ _ h => h) (by kernel_rfl) (by rfl) ?hy (fun _ => hHeld.out) ?_
            case hy => intro W; first | (go_simp; done) | (go_simp; with_reducible rfl)
            simp only [List.setIfInBounds_toArray, List.set_cons_zero, List.set_cons_succ]
            refine sk1 (v := ?_) 13 50 #[true, true, true, true, true, true, true, true, true, true, true, true, true, true, false, false, false, false] rfl rfl (by kernel_rfl) (by kernel_rfl) (by kernel_rfl) (by kernel_rfl) (by kernel_rfl) (by kernel_rfl) (fun _ _ _ h => h) (by kernel_rfl) (by rfl) ?hy hHeld.out ?_
            case hy => rintro W ⟨s1, s2⟩; first | (go_simp; done) | (go_simp; with_reducible rfl)
            simp only [List.setIfInBounds_toArray, List.set_cons_zero, List.set_cons_succ]
            refine s_ready 14 #[true, true, true, true, true, true, true, true, true, true, true, true, true, true, true, false, false, false] rfl (by kernel_rfl) (by kernel_rfl) (by rfl) (fun K hK => ?_)
            go_simp
            refine hK.out _ _ (fun _ => hHeld.out) ?_
            clear hK K
            have fz0 := HF.out V0 c (.inl rfl)
            have cx0 := CZ0.out.2
            refine s_ready 15 #[true, true, true, true, true, true, true, true, true, true, true, true, true, true, true, true, false, false] rfl (by kernel_rfl) (by kernel_rfl) (by rfl) (fun K hK => ?_)
            go_simp
            refine hK.out _ _ (fun h => absurd h (by decide)) ?_
            clear hK K
            refine s_ready 16 #[true, true, true, true, true, true, true, true, true, true, true, true, true, true, true, true, true, false] rfl (by kernel_rfl) (by kernel_rfl) (by rfl) (fun K hK => ?_)
            go_simp
            refine hK.out _ _ (fun h => absurd h (by decide)) ?_
            clear hK K
            have fz1 := HF.out V1 j (.inr rfl)
            have cx1 := CX1.out
            refine s_ready 17 #[true, true, true, true, true, true, true, true, true, true, true, true, true, true, true, true, true, true] rfl (by kernel_rfl) (by kernel_rfl) (by rfl) (fun K hK => ?_)
            go_simp
            refine hK.out _ _ (fun h => absurd h (by decide)) ?_
            clear hK K
            refine s_done (by kernel_rfl) ?_ _
            have HJ2 : Hid (JS pr (swp M j x z) a k j) := hide (by
              have h := HJ.out
              rw [hj.out] at h
              have hz := HZ.out
              rw [hj.out] at hz
              exact h.step (by have := hj.out; have := HC.out; omega) (by have := hj.out; have := HC.out; omega) HX.out hz HPR.out)
            have HI2 : Hid (SI pr n (swp M j x z)) := hide (by
              have hz := HZ.out
              rw [hj.out] at hz
              exact HI.out.swap HX.out hz HPR.out)
            have HO2 : Hid (∀ i, i < a ∨ b ≤ i → (swp M j x z)[i]? = L[i]?) := hide (fun i hi => by
              have hz := HZ.out
              rw [hj.out] at hz
              rw [swp_out HX.out hz (by have := hj.out; have := HC.out; have := HKB.out; omega)]
              exact HO.out i hi)
            have HC2 : Hid (a ≤ j ∧ j ≤ k) := hide (by have := hj.out; have := HC.out; omega)
            have HJ3 : Hid (j < c ∧ a < c) := hide (by have := hj.out; omega)
            clear HV HI HJ HO HG c1 c2 hV1 hV2 cx0 fz0 cx1 fz1
            go_wp2_with fail
            go_roundw
            case rel => exact ⟨j, swp M j x z, rfl, HC2, HV2, HI2, HJ2, HO2, HG2⟩
            case measure => have := HJ3.out; simp [intOf]; omega
          · have hd3 : decide (r < 0) = false := decide_eq_false hneg
            have HS2 : Hid (Srt pr M a (k + 1)) := hide (by
              have h := HJ.out
              rw [hj.out] at h
              have hz := HZ.out
              rw [hj.out] at hz
              refine h.stop (by have := hj.out; have := HC.out; omega) (by have := hj.out; have := HC.out; omega) HX.out hz ?_
              rw [← hr.out] at hneg
              have := mt cmpI_neg.2 hneg
              omega)
            have HG2 := fun q => hide (gb_drewN HG.out q)
            have HV2 : ∀ q, Hid (NV (wr.drewN q) P M) := fun q => hide HV.out
            have HG2 := hide HG2
            have HV2 := hide HV2
            clear hneg HJ HC
            go_wp2_with fail
            go_quiet (first | (go_at_call 48; exact Calls.quiet_of (HR.out _)))
            go_wp2_with fail
            go_roundw
            case rel => exact ⟨k + 1, M, by go_num, hide (by have := HK.out; have := HKB.out; omega), HV2.out _, HI, HS2, HO, HG2.out _⟩
            case measure => have := HKB.out; first | (rw [wk]; simp [intOf]; omega) | (simp [intOf]; omega)
        · have e : c = a := by have := HC.out; omega
          subst e
          have hd2 : decide ((c : Int) < (c : Int)) = false := by simp
          have HS2 := hide HJ.out.first
          have HG2 := fun q => hide (gb_drewN HG.out q)
          have HV2 : ∀ q, Hid (NV (wr.drewN q) P M) := fun q => hide HV.out
          have HG2 := hide HG2
          have HV2 := hide HV2
          clear HJ HC hca
          go_wp2_with fail
          go_quiet (fail)
          go_wp2_with fail
          go_roundw
          case rel => exact ⟨k + 1, M, by go_num, hide (by have := HK.out; have := HKB.out; omega), HV2.out _, HI, HS2, HO, HG2.out _⟩
          case measure => have := HKB.out; first | (rw [wk]; simp [intOf]; omega) | (simp [intOf]; omega)
    · have hd1 : decide ((k : Int) < (b : Int)) = false := by rw [decide_eq_false_iff_not]; omega
      have hd1' : decide (k < b) = false := decide_eq_false hlt
      have HS2 : Hid (Srt pr M a b) := hide (HSr.out.mono (by omega))
      clear hlt
      go_wp2_with fail
      refine bodyPost_end (v := .tuple #[]) ?r1 ?r2 ?r3
      case r1 => exact results_none rfl _ _ _
      case r2 => rfl
      case r3 => exact ⟨⟨_, rfl⟩, M, HV.out, HI.out, HS2.out, HO.out, HG.out⟩
end Go.Proofs.YtcdhblfefpkjgaaDoor
