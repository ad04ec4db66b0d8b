/-
  My own text: what the closed law asks of calendars that are free for a stretch: its walk.
-/
import Derived.Test.YtdfeehimnfogmaaGreatDoorK3
namespace Go.Proofs.YtdfeehimnfogmaaGreatDoor
open Go.RowKit

def IB (w : World) (g n : Nat) (lo hi : Int) : Prop := g < w.heap.size ∧ ∀ j, j < n → ∃ x : Int, w.cell? ⟨g, j, none⟩ = some (.int .i64 x) ∧ lo ≤ x ∧ x ≤ hi
theorem IB.low {w w' : World} {g n : Nat} {lo hi : Int} (h : IB w g n lo hi) (hb : Below w.heap.size w w') : IB w' g n lo hi :=
  ⟨Nat.lt_of_lt_of_le h.1 hb.size, fun j hj => by
    obtain ⟨x, hx, h2⟩ := h.2 j hj
    exact ⟨x, (hb.cell (p := ⟨g, j, none⟩) h.1).trans hx, h2⟩⟩
theorem IB.new (w : World) (L : List Int) (t : TypeId) (lo hi : Int) (hl : ∀ x ∈ L, lo ≤ x ∧ x ≤ hi) : IB (w.alloc (.cells (L.map (Value.int .i64)).toArray t)) w.heap.size L.length lo hi := by
  have h := (MapKept.heap_alloc w (.cells (L.map (Value.int .i64)).toArray t)).1
  refine ⟨by simp, fun j hj => ⟨L[j], ?_, hl _ (List.getElem_mem hj)⟩⟩
  unfold World.cell?
  rw [h]
  simp [hj]
/-- A stretch of days. -/
def sl (f : Int) (k : Nat) : List Int := (List.range k).map fun j : Nat => f + (j : Int)
theorem sl_len (f : Int) (k : Nat) : (sl f k).length = k := by simp [sl]
theorem sl_succ (f : Int) (k : Nat) : lv .i64 (sl f (k + 1)) = lv .i64 (sl f k) ++ [.int .i64 (f + (k : Int))] := by unfold sl lv; rw [List.range_succ]; simp
theorem sl_in (f : Int) (k : Nat) (f0 : 0 ≤ f) (f1 : f ≤ 1000000) (hk : k ≤ 1000) : ∀ x ∈ sl f k, -9223372036854775808 ≤ x ∧ x ≤ 9223372036854775807 := by
  intro x hx
  obtain ⟨j, hj, rfl⟩ := List.mem_map.1 hx
  have := List.mem_range.1 hj
  omega
theorem IA.new8 (w : World) (a b c d e f g h : Int) (t : TypeId) : IA (w.alloc (.cells #[.int .i64 a, .int .i64 b, .int .i64 c, .int .i64 d, .int .i64 e, .int .i64 f, .int .i64 g, .int .i64 h] t)) w.heap.size 8 := IA.new w [a, b, c, d, e, f, g, h] t
theorem rcellsT {W : World} {D : Nat} {v : Value} {t : TypeId} (h : Blk W D (dcells tw v) t) :
    W.cell? ⟨D, 0, none⟩ = some (.bool false) ∧ W.cell? ⟨D, 1, none⟩ = some (.bool false) ∧ W.cell? ⟨D, 2, none⟩ = some (.bool false) ∧ W.cell? ⟨D, 3, none⟩ = some (.bool false) ∧ W.cell? ⟨D, 4, none⟩ = some (.bool false) ∧ W.cell? ⟨D, 5, none⟩ = some (.bool true) ∧ W.cell? ⟨D, 6, none⟩ = some (.bool true) ∧ W.cell? ⟨D, 7, none⟩ = some v := rcells h
theorem Held2.askT {w5 : World} {p b R : Nat} {a : Option Addr} {n cap : Nat} {l : List Int} (h : Held2 w5 p b R tw a n cap l) (o kd x y : Int) (W : World) (hW : Below w5.heap.size w5 W) (y1 : -9223372036854775808 ≤ y) (y2 : y ≤ 9223372036854775807) :
    Calls Tryz.prog 28 #[.pointer (some ⟨p, 0, none⟩), .agg #[.bool false, .bool false, .bool false, .bool false, .bool false, .bool true, .bool true, .slice a n cap], .agg #[.int .i64 o, .int .i64 kd, .int .i64 x, .int .i64 y]] W fun e w' => e = .returned (.bool true) ∧ Below W.heap.size W w' := h.ask o kd x y W hW y1 y2
theorem held_T (a : Option Addr) (n cap : Nat) (l : List Int) (w : World) (hn : l.length = n) (HV : Hid (RI w .i64 (.slice a n cap) l)) (hl : n ≤ 17592186043904) (hb : ∀ x ∈ l, -9223372036854775808 ≤ x ∧ x ≤ 9223372036854775807) :
    Calls Tryz.prog 27 #[.agg #[.bool false, .bool false, .bool false, .bool false, .bool false, .bool true, .bool true, .slice a n cap]] w fun e w' => (∃ p b, e = .returned (.tuple #[.pointer (some ⟨p, 0, none⟩), .agg #[.bool false, .bool false, .bool false, .bool false, .bool false, .bool true, .bool true, .slice a n cap], .bool true]) ∧ Cal w' p b tw (FL tw l)) ∧ Below w.heap.size w w' := by
  subst hn
  exact held_any tw a cap l w HV hl hb
set_option maxRecDepth 100000 in
set_option maxHeartbeats 4000000 in
theorem stretches_known (w : World) (hL : Lies w) :
    Calls Tryz.prog 29 #[] w fun e w' => e = .returned (.bool true) ∧ Below w.heap.size w w' := by
  have HL := hide hL
  obtain ⟨i0, hi, hz0, hz1, hz2⟩ := info_parts Tryz.infoI
  clear hL
  go_enter Tryz.func29, Tryz.ntmps29
  go_wp2_with fail
  go_loopw [1] (fun m wr => ∃ t : Int, 1 ≤ t ∧ t ≤ 90 ∧ m = .int .i64 t ∧ Hid (Below w.heap.size w wr)) (fun m _ => (100 - intOf m).toNat)
  case atStart => exact ⟨1, by omega, by omega, rfl, hide (Below.refl _ _)⟩
  case round =>
    obtain ⟨t, t0, t1, rfl, HB⟩ := hrel
    by_cases htl : t < 71
    · have hd : decide (t < 71) = true := by rw [decide_eq_true_eq]; omega
      obtain ⟨w2, hw2⟩ : ∃ x, x = wr := ⟨_, rfl⟩
      subst hw2
      have HF := hide (IB.new w2 [738521, 738540, 738550, 738700, 738850, 738870, 738886, 738945] 3 738521 738945 (by decide))
      have HB2 := hide (below_new HB.out (Nat.le_refl _) (.cells (([738521, 738540, 738550, 738700, 738850, 738870, 738886, 738945] : List Int).map (Value.int .i64)).toArray 3))
      go_wp2_with fail
      go_loopw [21] (fun i wr => ∃ k : Nat, k ≤ 8 ∧ i = .int .i64 k ∧ Hid (Below w.heap.size w wr) ∧ Hid (IB wr w2.heap.size 8 738521 738945)) (fun i _ => 8 - (intOf i).toNat)
      case atStart => exact ⟨0, Nat.zero_le _, rfl, HB2, HF⟩
      case round =>
        clear HB2 HF HB
        obtain ⟨k, hk, rfl, HB, HF⟩ := hrel
        by_cases hkl : k < 8
        · have hd2 : decide ((k : Int) < 8) = true := by rw [decide_eq_true_eq]; omega
          obtain ⟨f, hx, f0, f1⟩ := HF.out.2 k hkl
          obtain ⟨w3, hw3⟩ : ∃ x, x = wr := ⟨_, rfl⟩
          subst hw3
          have hF3 : w2.heap.size < w3.heap.size := HF.out.1
          have HD0 : Hid (Blk (w3.alloc (.cells (dcells tw (.slice none 0 0)) 50)) w3.heap.size (dcells tw (.slice none 0 0)) 50) := hide (Blk.new _ _ _)
          have HB3 : Hid (Below w3.heap.size w3 (w3.alloc (.cells (dcells tw (.slice none 0 0)) 50))) := hide ((Below.refl _ _).alloc (Nat.le_refl _) _)
          have HO3 : Hid ((w3.alloc (.cells (dcells tw (.slice none 0 0)) 50)).ownsRow (w3.heap.size + 1) 3 1 (.slice none 0 0) 0 (lv .i64 (sl f 0))) := hide (World.ownsRow_nil _ _ _ _)
          go_wp2_with fail
          clear hx
          go_loopw [5] (fun m wr => ∃ (j : Nat) (v : Value), (j : Int) ≤ t ∧ m = .int .i64 j ∧ Hid (Below w3.heap.size w3 wr) ∧ Hid (Blk wr w3.heap.size (dcells tw v) 50) ∧ Hid (wr.ownsRow (w3.heap.size + 1) 3 1 v j (lv .i64 (sl f j)))) (fun m _ => (t - intOf m).toNat)
          case atStart => exact ⟨0, .slice none 0 0, by omega, rfl, HB3, HD0, HO3⟩
          case round =>
            clear HB3 HD0 HO3
            obtain ⟨j, v, hj, rfl, HB3, HD, HO⟩ := hrel
            obtain ⟨ad, cap, rfl⟩ := own_slice HO.out
            by_cases hjl : (j : Int) < t
            · have hd3 : decide ((j : Int) < t) = true := by rw [decide_eq_true_eq]; omega
              have b7 : wr.cell? ⟨w3.heap.size, 7, none⟩ = some (.slice ad j cap) := HD.out.cell 7
              have f7 := HD.out.free 7
              have hs1 : w3.heap.size < wr.heap.size := HD.out.lt
              go_wp2_with (first
                | (at_builtin; refine wpList_append_own _ rfl _ _ 40 rfl _ 3 i0 (.int .i64 0) 1 8 Tryz.underlying40 hi hz0 hz1 hz2 rfl (by decide) _ _ _ rfl (HO.out.alloc _) ⟨_, 0, none⟩ 1 1 [.int .i64 (f + (j : Int))] rfl rfl ?c1 ?c2 ?c3 ?c4 ?c5 ?_)
                | go_in)
              case c1 =>
                intro j u hj
                match j, hj with
                | 0, hj => simp at hj; subst hj; simp [Addr.add]
              case c2 => first | exact ⟨rfl, rfl⟩ | (intro u hu; simp at hu; subst hu; rfl)
              case c3 => unfold maxLen; omega
              case c4 => omega
              case c5 => simp; omega
              intro v2 w4 hown2 hgrow2 _
              have HB4 := hide ((HB3.out.alloc HB3.out.size (.cells #[.int .i64 (f + (j : Int))] 3)).grown hgrow2 (by simp; omega) (fun j hj => by have := (HO.out.lt j hj).1; omega))
              have HD4 := hide ((HD.out.alloc (.cells #[.int .i64 (f + (j : Int))] 3)).kept hgrow2 (ownKind (HO.out.alloc _)) (by decide))
              have HO4 : Hid (w4.ownsRow (w3.heap.size + 1) 3 1 v2 (j + 1) (lv .i64 (sl f (j + 1)))) := by rw [sl_succ]; exact hide hown2
              obtain ⟨ad2, cap2, rfl⟩ := own_slice HO4.out
              clear hown2 hgrow2 HB3 HO HD b7 f7
              have b7 : w4.cell? ⟨w3.heap.size, 7, none⟩ = some (.slice ad j cap) := HD4.out.cell 7
              have f7 := HD4.out.free 7
              have HD5 : Hid (Blk (w4.setCell ⟨w3.heap.size, 7, none⟩ (.slice ad2 (j + 1) cap2)) w3.heap.size (dcells tw (.slice ad2 (j + 1) cap2)) 50) := hide (HD4.out.set 7 _)
              go_wp2_with fail
              go_roundw
              case rel => exact ⟨j + 1, .slice ad2 (j + 1) cap2, by omega, by go_num, hide (HB4.out.setCell (p := ⟨w3.heap.size, 7, none⟩) (Nat.le_refl _) _), HD5, hide (ownsRow_setCell_below HO4.out (a := ⟨w3.heap.size, 7, none⟩) (by simp) _)⟩
              case measure => simp [intOf]; omega
            · obtain ⟨w4, hw4⟩ : ∃ x, x = wr := ⟨_, rfl⟩
              subst hw4
              have hd3 : decide ((j : Int) < t) = false := by rw [decide_eq_false_iff_not]; omega
              have hj2 : j ≤ 90 := by omega
              have HR4 : Hid (RI w4 .i64 (.slice ad j cap) (sl f j)) := hide (ri_of_owns HO.out)
              have HH := hide (held_T ad j cap (sl f j) w4 (sl_len f j) HR4 (by omega) (sl_in f j (by omega) (by omega) (by omega)))
              have HBw := hide (below_on HB.out HB3.out (Nat.le_refl _))
              have HF4 := hide (HF.out.low HB3.out)
              obtain ⟨b0, b1, b2, b3, b4, b5, b6, b7⟩ := rcellsT HD.out
              clear HO HD HB3 HF HB
              go_wp2_with fail
              clear b0 b1 b2 b3 b4 b5 b6 b7
              refine HH.out.mono ?_
              rintro e w5 ⟨⟨p, b, rfl, hcal⟩, hb5⟩
              have HQ : Hid (Held2 (w5.alloc (.cells (dcells tw (.slice ad j cap)) 51)) p b w5.heap.size tw ad j cap (sl f j)) := hide (by
                have h0 : Below w5.heap.size w5 (w5.alloc (.cells (dcells tw (.slice ad j cap)) 51)) := (Below.refl _ _).alloc (Nat.le_refl _) _
                exact ⟨HL.out.below (below_on (below_on HBw.out hb5 (Nat.le_refl _)) h0 (Nat.le_refl _)), sl_len f j, by omega, hcal.later h0, (HR4.out.later hb5).later h0, Blk.new _ _ _⟩)
              have HB6 := hide (below_new (below_on HBw.out hb5 (Nat.le_refl _)) (Nat.le_refl _) (.cells (dcells tw (.slice ad j cap)) 51))
              have HF6 := hide ((HF4.out.low hb5).low ((Below.refl _ _).alloc (Nat.le_refl _) (.cells (dcells tw (.slice ad j cap)) 51)))
              clear HH HR4 HBw HF4 hcal hb5
              go_wp2_with fail
              obtain ⟨w6, hw6⟩ : ∃ x, x = (w5.alloc (.cells (dcells tw (.slice ad j cap)) 51)) := ⟨_, rfl⟩
              rw [← hw6] at HQ HB6 HF6
              go_loopw [72] (fun i wr => ∃ q : Nat, q ≤ 8 ∧ i = .int .i64 q ∧ Hid (Below w6.heap.size w6 wr) ∧ Hid (IA wr (w5.heap.size + 1) 8)) (fun i _ => 8 - (intOf i).toNat)
              case atStart => exact ⟨0, Nat.zero_le _, rfl, hide (by rw [hw6]; exact (Below.refl _ _).alloc (Nat.le_refl _) _), hide (by rw [show w5.heap.size + 1 = (w5.alloc (.cells (dcells tw (.slice ad j cap)) 51)).heap.size by simp]; exact IA.new8 _ _ _ _ _ _ _ _ _ _)⟩
              case round =>
                obtain ⟨q, hq, rfl, HB7, HA⟩ := hrel
                by_cases hql : q < 8
                · have hd4 : decide ((q : Int) < 8) = true := by rw [decide_eq_true_eq]; omega
                  obtain ⟨x, hx⟩ := HA.out.2 q hql
                  go_wp2_with fail
                  clear hx
                  go_loopw [11] (fun m wr => ∃ s : Int, -1 ≤ s ∧ s ≤ 5 ∧ m = .int .i64 s ∧ Hid (Below w6.heap.size w6 wr) ∧ Hid (IA wr (w5.heap.size + 1) 8)) (fun m _ => (5 - intOf m).toNat)
                  case atStart => exact ⟨-1, by omega, by omega, rfl, HB7, HA⟩
                  case round =>
                    clear HB7 HA
                    obtain ⟨s, s0, s1, rfl, HB7, HA⟩ := hrel
                    by_cases hsl : s < 5
                    · have hd5 : decide (s < 5) = true := by rw [decide_eq_true_eq]; omega
                      obtain ⟨b0, b1, b2, b3, b4, b5, b6, b7⟩ := rcellsT (HQ.out.blk.later HB7.out)
                      go_wp2_with fail
                      clear b0 b1 b2 b3 b4 b5 b6 b7
                      refine (HQ.out.askT _ _ _ _ _ HB7.out (by omega) (by omega)).mono ?_
                      rintro e v1 ⟨rfl, hb⟩
                      have hB8 := below_on HB7.out hb (Nat.le_refl _)
                      have HA8 := hide (HA.out.low hb)
                      clear hb
                      obtain ⟨b0, b1, b2, b3, b4, b5, b6, b7⟩ := rcellsT (HQ.out.blk.later hB8)
                      go_wp2_with fail
                      clear b0 b1 b2 b3 b4 b5 b6 b7
                      refine (HQ.out.askT _ _ _ _ _ hB8 (by omega) (by omega)).mono ?_
                      rintro e v2 ⟨rfl, hb⟩
                      have hB9 := below_on hB8 hb (Nat.le_refl _)
                      have HA9 := hide (HA8.out.low hb)
                      clear hb
                      go_wp2_with fail
                      go_roundw
                      case rel => exact ⟨s + 1, by omega, by omega, by go_num, hide hB9, HA9⟩
                      case measure => simp [intOf]; omega
                    · have hs' : s = 5 := by omega
                      subst hs'
                      go_wp2_with fail
                      go_roundw
                      case rel => exact ⟨q + 1, by omega, by go_num, HB7, HA⟩
                      case measure => simp [intOf]; omega
                · have hq' : q = 8 := by omega
                  subst hq'
                  rw [show ((8 : Nat) : Int) = 8 from rfl]
                  go_wp2_with fail
                  go_roundw
                  case rel => exact ⟨k + 1, by omega, by go_num, hide (below_on HB6.out HB7.out (Nat.le_refl _)), hide (HF6.out.low HB7.out)⟩
                  case measure => simp [intOf]; omega
        · have hk' : k = 8 := by omega
          subst hk'
          rw [show ((8 : Nat) : Int) = 8 from rfl]
          go_wp2_with fail
          go_roundw
          case rel => exact ⟨t + 1 + t / 5, by omega, by omega, by go_num, HB⟩
          case measure => simp [intOf]; omega
    · have hd : decide (t < 71) = false := by rw [decide_eq_false_iff_not]; omega
      go_wp2_with fail
      go_ret
      exact ⟨rfl, HB.out⟩
end Go.Proofs.YtdfeehimnfogmaaGreatDoor
