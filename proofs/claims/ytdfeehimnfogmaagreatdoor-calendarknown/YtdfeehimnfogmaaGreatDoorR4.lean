/-
  My own text: the document's calendar: the day that stands for a day.
-/
import Derived.Test.YtdfeehimnfogmaaGreatDoorR3
namespace Go.Proofs.YtdfeehimnfogmaaGreatDoor
open Go.RowKit

theorem mon_eq {a b : Int} (h1 : 1 ≤ a) (h2 : 1 ≤ b) : (yearI a == yearI b && monthI a == monthI b) = (monI a == monI b) := by
  have ma := monthI_b h1
  have mb := monthI_b h2
  unfold monI
  rw [Bool.eq_iff_iff, Bool.and_eq_true, beq_iff_eq, beq_iff_eq, beq_iff_eq]
  constructor
  · rintro ⟨h1, h2⟩; omega
  · intro h; exact ⟨by omega, by omega⟩
def NearU (g : Int → Bool) (n v : Int) : Prop := (v = 0 ∧ cn g n 3652060 = 0) ∨ (n ≤ v ∧ v ≤ 3652059 ∧ g v = true ∧ cn g n v = 0)
def NearD (g : Int → Bool) (n v : Int) : Prop := (v = 0 ∧ cn g (0 + 1) (n + 1) = 0) ∨ (1 ≤ v ∧ v ≤ n ∧ g v = true ∧ cn g (v + 1) (n + 1) = 0)
theorem NearU.add {g : Int → Bool} {n v : Int} (n1 : 1 ≤ n) (n2 : n ≤ 3652059) (h : NearU g n v) : (g n = true ∧ v = n) ∨ (g n = false ∧ ((v = 0 ∧ AddR g n 1 0 8) ∨ (1 ≤ v ∧ AddR g n 1 v 0))) := by
  have c1 := cn_one g n
  cases hg : g n
  · rw [hg] at c1; simp at c1
    refine .inr ⟨rfl, ?_⟩
    rcases h with ⟨a1, a2⟩ | ⟨a1, a2, a3, a4⟩
    · have c := cn_add g (show n ≤ n + 1 by omega) (show n + 1 ≤ 3652060 by omega)
      exact .inl ⟨a1, .inr (.inl ⟨by omega, .inr ⟨rfl, rfl, by omega⟩⟩)⟩
    · have e : v ≠ n := fun e => by rw [e, hg] at a3; cases a3
      have c := cn_add g (show n ≤ n + 1 by omega) (show n + 1 ≤ v by omega)
      have c2 := cn_next g (show n + 1 ≤ v by omega)
      rw [a3] at c2; simp at c2
      exact .inr ⟨by omega, .inr (.inl ⟨by omega, .inl ⟨rfl, by omega, a2, a3, by omega⟩⟩)⟩
  · rw [hg] at c1; simp at c1
    refine .inl ⟨rfl, ?_⟩
    rcases h with ⟨a1, a2⟩ | ⟨a1, a2, a3, a4⟩
    · have c := cn_add g (show n ≤ n + 1 by omega) (show n + 1 ≤ 3652060 by omega)
      have c2 := cn_b g (show n + 1 ≤ 3652060 by omega)
      omega
    · by_cases e : v = n
      · exact e
      · have c := cn_add g (show n ≤ n + 1 by omega) (show n + 1 ≤ v by omega)
        have c2 := cn_b g (show n + 1 ≤ v by omega)
        omega
theorem NearD.add {g : Int → Bool} {n v : Int} (n1 : 1 ≤ n) (_n2 : n ≤ 3652059) (h : NearD g n v) : (g n = true ∧ v = n) ∨ (g n = false ∧ ((v = 0 ∧ AddR g n (-1) 0 8) ∨ (1 ≤ v ∧ AddR g n (-1) v 0))) := by
  have c1 := cn_one g n
  cases hg : g n
  · rw [hg] at c1; simp at c1
    refine .inr ⟨rfl, ?_⟩
    rcases h with ⟨a1, a2⟩ | ⟨a1, a2, a3, a4⟩
    · rw [show (0 : Int) + 1 = 1 from rfl] at a2
      have c := cn_add g (show 1 ≤ n by omega) (show n ≤ n + 1 by omega)
      exact .inl ⟨a1, .inr (.inr ⟨by omega, .inr ⟨rfl, rfl, by omega⟩⟩)⟩
    · have e : v ≠ n := fun e => by rw [e, hg] at a3; cases a3
      have c := cn_add g (show v + 1 ≤ n by omega) (show n ≤ n + 1 by omega)
      have c2 := cn_add g (show v ≤ v + 1 by omega) (show v + 1 ≤ n by omega)
      have c3 := cn_one g v
      rw [a3] at c3; simp at c3
      exact .inr ⟨a1, .inr (.inr ⟨by omega, .inl ⟨rfl, a1, by omega, a3, by omega⟩⟩)⟩
  · rw [hg] at c1; simp at c1
    refine .inl ⟨rfl, ?_⟩
    rcases h with ⟨a1, a2⟩ | ⟨a1, a2, a3, a4⟩
    · rw [show (0 : Int) + 1 = 1 from rfl] at a2
      have c := cn_add g (show 1 ≤ n by omega) (show n ≤ n + 1 by omega)
      have c2 := cn_b g (show 1 ≤ n by omega)
      omega
    · by_cases e : v = n
      · exact e
      · have c := cn_add g (show v + 1 ≤ n by omega) (show n ≤ n + 1 by omega)
        have c2 := cn_b g (show v + 1 ≤ n by omega)
        omega
set_option maxRecDepth 100000 in
set_option maxHeartbeats 2000000 in
theorem refNearU_any (we : Nat → Bool) (ad : Option Addr) (cap : Nat) (l : List Int) (n : Int) (w : World) (HR : Hid (RI w .i64 (.slice ad l.length cap) l)) (hl : l.length ≤ 17592186044416) (n1 : 1 ≤ n) (n2 : n ≤ 3652059) :
    Calls Tryz.prog 73 #[.agg #[.bool (we 0), .bool (we 1), .bool (we 2), .bool (we 3), .bool (we 4), .bool (we 5), .bool (we 6), .slice ad l.length cap], .int .i64 n, .int .i64 (1)] w fun e w' => (∃ v, e = .returned (.int .i64 v) ∧ NearU (bizB we (FL we l)) n v) ∧ Below w.heap.size w w' := by
  have HB0 : Hid (Below w.heap.size w (w.alloc (.cells #[.bool (we 0), .bool (we 1), .bool (we 2), .bool (we 3), .bool (we 4), .bool (we 5), .bool (we 6), .slice ad l.length cap] 51))) := hide ((Below.refl _ _).alloc (Nat.le_refl _) _)
  have HBX0 := hide (Box.new w we ad l.length cap 51)
  go_enter Tryz.func73, Tryz.ntmps73
  go_wp2_with fail
  go_loopw [1] (fun m wr => ∃ (m' : Int), m = .int .i64 m' ∧ n ≤ m' ∧ m' ≤ 3652060 ∧ Hid (cn (bizB we (FL we l)) n m' = 0) ∧ Hid (Below w.heap.size w wr) ∧ Hid (Box wr w.heap.size we ad l.length cap)) (fun m _ => (3652060 - intOf m).toNat)
  case atStart => exact ⟨n, rfl, by omega, by omega, (show _ = _ by rw [cn_self]), HB0, HBX0⟩
  case round =>
    clear HB0 HBX0
    obtain ⟨m, rfl, m1, m2, HX, HB, HBX⟩ := hrel
    by_cases hfar : m = 3652060
    · subst hfar
      have HIM := hide (fun W : World => refIs_any 3652060 W)
      rw [show dayB 3652060 = false by decide] at HIM
      go_wp2_with (go_at_call 67; refine (HIM.out _).mono ?_; rintro e w' ⟨rfl, hw'⟩; have hw' := hw'.symm; subst hw')
      go_ret
      exact ⟨⟨0, rfl, .inl ⟨rfl, HX.out⟩⟩, HB.out⟩
    · have HIM := hide (fun W : World => refIs_any m W)
      rw [dayB_yes (n := m) (by omega) (by omega)] at HIM
      have BX := HBX.out
      have b0 := BX.ce 0 (by omega)
      have b1 := BX.ce 1 (by omega)
      have b2 := BX.ce 2 (by omega)
      have b3 := BX.ce 3 (by omega)
      have b4 := BX.ce 4 (by omega)
      have b5 := BX.ce 5 (by omega)
      have b6 := BX.ce 6 (by omega)
      have b7 := BX.cs
      clear BX
      have HBM := hide (fun (W : World) (h : RI W .i64 (.slice ad l.length cap) l) => refBusiness_any we ad cap l m W (hide h) hl)
      have HBB := hide (bus_biz2 (we := we) (F := FL we l) (dayB_yes (n := m) (by omega) (by omega)))
      cases hg : busB we (FL we l) m
      · have HG := hide (HBB.out.symm.trans hg)
        rw [hg] at HBM
        go_wp2_with (first
          | (go_at_call 67; refine (HIM.out _).mono ?_; rintro e w' ⟨rfl, hw'⟩; have hw' := hw'.symm; subst hw')
          | (go_at_call 57; refine (HBM.out _ (HR.out.later HB.out)).mono ?_; rintro e w2 ⟨rfl, hb2⟩))
        go_roundw
        case rel => exact ⟨m + 1, by go_num, by omega, by omega, (show _ = _ by rw [cn_next _ (by omega), HG.out, HX.out]; simp), hide (HB.out.trans (hb2.mono HB.out.size)), hide (HBX.out.later hb2)⟩
        case measure => simp [intOf]; omega
      · have HG := hide (HBB.out.symm.trans hg)
        rw [hg] at HBM
        go_wp2_with (first
          | (go_at_call 67; refine (HIM.out _).mono ?_; rintro e w' ⟨rfl, hw'⟩; have hw' := hw'.symm; subst hw')
          | (go_at_call 57; refine (HBM.out _ (HR.out.later HB.out)).mono ?_; rintro e w2 ⟨rfl, hb2⟩; have HB2 := hide (HB.out.trans (hb2.mono HB.out.size))))
        go_ret
        exact ⟨⟨m, rfl, .inr ⟨by omega, by omega, HG.out, HX.out⟩⟩, HB2.out⟩
set_option maxRecDepth 100000 in
set_option maxHeartbeats 2000000 in
theorem refNearD_any (we : Nat → Bool) (ad : Option Addr) (cap : Nat) (l : List Int) (n : Int) (w : World) (HR : Hid (RI w .i64 (.slice ad l.length cap) l)) (hl : l.length ≤ 17592186044416) (n1 : 1 ≤ n) (n2 : n ≤ 3652059) :
    Calls Tryz.prog 73 #[.agg #[.bool (we 0), .bool (we 1), .bool (we 2), .bool (we 3), .bool (we 4), .bool (we 5), .bool (we 6), .slice ad l.length cap], .int .i64 n, .int .i64 (-1)] w fun e w' => (∃ v, e = .returned (.int .i64 v) ∧ NearD (bizB we (FL we l)) n v) ∧ Below w.heap.size w w' := by
  have HB0 : Hid (Below w.heap.size w (w.alloc (.cells #[.bool (we 0), .bool (we 1), .bool (we 2), .bool (we 3), .bool (we 4), .bool (we 5), .bool (we 6), .slice ad l.length cap] 51))) := hide ((Below.refl _ _).alloc (Nat.le_refl _) _)
  have HBX0 := hide (Box.new w we ad l.length cap 51)
  go_enter Tryz.func73, Tryz.ntmps73
  go_wp2_with fail
  go_loopw [1] (fun m wr => ∃ (m' : Int), m = .int .i64 m' ∧ 0 ≤ m' ∧ m' ≤ n ∧ Hid (cn (bizB we (FL we l)) (m' + 1) (n + 1) = 0) ∧ Hid (Below w.heap.size w wr) ∧ Hid (Box wr w.heap.size we ad l.length cap)) (fun m _ => (intOf m).toNat)
  case atStart => exact ⟨n, rfl, by omega, by omega, (show _ = _ by rw [cn_self]), HB0, HBX0⟩
  case round =>
    clear HB0 HBX0
    obtain ⟨m, rfl, m1, m2, HX, HB, HBX⟩ := hrel
    by_cases hfar : m = 0
    · subst hfar
      have HIM := hide (fun W : World => refIs_any 0 W)
      rw [show dayB 0 = false by decide] at HIM
      go_wp2_with (go_at_call 67; refine (HIM.out _).mono ?_; rintro e w' ⟨rfl, hw'⟩; have hw' := hw'.symm; subst hw')
      go_ret
      exact ⟨⟨0, rfl, .inl ⟨rfl, HX.out⟩⟩, HB.out⟩
    · have HIM := hide (fun W : World => refIs_any m W)
      rw [dayB_yes (n := m) (by omega) (by omega)] at HIM
      have BX := HBX.out
      have b0 := BX.ce 0 (by omega)
      have b1 := BX.ce 1 (by omega)
      have b2 := BX.ce 2 (by omega)
      have b3 := BX.ce 3 (by omega)
      have b4 := BX.ce 4 (by omega)
      have b5 := BX.ce 5 (by omega)
      have b6 := BX.ce 6 (by omega)
      have b7 := BX.cs
      clear BX
      have HBM := hide (fun (W : World) (h : RI W .i64 (.slice ad l.length cap) l) => refBusiness_any we ad cap l m W (hide h) hl)
      have HBB := hide (bus_biz2 (we := we) (F := FL we l) (dayB_yes (n := m) (by omega) (by omega)))
      cases hg : busB we (FL we l) m
      · have HG := hide (HBB.out.symm.trans hg)
        rw [hg] at HBM
        go_wp2_with (first
          | (go_at_call 67; refine (HIM.out _).mono ?_; rintro e w' ⟨rfl, hw'⟩; have hw' := hw'.symm; subst hw')
          | (go_at_call 57; refine (HBM.out _ (HR.out.later HB.out)).mono ?_; rintro e w2 ⟨rfl, hb2⟩))
        go_roundw
        case rel => exact ⟨m - 1, by go_num, by omega, by omega, (show _ = _ by have c := cn_add (bizB we (FL we l)) (show m ≤ m + 1 by omega) (show m + 1 ≤ n + 1 by omega); have c1 := cn_one (bizB we (FL we l)) m; rw [HG.out] at c1; simp at c1; rw [show m - 1 + 1 = m by omega, c, c1, HX.out]; rfl), hide (HB.out.trans (hb2.mono HB.out.size)), hide (HBX.out.later hb2)⟩
        case measure => simp [intOf]; omega
      · have HG := hide (HBB.out.symm.trans hg)
        rw [hg] at HBM
        go_wp2_with (first
          | (go_at_call 67; refine (HIM.out _).mono ?_; rintro e w' ⟨rfl, hw'⟩; have hw' := hw'.symm; subst hw')
          | (go_at_call 57; refine (HBM.out _ (HR.out.later HB.out)).mono ?_; rintro e w2 ⟨rfl, hb2⟩; have HB2 := hide (HB.out.trans (hb2.mono HB.out.size))))
        go_ret
        exact ⟨⟨m, rfl, .inr ⟨by omega, by omega, HG.out, HX.out⟩⟩, HB2.out⟩
set_option maxRecDepth 100000 in
set_option maxHeartbeats 1000000 in
theorem refMonth_any (x y : Int) (w : World) (x1 : 1 ≤ x) (x2 : x ≤ 3652059) (y1 : 1 ≤ y) (y2 : y ≤ 3652059) :
    Calls Tryz.prog 74 #[.int .i64 x, .int .i64 y] w fun e w' => e = .returned (.bool (monI x == monI y)) ∧ Below w.heap.size w w' := by
  have H := hide (mon_eq x1 y1)
  have HX := hide (fun (W : World) => refOf_any x W)
  rw [(of_ok (dayB_yes x1 x2)).1, (of_ok (dayB_yes x1 x2)).2] at HX
  have HY := hide (fun (W : World) => refOf_any y W)
  rw [(of_ok (dayB_yes y1 y2)).1, (of_ok (dayB_yes y1 y2)).2] at HY
  rw [← H.out]
  unfold dateV at HX HY
  clear H
  generalize yearI x = a0 at *
  generalize monthI x = a1 at *
  generalize dayI x = a2 at *
  generalize yearI y = b0 at *
  generalize monthI y = b1 at *
  generalize dayI y = b2 at *
  go_enter Tryz.func74, Tryz.ntmps74
  go_wp2_with fail
  refine (HX.out _).mono ?_
  rintro e w1 ⟨rfl, hb1⟩
  have hB2 : Below w.heap.size w (w1.alloc (.cells #[.int .i64 a0, .int .i64 a1, .int .i64 a2] 25)) := hb1.alloc hb1.size _
  go_wp2_with fail
  refine (HY.out _).mono ?_
  rintro e w3 ⟨rfl, hb3⟩
  have hB3 := hide (hB2.trans (hb3.mono hB2.size))
  have T := ((Trio.new w1 a0 a1 a2 25).later hb3).alloc (.cells #[.int .i64 b0, .int .i64 b1, .int .i64 b2] 25)
  have c0 := T.c0
  have c1 := T.c1
  by_cases q : a0 = b0
  · subst q
    go_wp2_with fail
    go_ret
    exact ⟨ret_b (by simp), hB3.out.alloc hB3.out.size _⟩
  · have qb : (a0 == b0) = false := by simpa using q
    go_wp2_with fail
    go_ret
    exact ⟨ret_b (by simp [qb]), hB3.out.alloc hB3.out.size _⟩
set_option maxRecDepth 100000 in
set_option maxHeartbeats 4000000 in
theorem refAdjust_any (we : Nat → Bool) (ad : Option Addr) (cap : Nat) (l : List Int) (n c : Int) (w : World) (HR : Hid (RI w .i64 (.slice ad l.length cap) l)) (hl : l.length ≤ 17592186044416) :
    Calls Tryz.prog 59 #[.agg #[.bool (we 0), .bool (we 1), .bool (we 2), .bool (we 3), .bool (we 4), .bool (we 5), .bool (we 6), .slice ad l.length cap], .int .i64 n, .int .i64 c] w fun e w' => (∃ v x, e = .returned (.tuple #[.int .i64 v, .int .i64 x]) ∧ AdjR (bizB we (FL we l)) n c v x) ∧ Below w.heap.size w w' := by
  have HI := hide (fun W : World => refIs_any n W)
  have HB0 : Hid (Below w.heap.size w (w.alloc (.cells #[.bool (we 0), .bool (we 1), .bool (we 2), .bool (we 3), .bool (we 4), .bool (we 5), .bool (we 6), .slice ad l.length cap] 51))) := hide ((Below.refl _ _).alloc (Nat.le_refl _) _)
  have HBX0 := hide (Box.new w we ad l.length cap 51)
  cases hd : dayB n
  · have HDN := hide hd
    rw [hd] at HI
    clear hd
    go_enter Tryz.func59, Tryz.ntmps59
    go_wp2_with fail
    refine (HI.out _).mono ?_
    rintro e w' ⟨rfl, hw'⟩
    have hw' := hw'.symm
    subst hw'
    go_wp2_with fail
    go_ret2
    exact ⟨⟨0, 8, rfl, .inl ⟨HDN.out, rfl, rfl⟩⟩, HB0.out⟩
  have HDY := hide hd
  rw [hd] at HI
  obtain ⟨n1, n2⟩ := (dayB_iff n).1 hd
  clear hd
  by_cases hc : c < 0
  · go_enter Tryz.func59, Tryz.ntmps59
    go_wp2_with fail
    refine (HI.out _).mono ?_
    rintro e w' ⟨rfl, hw'⟩
    have hw' := hw'.symm
    subst hw'
    go_wp2_with fail
    go_ret2
    exact ⟨⟨0, 1, rfl, .inr (.inl ⟨HDY.out, .inl hc, rfl, rfl⟩)⟩, HB0.out⟩
  by_cases hc2 : 3 < c
  · go_enter Tryz.func59, Tryz.ntmps59
    go_wp2_with fail
    refine (HI.out _).mono ?_
    rintro e w' ⟨rfl, hw'⟩
    have hw' := hw'.symm
    subst hw'
    go_wp2_with fail
    go_ret2
    exact ⟨⟨0, 1, rfl, .inr (.inl ⟨HDY.out, .inr hc2, rfl, rfl⟩)⟩, HB0.out⟩
  rcases (show c = 0 ∨ c = 1 ∨ c = 2 ∨ c = 3 by omega) with rfl | rfl | rfl | rfl
  · skip
    go_enter Tryz.func59, Tryz.ntmps59
    go_wp2_with fail
    refine (HI.out _).mono ?_
    rintro e w' ⟨rfl, hw'⟩
    have hw' := hw'.symm
    subst hw'
    go_wp2_with fail
    refine (refNearU_any we ad cap l n _ (hide (HR.out.later HB0.out)) hl n1 n2).mono ?_
    rintro e w1 ⟨⟨v1, rfl, hnr⟩, hb1⟩
    have HB1 := hide (HB0.out.trans (hb1.mono HB0.out.size))
    have HBX := hide (HBX0.out.later hb1)
    clear hb1
    have HA1 := hide (NearU.add n1 n2 hnr)
    clear hnr
    have HBZ := HB1
    rcases HA1.out with ⟨hg, rfl⟩ | ⟨hg, ⟨rfl, hr⟩ | ⟨hv, hr⟩⟩
    · have hn0 : (v1 == 0) = false := by simp; omega
      go_wp2_with fail
      go_ret2
      exact ⟨⟨v1, 0, rfl, .inr (.inr ⟨HDY.out, by omega, by omega, .inl ⟨hg, rfl, rfl⟩⟩)⟩, HBZ.out⟩
    · skip
      go_wp2_with fail
      go_ret2
      exact ⟨⟨0, 8, rfl, .inr (.inr ⟨HDY.out, by omega, by omega, .inr ⟨hg, 0, 8, hr, .inr ⟨fun h => by have := h.1; omega, rfl, rfl⟩⟩⟩)⟩, HBZ.out⟩
    · have hn0 : (v1 == 0) = false := by simp; omega
      go_wp2_with fail
      go_ret2
      exact ⟨⟨v1, 0, rfl, .inr (.inr ⟨HDY.out, by omega, by omega, .inr ⟨hg, v1, 0, hr, .inr ⟨fun h => by have := h.1; omega, rfl, rfl⟩⟩⟩)⟩, HBZ.out⟩
  · skip
    go_enter Tryz.func59, Tryz.ntmps59
    go_wp2_with fail
    refine (HI.out _).mono ?_
    rintro e w' ⟨rfl, hw'⟩
    have hw' := hw'.symm
    subst hw'
    go_wp2_with fail
    refine (refNearU_any we ad cap l n _ (hide (HR.out.later HB0.out)) hl n1 n2).mono ?_
    rintro e w1 ⟨⟨v1, rfl, hnr⟩, hb1⟩
    have HB1 := hide (HB0.out.trans (hb1.mono HB0.out.size))
    have HBX := hide (HBX0.out.later hb1)
    clear hb1
    have HA1 := hide (NearU.add n1 n2 hnr)
    clear hnr
    rcases HA1.out with ⟨hg, rfl⟩ | ⟨hg, ⟨rfl, hr⟩ | ⟨hv, hr⟩⟩
    · have hn0 : (v1 == 0) = false := by simp; omega
      have HMM := hide (fun W : World => refMonth_any v1 v1 W n1 n2 n1 n2)
      rw [show (monI v1 == monI v1) = true by simp] at HMM
      go_wp2_with fail
      refine (HMM.out _).mono ?_
      rintro e w2 ⟨rfl, hb2⟩
      have HBZ := hide (HB1.out.trans (hb2.mono HB1.out.size))
      clear hb2
      go_wp2_with fail
      go_ret2
      exact ⟨⟨v1, 0, rfl, .inr (.inr ⟨HDY.out, by omega, by omega, .inl ⟨hg, rfl, rfl⟩⟩)⟩, HBZ.out⟩
    · have HB2 := HB1
      have HBX2 := HBX
      have BX := HBX2.out
      have b0 := BX.ce 0 (by omega)
      have b1 := BX.ce 1 (by omega)
      have b2 := BX.ce 2 (by omega)
      have b3 := BX.ce 3 (by omega)
      have b4 := BX.ce 4 (by omega)
      have b5 := BX.ce 5 (by omega)
      have b6 := BX.ce 6 (by omega)
      have b7 := BX.cs
      clear BX
      go_wp2_with fail
      refine (refNearD_any we ad cap l n _ (hide (HR.out.later HB2.out)) hl n1 n2).mono ?_
      rintro e w3 ⟨⟨v2, rfl, hnr⟩, hb3⟩
      have HBZ := hide (HB2.out.trans (hb3.mono HB2.out.size))
      have HA2 := hide (NearD.add n1 n2 hnr)
      clear hnr hb3
      rcases HA2.out with ⟨hg2, _⟩ | ⟨_, ⟨rfl, hr2⟩ | ⟨hv2, hr2⟩⟩
      · rw [hg] at hg2; cases hg2
      · skip
        go_wp2_with fail
        go_ret2
        exact ⟨⟨0, 8, rfl, .inr (.inr ⟨HDY.out, by omega, by omega, .inr ⟨hg, 0, 8, hr, .inl ⟨by omega, .inl (by omega), hr2⟩⟩⟩)⟩, HBZ.out⟩
      · have hn1 : (v2 == 0) = false := by simp; omega
        go_wp2_with fail
        go_ret2
        exact ⟨⟨v2, 0, rfl, .inr (.inr ⟨HDY.out, by omega, by omega, .inr ⟨hg, 0, 8, hr, .inl ⟨by omega, .inl (by omega), hr2⟩⟩⟩)⟩, HBZ.out⟩
    · have hn0 : (v1 == 0) = false := by simp; omega
      obtain ⟨d1, d2⟩ := AddR.day n1 n2 hr
      have HMM := hide (fun W : World => refMonth_any n v1 W n1 n2 d1 d2)
      cases hm : (monI n == monI v1)
      · rw [hm] at HMM
        have hne : monI n ≠ monI v1 := by simpa using hm
        clear hm
        go_wp2_with fail
        refine (HMM.out _).mono ?_
        rintro e w2 ⟨rfl, hb2⟩
        have HB2 := hide (HB1.out.trans (hb2.mono HB1.out.size))
        have HBX2 := hide (HBX.out.later hb2)
        clear hb2
        have BX := HBX2.out
        have b0 := BX.ce 0 (by omega)
        have b1 := BX.ce 1 (by omega)
        have b2 := BX.ce 2 (by omega)
        have b3 := BX.ce 3 (by omega)
        have b4 := BX.ce 4 (by omega)
        have b5 := BX.ce 5 (by omega)
        have b6 := BX.ce 6 (by omega)
        have b7 := BX.cs
        clear BX
        go_wp2_with fail
        refine (refNearD_any we ad cap l n _ (hide (HR.out.later HB2.out)) hl n1 n2).mono ?_
        rintro e w3 ⟨⟨v2, rfl, hnr⟩, hb3⟩
        have HBZ := hide (HB2.out.trans (hb3.mono HB2.out.size))
        have HA2 := hide (NearD.add n1 n2 hnr)
        clear hnr hb3
        rcases HA2.out with ⟨hg2, _⟩ | ⟨_, ⟨rfl, hr2⟩ | ⟨hv2, hr2⟩⟩
        · rw [hg] at hg2; cases hg2
        · skip
          go_wp2_with fail
          go_ret2
          exact ⟨⟨0, 8, rfl, .inr (.inr ⟨HDY.out, by omega, by omega, .inr ⟨hg, v1, 0, hr, .inl ⟨by omega, .inr hne, hr2⟩⟩⟩)⟩, HBZ.out⟩
        · have hn1 : (v2 == 0) = false := by simp; omega
          go_wp2_with fail
          go_ret2
          exact ⟨⟨v2, 0, rfl, .inr (.inr ⟨HDY.out, by omega, by omega, .inr ⟨hg, v1, 0, hr, .inl ⟨by omega, .inr hne, hr2⟩⟩⟩)⟩, HBZ.out⟩
      · rw [hm] at HMM
        have heq : monI n = monI v1 := by simpa using hm
        have HEQ := hide heq
        clear hm heq
        go_wp2_with fail
        refine (HMM.out _).mono ?_
        rintro e w2 ⟨rfl, hb2⟩
        have HBZ := hide (HB1.out.trans (hb2.mono HB1.out.size))
        clear hb2
        go_wp2_with fail
        go_ret2
        exact ⟨⟨v1, 0, rfl, .inr (.inr ⟨HDY.out, by omega, by omega, .inr ⟨hg, v1, 0, hr, .inr ⟨fun h => h.2.elim (fun q => q rfl) (fun q => q HEQ.out), rfl, rfl⟩⟩⟩)⟩, HBZ.out⟩
  · skip
    go_enter Tryz.func59, Tryz.ntmps59
    go_wp2_with fail
    refine (HI.out _).mono ?_
    rintro e w' ⟨rfl, hw'⟩
    have hw' := hw'.symm
    subst hw'
    go_wp2_with fail
    refine (refNearD_any we ad cap l n _ (hide (HR.out.later HB0.out)) hl n1 n2).mono ?_
    rintro e w1 ⟨⟨v1, rfl, hnr⟩, hb1⟩
    have HB1 := hide (HB0.out.trans (hb1.mono HB0.out.size))
    have HBX := hide (HBX0.out.later hb1)
    clear hb1
    have HA1 := hide (NearD.add n1 n2 hnr)
    clear hnr
    have HBZ := HB1
    rcases HA1.out with ⟨hg, rfl⟩ | ⟨hg, ⟨rfl, hr⟩ | ⟨hv, hr⟩⟩
    · have hn0 : (v1 == 0) = false := by simp; omega
      go_wp2_with fail
      go_ret2
      exact ⟨⟨v1, 0, rfl, .inr (.inr ⟨HDY.out, by omega, by omega, .inl ⟨hg, rfl, rfl⟩⟩)⟩, HBZ.out⟩
    · skip
      go_wp2_with fail
      go_ret2
      exact ⟨⟨0, 8, rfl, .inr (.inr ⟨HDY.out, by omega, by omega, .inr ⟨hg, 0, 8, hr, .inr ⟨fun h => by have := h.1; omega, rfl, rfl⟩⟩⟩)⟩, HBZ.out⟩
    · have hn0 : (v1 == 0) = false := by simp; omega
      go_wp2_with fail
      go_ret2
      exact ⟨⟨v1, 0, rfl, .inr (.inr ⟨HDY.out, by omega, by omega, .inr ⟨hg, v1, 0, hr, .inr ⟨fun h => by have := h.1; omega, rfl, rfl⟩⟩⟩)⟩, HBZ.out⟩
  · skip
    go_enter Tryz.func59, Tryz.ntmps59
    go_wp2_with fail
    refine (HI.out _).mono ?_
    rintro e w' ⟨rfl, hw'⟩
    have hw' := hw'.symm
    subst hw'
    go_wp2_with fail
    refine (refNearD_any we ad cap l n _ (hide (HR.out.later HB0.out)) hl n1 n2).mono ?_
    rintro e w1 ⟨⟨v1, rfl, hnr⟩, hb1⟩
    have HB1 := hide (HB0.out.trans (hb1.mono HB0.out.size))
    have HBX := hide (HBX0.out.later hb1)
    clear hb1
    have HA1 := hide (NearD.add n1 n2 hnr)
    clear hnr
    rcases HA1.out with ⟨hg, rfl⟩ | ⟨hg, ⟨rfl, hr⟩ | ⟨hv, hr⟩⟩
    · have hn0 : (v1 == 0) = false := by simp; omega
      have HMM := hide (fun W : World => refMonth_any v1 v1 W n1 n2 n1 n2)
      rw [show (monI v1 == monI v1) = true by simp] at HMM
      go_wp2_with fail
      refine (HMM.out _).mono ?_
      rintro e w2 ⟨rfl, hb2⟩
      have HBZ := hide (HB1.out.trans (hb2.mono HB1.out.size))
      clear hb2
      go_wp2_with fail
      go_ret2
      exact ⟨⟨v1, 0, rfl, .inr (.inr ⟨HDY.out, by omega, by omega, .inl ⟨hg, rfl, rfl⟩⟩)⟩, HBZ.out⟩
    · have HB2 := HB1
      have HBX2 := HBX
      have BX := HBX2.out
      have b0 := BX.ce 0 (by omega)
      have b1 := BX.ce 1 (by omega)
      have b2 := BX.ce 2 (by omega)
      have b3 := BX.ce 3 (by omega)
      have b4 := BX.ce 4 (by omega)
      have b5 := BX.ce 5 (by omega)
      have b6 := BX.ce 6 (by omega)
      have b7 := BX.cs
      clear BX
      go_wp2_with fail
      refine (refNearU_any we ad cap l n _ (hide (HR.out.later HB2.out)) hl n1 n2).mono ?_
      rintro e w3 ⟨⟨v2, rfl, hnr⟩, hb3⟩
      have HBZ := hide (HB2.out.trans (hb3.mono HB2.out.size))
      have HA2 := hide (NearU.add n1 n2 hnr)
      clear hnr hb3
      rcases HA2.out with ⟨hg2, _⟩ | ⟨_, ⟨rfl, hr2⟩ | ⟨hv2, hr2⟩⟩
      · rw [hg] at hg2; cases hg2
      · skip
        go_wp2_with fail
        go_ret2
        exact ⟨⟨0, 8, rfl, .inr (.inr ⟨HDY.out, by omega, by omega, .inr ⟨hg, 0, 8, hr, .inl ⟨by omega, .inl (by omega), hr2⟩⟩⟩)⟩, HBZ.out⟩
      · have hn1 : (v2 == 0) = false := by simp; omega
        go_wp2_with fail
        go_ret2
        exact ⟨⟨v2, 0, rfl, .inr (.inr ⟨HDY.out, by omega, by omega, .inr ⟨hg, 0, 8, hr, .inl ⟨by omega, .inl (by omega), hr2⟩⟩⟩)⟩, HBZ.out⟩
    · have hn0 : (v1 == 0) = false := by simp; omega
      obtain ⟨d1, d2⟩ := AddR.day n1 n2 hr
      have HMM := hide (fun W : World => refMonth_any n v1 W n1 n2 d1 d2)
      cases hm : (monI n == monI v1)
      · rw [hm] at HMM
        have hne : monI n ≠ monI v1 := by simpa using hm
        clear hm
        go_wp2_with fail
        refine (HMM.out _).mono ?_
        rintro e w2 ⟨rfl, hb2⟩
        have HB2 := hide (HB1.out.trans (hb2.mono HB1.out.size))
        have HBX2 := hide (HBX.out.later hb2)
        clear hb2
        have BX := HBX2.out
        have b0 := BX.ce 0 (by omega)
        have b1 := BX.ce 1 (by omega)
        have b2 := BX.ce 2 (by omega)
        have b3 := BX.ce 3 (by omega)
        have b4 := BX.ce 4 (by omega)
        have b5 := BX.ce 5 (by omega)
        have b6 := BX.ce 6 (by omega)
        have b7 := BX.cs
        clear BX
        go_wp2_with fail
        refine (refNearU_any we ad cap l n _ (hide (HR.out.later HB2.out)) hl n1 n2).mono ?_
        rintro e w3 ⟨⟨v2, rfl, hnr⟩, hb3⟩
        have HBZ := hide (HB2.out.trans (hb3.mono HB2.out.size))
        have HA2 := hide (NearU.add n1 n2 hnr)
        clear hnr hb3
        rcases HA2.out with ⟨hg2, _⟩ | ⟨_, ⟨rfl, hr2⟩ | ⟨hv2, hr2⟩⟩
        · rw [hg] at hg2; cases hg2
        · skip
          go_wp2_with fail
          go_ret2
          exact ⟨⟨0, 8, rfl, .inr (.inr ⟨HDY.out, by omega, by omega, .inr ⟨hg, v1, 0, hr, .inl ⟨by omega, .inr hne, hr2⟩⟩⟩)⟩, HBZ.out⟩
        · have hn1 : (v2 == 0) = false := by simp; omega
          go_wp2_with fail
          go_ret2
          exact ⟨⟨v2, 0, rfl, .inr (.inr ⟨HDY.out, by omega, by omega, .inr ⟨hg, v1, 0, hr, .inl ⟨by omega, .inr hne, hr2⟩⟩⟩)⟩, HBZ.out⟩
      · rw [hm] at HMM
        have heq : monI n = monI v1 := by simpa using hm
        have HEQ := hide heq
        clear hm heq
        go_wp2_with fail
        refine (HMM.out _).mono ?_
        rintro e w2 ⟨rfl, hb2⟩
        have HBZ := hide (HB1.out.trans (hb2.mono HB1.out.size))
        clear hb2
        go_wp2_with fail
        go_ret2
        exact ⟨⟨v1, 0, rfl, .inr (.inr ⟨HDY.out, by omega, by omega, .inr ⟨hg, v1, 0, hr, .inr ⟨fun h => h.2.elim (fun q => q rfl) (fun q => q HEQ.out), rfl, rfl⟩⟩⟩)⟩, HBZ.out⟩
end Go.Proofs.YtdfeehimnfogmaaGreatDoor
