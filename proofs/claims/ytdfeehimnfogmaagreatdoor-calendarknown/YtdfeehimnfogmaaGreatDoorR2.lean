/-
  My own text: the document's calendar: counting and stepping.
-/
import Derived.Test.YtdfeehimnfogmaaGreatDoorR1
namespace Go.Proofs.YtdfeehimnfogmaaGreatDoor
open Go.RowKit

theorem cn_next (g : Int → Bool) {a m : Int} (h : a ≤ m) : cn g a (m + 1) = cn g a m + (if g m then 1 else 0) := by
  rw [cn_add g h (show m ≤ m + 1 by omega), cn_one]
theorem bus_out {we : Nat → Bool} {F : Int → Bool} {n : Int} (h : n < 1 ∨ 3652059 < n) : busB we F n = false := by unfold busB; rw [dayB_no h]; rfl
set_option maxRecDepth 100000 in
set_option maxHeartbeats 2000000 in
theorem refCount_any (we : Nat → Bool) (ad : Option Addr) (cap : Nat) (l : List Int) (x y : Int) (w : World) (HR : Hid (RI w .i64 (.slice ad l.length cap) l)) (hl : l.length ≤ 17592186044416) :
    Calls Tryz.prog 60 #[.agg #[.bool (we 0), .bool (we 1), .bool (we 2), .bool (we 3), .bool (we 4), .bool (we 5), .bool (we 6), .slice ad l.length cap], .int .i64 x, .int .i64 y] w fun e w' => e = .returned (.tuple #[.int .i64 (coV (bizB we (FL we l)) x y), .int .i64 (coE x y)]) ∧ Below w.heap.size w w' := by
  have HA := hide (fun W : World => refIs_any x W)
  have HB := hide (fun W : World => refIs_any y W)
  have HB0 : Hid (Below w.heap.size w (w.alloc (.cells #[.bool (we 0), .bool (we 1), .bool (we 2), .bool (we 3), .bool (we 4), .bool (we 5), .bool (we 6), .slice ad l.length cap] 51))) := hide ((Below.refl _ _).alloc (Nat.le_refl _) _)
  have HBX0 := hide (Box.new w we ad l.length cap 51)
  cases ha : dayB x
  · rw [(co_date (b := y) _ (.inl ha)).1, (co_date (b := y) (bizB we (FL we l)) (.inl ha)).2]
    rw [ha] at HA
    clear ha
    go_enter Tryz.func60, Tryz.ntmps60
    go_wp2_with fail
    refine (HA.out _).mono ?_
    rintro e w' ⟨rfl, hw'⟩
    have hw' := hw'.symm
    subst hw'
    go_wp2_with fail
    go_ret2
    exact ⟨rfl, HB0.out⟩
  cases hb : dayB y
  · rw [(co_date (a := x) _ (.inr hb)).1, (co_date (a := x) (bizB we (FL we l)) (.inr hb)).2]
    rw [ha] at HA
    rw [hb] at HB
    clear ha hb
    go_enter Tryz.func60, Tryz.ntmps60
    go_wp2_with fail
    refine (HA.out _).mono ?_
    rintro e w' ⟨rfl, hw'⟩
    have hw' := hw'.symm
    subst hw'
    go_wp2_with fail
    refine (HB.out _).mono ?_
    rintro e w' ⟨rfl, hw'⟩
    have hw' := hw'.symm
    subst hw'
    go_wp2_with fail
    go_ret2
    exact ⟨rfl, HB0.out⟩
  by_cases hc : y < x
  · rw [(co_arg (bizB we (FL we l)) ha hb hc).1, (co_arg (bizB we (FL we l)) ha hb hc).2]
    rw [ha] at HA
    rw [hb] at HB
    clear ha hb
    go_enter Tryz.func60, Tryz.ntmps60
    go_wp2_with fail
    refine (HA.out _).mono ?_
    rintro e w' ⟨rfl, hw'⟩
    have hw' := hw'.symm
    subst hw'
    go_wp2_with fail
    refine (HB.out _).mono ?_
    rintro e w' ⟨rfl, hw'⟩
    have hw' := hw'.symm
    subst hw'
    go_wp2_with fail
    go_ret2
    exact ⟨rfl, HB0.out⟩
  rw [(co_ok (bizB we (FL we l)) ha hb hc).1, (co_ok (bizB we (FL we l)) ha hb hc).2]
  obtain ⟨x1, x2⟩ := (dayB_iff x).1 ha
  obtain ⟨y1, y2⟩ := (dayB_iff y).1 hb
  rw [ha] at HA
  rw [hb] at HB
  clear ha hb
  go_enter Tryz.func60, Tryz.ntmps60
  go_wp2_with fail
  refine (HA.out _).mono ?_
  rintro e w' ⟨rfl, hw'⟩
  have hw' := hw'.symm
  subst hw'
  go_wp2_with fail
  refine (HB.out _).mono ?_
  rintro e w' ⟨rfl, hw'⟩
  have hw' := hw'.symm
  subst hw'
  go_wp2_with fail
  clear HB
  go_loopw [8, 9] (fun c m wr => ∃ (m' x' : Int), c = .int .i64 x' ∧ m = .int .i64 m' ∧ x ≤ m' ∧ m' ≤ y ∧ Hid (x' = cn (bizB we (FL we l)) x m') ∧ 0 ≤ x' ∧ x' ≤ 4000000 ∧ Hid (Below w.heap.size w wr) ∧ Hid (Box wr w.heap.size we ad l.length cap)) (fun _ m _ => (y - intOf m).toNat)
  case atStart => exact ⟨x, 0, rfl, rfl, by omega, by omega, (show _ = _ by rw [cn_self]), by omega, by omega, HB0, HBX0⟩
  case round =>
    clear HB0 HBX0
    obtain ⟨m, x', rfl, rfl, m1, m2, HX, z0, z1, HB, HBX⟩ := hrel
    by_cases hlt : m < y
    · have BX := HBX.out
      have b0 := BX.ce 0 (by omega)
      have b1 := BX.ce 1 (by omega)
      have b2 := BX.ce 2 (by omega)
      have b3 := BX.ce 3 (by omega)
      have b4 := BX.ce 4 (by omega)
      have b5 := BX.ce 5 (by omega)
      have b6 := BX.ce 6 (by omega)
      have b7 := BX.cs
      have HBM := hide (fun (W : World) (h : RI W .i64 (.slice ad l.length cap) l) => refBusiness_any we ad cap l m W (hide h) hl)
      have HST := hide (cn_next (bizB we (FL we l)) m1)
      have hxb : x' ≤ 3652059 := by have h1 := HX.out; have h2 := cn_b (bizB we (FL we l)) m1; omega
      clear BX
      cases hg : busB we (FL we l) m
      · have hgb : bizB we (FL we l) m = false := by rw [← bus_biz2 (dayB_yes (by omega) (by omega))]; exact hg
        rw [hg] at HBM
        go_wp2_with (go_at_call 57; refine (HBM.out _ (HR.out.later HB.out)).mono ?_; rintro e w2 ⟨rfl, hb2⟩)
        go_roundw
        case rel => exact ⟨m + 1, x', by go_num, by go_num, by omega, by omega, (show _ = _ by rw [HST.out, hgb, HX.out]; simp), by omega, by omega, hide (HB.out.trans (hb2.mono HB.out.size)), hide (HBX.out.later hb2)⟩
        case measure => simp [intOf]; omega
      · have hgb : bizB we (FL we l) m = true := by rw [← bus_biz2 (dayB_yes (by omega) (by omega))]; exact hg
        rw [hg] at HBM
        go_wp2_with (go_at_call 57; refine (HBM.out _ (HR.out.later HB.out)).mono ?_; rintro e w2 ⟨rfl, hb2⟩)
        go_roundw
        case rel => exact ⟨m + 1, x' + 1, by go_num, by go_num, by omega, by omega, (show _ = _ by rw [HST.out, hgb, HX.out]; simp), by omega, by omega, hide (HB.out.trans (hb2.mono HB.out.size)), hide (HBX.out.later hb2)⟩
        case measure => simp [intOf]; omega
    · have e : m = y := by omega
      subst e
      go_wp2
      go_ret2
      exact ⟨ret_ii HX.out rfl, HB.out⟩
end Go.Proofs.YtdfeehimnfogmaaGreatDoor
