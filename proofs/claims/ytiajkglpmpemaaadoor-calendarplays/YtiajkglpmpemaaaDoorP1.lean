/-
  My own text: the law on two calendars asked in turns.
-/
import Derived.Test.YtiajkglpmpemaaaDoorH1
import Derived.Test.YtiajkglpmpemaaaDoorT1
namespace Go.Proofs.YtiajkglpmpemaaaDoor
open Go.RowKit

set_option maxRecDepth 100000 in
set_option maxHeartbeats 4000000 in
theorem plays_law (we we' : Nat → Bool) (a a' : Option Addr) (cap cap' : Nat) (l l' : List Int) (q : Option Addr) (n qc : Nat) (w : World) (hL : Lies w) (HV : Hid (RI w .i64 (.slice a l.length cap) l)) (HV' : Hid (RI w .i64 (.slice a' l'.length cap') l')) (hl : l.length ≤ 17592186043904) (hl' : l'.length ≤ 17592186043904) (hb : ∀ x ∈ l, -9223372036854775808 ≤ x ∧ x ≤ 9223372036854775807) (hb' : ∀ x ∈ l', -9223372036854775808 ≤ x ∧ x ≤ 9223372036854775807) (hn : n ≤ 9223372036854775807) (HA : Hid (RA w q n)) :
    Calls Tryd.prog 5 #[.agg #[.bool (we 0), .bool (we 1), .bool (we 2), .bool (we 3), .bool (we 4), .bool (we 5), .bool (we 6), .slice a l.length cap], .agg #[.bool (we' 0), .bool (we' 1), .bool (we' 2), .bool (we' 3), .bool (we' 4), .bool (we' 5), .bool (we' 6), .slice a' l'.length cap'], .slice q n qc] w fun e w' => e = .returned (.bool true) ∧ Below w.heap.size w w' := by
  have HL := hide hL
  clear hL
  have H1 := hide (fun (W : World) (h : RI W .i64 (.slice a l.length cap) l) => held_any we a cap l W (hide h) hl hb)
  have H2 := hide (fun (W : World) (h : RI W .i64 (.slice a' l'.length cap') l') => held_any we' a' cap' l' W (hide h) hl' hb')
  have HB0 : Hid (Below w.heap.size w ((w.alloc (.cells #[.bool (we 0), .bool (we 1), .bool (we 2), .bool (we 3), .bool (we 4), .bool (we 5), .bool (we 6), .slice a l.length cap] 52)).alloc (.cells #[.bool (we' 0), .bool (we' 1), .bool (we' 2), .bool (we' 3), .bool (we' 4), .bool (we' 5), .bool (we' 6), .slice a' l'.length cap'] 52))) := hide (((Below.refl _ _).alloc (Nat.le_refl _) _).alloc (by simp) _)
  have HD0 : Hid (Blk ((w.alloc (.cells #[.bool (we 0), .bool (we 1), .bool (we 2), .bool (we 3), .bool (we 4), .bool (we 5), .bool (we 6), .slice a l.length cap] 52)).alloc (.cells #[.bool (we' 0), .bool (we' 1), .bool (we' 2), .bool (we' 3), .bool (we' 4), .bool (we' 5), .bool (we' 6), .slice a' l'.length cap'] 52)) (w.heap.size + 1) #[.bool (we' 0), .bool (we' 1), .bool (we' 2), .bool (we' 3), .bool (we' 4), .bool (we' 5), .bool (we' 6), .slice a' l'.length cap'] 52) := by
    have h := Blk.new (w.alloc (.cells #[.bool (we 0), .bool (we 1), .bool (we 2), .bool (we 3), .bool (we 4), .bool (we 5), .bool (we 6), .slice a l.length cap] 52)) #[.bool (we' 0), .bool (we' 1), .bool (we' 2), .bool (we' 3), .bool (we' 4), .bool (we' 5), .bool (we' 6), .slice a' l'.length cap'] 52
    simp only [World.size_alloc] at h
    exact hide h
  go_enter Tryd.func5, Tryd.ntmps5
  go_wp2_with fail
  refine (H1.out _ (HV.out.later HB0.out)).mono ?_
  rintro e w1 ⟨⟨p, b, rfl, hcal⟩, hb1⟩
  have hb2 : Below w1.heap.size w1 (w1.alloc (.cells #[.bool (we 0), .bool (we 1), .bool (we 2), .bool (we 3), .bool (we 4), .bool (we 5), .bool (we 6), .slice a l.length cap] 55)) := (Below.refl _ _).alloc (Nat.le_refl _) _
  have HB2 := hide ((HB0.out.trans (hb1.mono HB0.out.size)).trans (hb2.mono (Nat.le_trans HB0.out.size hb1.size)))
  have HC2 := hide (hcal.later hb2)
  have HX2 := hide (Blk.new w1 #[.bool (we 0), .bool (we 1), .bool (we 2), .bool (we 3), .bool (we 4), .bool (we 5), .bool (we 6), .slice a l.length cap] 55)
  have HD2 := hide ((HD0.out.later hb1).later hb2)
  have k0 : (w1.alloc (.cells #[.bool (we 0), .bool (we 1), .bool (we 2), .bool (we 3), .bool (we 4), .bool (we 5), .bool (we 6), .slice a l.length cap] 55)).cell? ⟨w.heap.size + 1, 0, none⟩ = some (.bool (we' 0)) := HD2.out.cell 0
  have k1 : (w1.alloc (.cells #[.bool (we 0), .bool (we 1), .bool (we 2), .bool (we 3), .bool (we 4), .bool (we 5), .bool (we 6), .slice a l.length cap] 55)).cell? ⟨w.heap.size + 1, 1, none⟩ = some (.bool (we' 1)) := HD2.out.cell 1
  have k2 : (w1.alloc (.cells #[.bool (we 0), .bool (we 1), .bool (we 2), .bool (we 3), .bool (we 4), .bool (we 5), .bool (we 6), .slice a l.length cap] 55)).cell? ⟨w.heap.size + 1, 2, none⟩ = some (.bool (we' 2)) := HD2.out.cell 2
  have k3 : (w1.alloc (.cells #[.bool (we 0), .bool (we 1), .bool (we 2), .bool (we 3), .bool (we 4), .bool (we 5), .bool (we 6), .slice a l.length cap] 55)).cell? ⟨w.heap.size + 1, 3, none⟩ = some (.bool (we' 3)) := HD2.out.cell 3
  have k4 : (w1.alloc (.cells #[.bool (we 0), .bool (we 1), .bool (we 2), .bool (we 3), .bool (we 4), .bool (we 5), .bool (we 6), .slice a l.length cap] 55)).cell? ⟨w.heap.size + 1, 4, none⟩ = some (.bool (we' 4)) := HD2.out.cell 4
  have k5 : (w1.alloc (.cells #[.bool (we 0), .bool (we 1), .bool (we 2), .bool (we 3), .bool (we 4), .bool (we 5), .bool (we 6), .slice a l.length cap] 55)).cell? ⟨w.heap.size + 1, 5, none⟩ = some (.bool (we' 5)) := HD2.out.cell 5
  have k6 : (w1.alloc (.cells #[.bool (we 0), .bool (we 1), .bool (we 2), .bool (we 3), .bool (we 4), .bool (we 5), .bool (we 6), .slice a l.length cap] 55)).cell? ⟨w.heap.size + 1, 6, none⟩ = some (.bool (we' 6)) := HD2.out.cell 6
  have k7 : (w1.alloc (.cells #[.bool (we 0), .bool (we 1), .bool (we 2), .bool (we 3), .bool (we 4), .bool (we 5), .bool (we 6), .slice a l.length cap] 55)).cell? ⟨w.heap.size + 1, 7, none⟩ = some (.slice a' l'.length cap') := HD2.out.cell 7
  have hs2 : w.heap.size + 1 < w1.heap.size := (HD0.out.later hb1).lt
  clear hcal hb1 hb2
  go_wp2_with fail
  refine (H2.out _ (HV'.out.later HB2.out)).mono ?_
  rintro e w3 ⟨⟨p', b', rfl, hcal'⟩, hb3⟩
  have hb4 : Below w3.heap.size w3 (w3.alloc (.cells #[.bool (we' 0), .bool (we' 1), .bool (we' 2), .bool (we' 3), .bool (we' 4), .bool (we' 5), .bool (we' 6), .slice a' l'.length cap'] 55)) := (Below.refl _ _).alloc (Nat.le_refl _) _
  have HB4 := hide ((HB2.out.trans (hb3.mono HB2.out.size)).trans (hb4.mono (Nat.le_trans HB2.out.size hb3.size)))
  have HC4 := hide ((HC2.out.later hb3).later hb4)
  have HC4' := hide (hcal'.later hb4)
  have HX4 := hide ((HX2.out.later hb3).later hb4)
  have HX4' := hide (Blk.new w3 #[.bool (we' 0), .bool (we' 1), .bool (we' 2), .bool (we' 3), .bool (we' 4), .bool (we' 5), .bool (we' 6), .slice a' l'.length cap'] 55)
  clear hcal' hb3 hb4 HB2 HC2 HX2 HD2 HD0 HB0 k0 k1 k2 k3 k4 k5 k6 k7
  have HS := hide (shown_any (w3.alloc (.cells #[.bool (we' 0), .bool (we' 1), .bool (we' 2), .bool (we' 3), .bool (we' 4), .bool (we' 5), .bool (we' 6), .slice a' l'.length cap'] 55)) (hide (HL.out.below HB4.out).m))
  go_wp2_with fail
  refine (HS.out).mono ?_
  rintro e w5 ⟨rfl, hb5⟩
  have HB5 := hide (HB4.out.trans (hb5.mono HB4.out.size))
  have HC5 := hide (HC4.out.later hb5)
  have HC5' := hide (HC4'.out.later hb5)
  have HX5 := hide (HX4.out.later hb5)
  have HX5' := hide (HX4'.out.later hb5)
  have HV5 := hide (HV.out.later HB5.out)
  have HV5' := hide (HV'.out.later HB5.out)
  clear hb5 HB4 HC4 HC4' HX4 HX4' HS H1 H2 HV HV'
  go_wp2_with fail
  go_loopw [13] (fun i wr => ∃ k : Nat, k ≤ n ∧ i = .int .i64 k ∧ Hid (Cal wr p b we (FL we l)) ∧ Hid (Cal wr p' b' we' (FL we' l')) ∧ Hid (Blk wr w1.heap.size #[.bool (we 0), .bool (we 1), .bool (we 2), .bool (we 3), .bool (we 4), .bool (we 5), .bool (we 6), .slice a l.length cap] 55) ∧ Hid (Blk wr w3.heap.size #[.bool (we' 0), .bool (we' 1), .bool (we' 2), .bool (we' 3), .bool (we' 4), .bool (we' 5), .bool (we' 6), .slice a' l'.length cap'] 55) ∧ Hid (RI wr .i64 (.slice a l.length cap) l) ∧ Hid (RI wr .i64 (.slice a' l'.length cap') l') ∧ Hid (Below w.heap.size w wr)) (fun i _ => n - (intOf i).toNat)
  case atStart => exact ⟨0, Nat.zero_le _, rfl, HC5, HC5', HX5, HX5', HV5, HV5', HB5⟩
  case round =>
    clear HC5 HC5' HX5 HX5' HV5 HV5' HB5
    obtain ⟨k, hk, rfl, HC, HC', HX, HX', HV, HV', HB⟩ := hrel
    by_cases hlt : k < n
    · rcases HA.out with h0 | ⟨bq, off, rfl, hbq, hall⟩
      · omega
      obtain ⟨o, kd, qx, qy, c0, c1, c2, c3, qy1, qy2⟩ := hall k hlt
      clear hall
      rw [← HB.out.cell (p := ⟨bq, off + 4 * k, none⟩) hbq] at c0
      rw [← HB.out.cell (p := ⟨bq, off + 4 * k + 1, none⟩) hbq] at c1
      rw [← HB.out.cell (p := ⟨bq, off + 4 * k + 2, none⟩) hbq] at c2
      rw [← HB.out.cell (p := ⟨bq, off + 4 * k + 3, none⟩) hbq] at c3
      rw [Nat.mul_comm] at c0 c1 c2 c3
      have x0 : wr.cell? ⟨w1.heap.size, 0, none⟩ = some (.bool (we 0)) := HX.out.cell 0
      have x1 : wr.cell? ⟨w1.heap.size, 1, none⟩ = some (.bool (we 1)) := HX.out.cell 1
      have x2 : wr.cell? ⟨w1.heap.size, 2, none⟩ = some (.bool (we 2)) := HX.out.cell 2
      have x3 : wr.cell? ⟨w1.heap.size, 3, none⟩ = some (.bool (we 3)) := HX.out.cell 3
      have x4 : wr.cell? ⟨w1.heap.size, 4, none⟩ = some (.bool (we 4)) := HX.out.cell 4
      have x5 : wr.cell? ⟨w1.heap.size, 5, none⟩ = some (.bool (we 5)) := HX.out.cell 5
      have x6 : wr.cell? ⟨w1.heap.size, 6, none⟩ = some (.bool (we 6)) := HX.out.cell 6
      have x7 : wr.cell? ⟨w1.heap.size, 7, none⟩ = some (.slice a l.length cap) := HX.out.cell 7
      have v0 : wr.cell? ⟨w3.heap.size, 0, none⟩ = some (.bool (we' 0)) := HX'.out.cell 0
      have v1 : wr.cell? ⟨w3.heap.size, 1, none⟩ = some (.bool (we' 1)) := HX'.out.cell 1
      have v2 : wr.cell? ⟨w3.heap.size, 2, none⟩ = some (.bool (we' 2)) := HX'.out.cell 2
      have v3 : wr.cell? ⟨w3.heap.size, 3, none⟩ = some (.bool (we' 3)) := HX'.out.cell 3
      have v4 : wr.cell? ⟨w3.heap.size, 4, none⟩ = some (.bool (we' 4)) := HX'.out.cell 4
      have v5 : wr.cell? ⟨w3.heap.size, 5, none⟩ = some (.bool (we' 5)) := HX'.out.cell 5
      have v6 : wr.cell? ⟨w3.heap.size, 6, none⟩ = some (.bool (we' 6)) := HX'.out.cell 6
      have v7 : wr.cell? ⟨w3.heap.size, 7, none⟩ = some (.slice a' l'.length cap') := HX'.out.cell 7
      have hx1 := HX.out.lt
      have hx2 := HX'.out.lt
      have hbq2 : bq < wr.heap.size := Nat.lt_of_lt_of_le hbq HB.out.size
      by_cases ho : o.tmod 2 = 0
      · have hob : (o.tmod 2 == 0) = true := by simpa using ho
        have hon : (o.tmod 2 != 0) = false := by simpa using ho
        have HQ := hide (asked_any p b we a cap l o kd qx qy (wr.alloc (.cells #[.int .i64 o, .int .i64 kd, .int .i64 qx, .int .i64 qy] 60)) (HL.out.below (HB.out.alloc HB.out.size _)) (hide (HC.out.later ((Below.refl _ _).alloc (Nat.le_refl _) _))) (hide (HV.out.later ((Below.refl _ _).alloc (Nat.le_refl _) _))) (by omega) qy1 qy2)
        go_wp2_with (first
          | (go_at_call 26; refine (HQ.out).mono ?_; rintro e w6 ⟨rfl, hb6⟩; have h67 := ((Below.refl wr.heap.size wr).alloc (Nat.le_refl _) (.cells #[.int .i64 o, .int .i64 kd, .int .i64 qx, .int .i64 qy] 60)).trans (hb6.mono (by simp)); have y0 := ((Four.new wr o kd qx qy 60).later hb6).c0))
        go_roundw
        case rel => exact ⟨k + 1, by omega, by go_num, hide (HC.out.later h67), hide (HC'.out.later h67), hide (HX.out.later h67), hide (HX'.out.later h67), hide (HV.out.later h67), hide (HV'.out.later h67), hide (HB.out.trans (h67.mono HB.out.size))⟩
        case measure => simp [intOf]; omega
      · have hob : (o.tmod 2 == 0) = false := by simpa using ho
        have hon : (o.tmod 2 != 0) = true := by simpa using ho
        have HQ := hide (asked_any p' b' we' a' cap' l' o kd qx qy (wr.alloc (.cells #[.int .i64 o, .int .i64 kd, .int .i64 qx, .int .i64 qy] 60)) (HL.out.below (HB.out.alloc HB.out.size _)) (hide (HC'.out.later ((Below.refl _ _).alloc (Nat.le_refl _) _))) (hide (HV'.out.later ((Below.refl _ _).alloc (Nat.le_refl _) _))) (by omega) qy1 qy2)
        go_wp2_with (first
          | (go_at_call 26; refine (HQ.out).mono ?_; rintro e w6 ⟨rfl, hb6⟩; have h67 := ((Below.refl wr.heap.size wr).alloc (Nat.le_refl _) (.cells #[.int .i64 o, .int .i64 kd, .int .i64 qx, .int .i64 qy] 60)).trans (hb6.mono (by simp)); have y0 := ((Four.new wr o kd qx qy 60).later hb6).c0))
        go_roundw
        case rel => exact ⟨k + 1, by omega, by go_num, hide (HC.out.later h67), hide (HC'.out.later h67), hide (HX.out.later h67), hide (HX'.out.later h67), hide (HV.out.later h67), hide (HV'.out.later h67), hide (HB.out.trans (h67.mono HB.out.size))⟩
        case measure => simp [intOf]; omega
    · have e : k = n := by omega
      subst e
      go_wp2_with fail
      go_ret
      exact ⟨rfl, HB.out⟩
end Go.Proofs.YtiajkglpmpemaaaDoor
