/-
  My own text: the law on what stands for a day, and on months.
-/
import Derived.Test.YtiajkglpmpemaabDoorS3
namespace Go.Proofs.YtiajkglpmpemaabDoor
open Go.RowKit

set_option maxRecDepth 100000 in
set_option maxHeartbeats 8000000 in
theorem stands_law (we : Nat → Bool) (v : Value) (l : List Int) (n k : Int) (w : World) (hM : MDays w) (hv : RI w .i64 v l) (hl : l.length ≤ 17592186044416) (hb : ∀ x ∈ l, -9223372036854775808 ≤ x ∧ x ≤ 9223372036854775807) (k1 : -9223372036854775808 ≤ k) (k2 : k ≤ 9223372036854775807) :
    Calls Tryd.prog 4 #[.agg #[.bool (we 0), .bool (we 1), .bool (we 2), .bool (we 3), .bool (we 4), .bool (we 5), .bool (we 6), v], .int .i64 n, .int .i64 k] w fun e w' => e = .returned (.bool true) ∧ Below w.heap.size w w' := by
  have HM := hide hM
  clear hM
  have hg1 := Tryd.nilNeqG
  have hn1 := Tryd.nilNeq
  have hg2 := Tryd.nilEqlG
  have hn2 := Tryd.nilEql
  have HSH := hide (fun (W : World) (h : MDays W) => shown_any W (hide h))
  have HNW := hide (fun (W : World) (h : RI W .i64 v l) => New_any we v l W h hl hb)
  have HF1 := hide (fun W : World => first_any n 3652059 W (by omega) (by omega))
  have hN : 1 ≤ 1 + n % 3652059 ∧ 1 + n % 3652059 ≤ 3652059 := by omega
  generalize 1 + n % 3652059 = N at *
  obtain ⟨N1, N2⟩ := hN
  have HRI := hide hv
  obtain ⟨ad, cap, rfl, _⟩ := hv
  have HB0 : Hid (Below w.heap.size w (w.alloc (.cells #[.bool (we 0), .bool (we 1), .bool (we 2), .bool (we 3), .bool (we 4), .bool (we 5), .bool (we 6), .slice ad l.length cap] 25))) := hide ((Below.refl _ _).alloc (Nat.le_refl _) _)
  have HS := hide (free_week we l)
  obtain ⟨F, HFE⟩ : ∃ F, Hid (FL we l = F) := ⟨_, hide rfl⟩
  rw [HFE.out] at HNW HS
  clear hl hb
  go_enter Tryd.func4, Tryd.ntmps4
  go_wp2_with fail
  refine (HNW.out _ (HRI.out.later HB0.out)).mono ?_
  rintro e w1 ⟨rfl, hcal, hb1⟩
  have HB1 := hide (HB0.out.trans (hb1.mono HB0.out.size))
  have HCA := hide hcal
  clear hb1 HB0 hcal
  generalize (w.alloc (.cells #[.bool (we 0), .bool (we 1), .bool (we 2), .bool (we 3), .bool (we 4), .bool (we 5), .bool (we 6), .slice ad l.length cap] 25)).heap.size + 2 = p at *
  generalize (w.alloc (.cells #[.bool (we 0), .bool (we 1), .bool (we 2), .bool (we 3), .bool (we 4), .bool (we 5), .bool (we 6), .slice ad l.length cap] 25)).heap.size + 1 = b at *
  go_wp2_with fail
  refine (HSH.out _ (HM.out.below HB1.out)).mono ?_
  rintro e w2 ⟨rfl, hb2⟩
  have HB2 := hide (HB1.out.trans (hb2.mono HB1.out.size))
  have HC2 := hide (HCA.out.later hb2)
  clear hb2 HB1 HCA
  go_wp2_with fail
  refine (HF1.out _).mono ?_
  rintro e w' ⟨rfl, hw'⟩
  have hw' := hw'.symm
  subst hw'
  have HBN := hide (fun (W : World) (h : Cal W p b we F) => Business_any p b we F N W (hide h))
  rw [bus_biz (dayB_yes N1 N2)] at HBN
  have HHB := hide (fun (W : World) (h : MDays W) (h2 : Cal W p b we F) => hasBusiness_any p b we F N W (hide h) (hide h2) N1 N2)
  go_wp2_with fail
  go_loopw [8] (fun s wr => ∃ c : Nat, c ≤ 4 ∧ s = .int .i64 c ∧ Hid (Cal wr p b we F) ∧ Hid (Below w.heap.size w wr)) (fun s _ => (4 - intOf s).toNat)
  case atStart => exact ⟨0, by omega, rfl, HC2, HB2⟩
  case round =>
    clear HC2 HB2
    obtain ⟨c, hc, rfl, HC, HB⟩ := hrel
    rcases (show c = 0 ∨ c = 1 ∨ c = 2 ∨ c = 3 ∨ c = 4 by omega) with rfl | rfl | rfl | rfl | rfl
    · rw [show ((0 : Nat) : Int) = 0 from rfl]
      go_wp2_with fail
      refine (Adjust_any p b we F N 0 _ (hide (HM.out.below HB.out)) HC HS).mono ?_
      rintro e u1 ⟨⟨x, e1, rfl, hs⟩, hb1⟩
      have HU1 := hide (HB.out.trans (hb1.mono HB.out.size))
      have HC1 := hide (HC.out.later hb1)
      clear hb1
      cases hgn : bizB we F N
      · skip
        have he := AdjR.err N1 N2 (by omega) (by omega) hs
        rw [hgn] at HBN
        by_cases hz : e1 = 0
        · subst hz
          clear he
          have HADJ := hide hs
          obtain ⟨xd1, xd2, hgx⟩ := AdjR.biz N1 N2 (by omega) (by omega) hs
          have hfr := AdjR.free N1 N2 (by omega) (by omega) hgn hs
          rw [errV_zero]
          have HBX := hide (fun (W : World) (h : Cal W p b we F) => Business_any p b we F x W (hide h))
          rw [show busB we F x = true by rw [bus_biz (dayB_yes xd1 xd2), hgx]] at HBX
          have hxn : x ≠ N := fun e => by rw [e, hgn] at hgx; cases hgx
          obtain ⟨v1, e1, h1, ⟨q, _⟩ | ⟨_, rfl, rfl⟩⟩ := hfr
          · omega
          rw [show st 0 = 1 from rfl] at h1
          have hlt := (AddR.upS (by omega) h1).1
          have hnlt : ¬ x < N := by omega
          have HNO := hide (fun (i : Int) (a1 : N ≤ i) (a2 : i < x) => show bizB we F i = false by
            by_cases e : i = N
            · rw [e]; exact hgn
            · exact between_up h1 (by omega) a2)
          go_wp2_with fail
          refine (HBN.out _ HC1.out).mono ?_
          rintro e u2 ⟨rfl, hbu2⟩
          have HU2 := hide (HU1.out.trans (hbu2.mono HU1.out.size))
          have HC2 := hide (HC1.out.later hbu2)
          clear hbu2
          go_wp2_with fail
          refine (HBX.out _ HC2.out).mono ?_
          rintro e u3 ⟨rfl, hbu3⟩
          have HU3 := hide (HU2.out.trans (hbu3.mono HU2.out.size))
          have HC3 := hide (HC2.out.later hbu3)
          clear hbu3
          go_wp2_with fail
          go_loopw [11] (fun i wr => ∃ i' : Int, i = .int .i64 i' ∧ N ≤ i' ∧ i' ≤ x ∧ Hid (Cal wr p b we F) ∧ Hid (Below w.heap.size w wr)) (fun i _ => (intOf i - N).natAbs)
          case atStart => exact ⟨x, rfl, by omega, by omega, HC3, HU3⟩
          case round =>
            clear HC3 HU3
            obtain ⟨i', rfl, j1, j2, HCI, HUI⟩ := hrel
            by_cases hin : i' = N
            · subst hin
              go_wp2_with fail
              go_roundw
              case rel => exact ⟨1, by omega, by go_num, HCI, HUI⟩
              case measure => simp [intOf]
            · have hnb : (i' != N) = true := by simpa using hin
              have hdir : ¬ i' < N := by omega
              have HBI := hide (fun (W : World) (h : Cal W p b we F) => Business_any p b we F (i' - 1) W (hide h))
              rw [show busB we F (i' - 1) = false by rw [bus_biz (dayB_yes (by omega) (by omega))]; exact HNO.out (i' - 1) (by omega) (by omega)] at HBI
              go_wp2_with (go_at_call 9; refine (HBI.out _ HCI.out).mono ?_; rintro e u9 ⟨rfl, hb9⟩)
              go_roundw
              case rel => exact ⟨i' - 1, by go_num, by omega, by omega, hide (HCI.out.later hb9), hide (HUI.out.trans (hb9.mono HUI.out.size))⟩
              case measure => simp [intOf]; omega
        · obtain rfl : e1 = 8 := by omega
          rw [errV_pos (by omega)]
          go_wp2_with fail
          refine (HBN.out _ HC1.out).mono ?_
          rintro e u2 ⟨rfl, hbu2⟩
          have HU2 := hide (HU1.out.trans (hbu2.mono HU1.out.size))
          have HC2 := hide (HC1.out.later hbu2)
          clear hbu2
          go_wp2_with fail
          go_roundw
          case rel => exact ⟨1, by omega, by go_num, HC2, HU2⟩
          case measure => simp [intOf]
      · skip
        obtain ⟨rfl, rfl⟩ := AdjR.own N1 N2 (by omega) (by omega) hgn hs
        rw [errV_zero]
        have HADJ := hide hs
        have xd1 := N1
        have xd2 := N2
        rw [hgn] at HBN
        go_wp2_with fail
        refine (HBN.out _ HC1.out).mono ?_
        rintro e u2 ⟨rfl, hbu2⟩
        have HU2 := hide (HU1.out.trans (hbu2.mono HU1.out.size))
        have HC2 := hide (HC1.out.later hbu2)
        clear hbu2
        go_wp2_with fail
        refine (HBN.out _ HC2.out).mono ?_
        rintro e u3 ⟨rfl, hbu3⟩
        have HU3 := hide (HU2.out.trans (hbu3.mono HU2.out.size))
        have HC3 := hide (HC2.out.later hbu3)
        clear hbu3
        go_wp2_with fail
        go_loopw [11] (fun i wr => i = .int .i64 x ∧ Hid (Cal wr p b we F) ∧ Hid (Below w.heap.size w wr)) (fun _ _ => 0)
        case atStart => exact ⟨rfl, HC3, HU3⟩
        case round =>
          clear HC3 HU3
          obtain ⟨rfl, HCI, HUI⟩ := hrel
          go_wp2_with fail
          go_roundw
          case rel => exact ⟨1, by omega, by go_num, HCI, HUI⟩
          case measure => simp [intOf]
    · rw [show ((1 : Nat) : Int) = 1 from rfl]
      go_wp2_with fail
      refine (Adjust_any p b we F N 1 _ (hide (HM.out.below HB.out)) HC HS).mono ?_
      rintro e u1 ⟨⟨x, e1, rfl, hs⟩, hb1⟩
      have HU1 := hide (HB.out.trans (hb1.mono HB.out.size))
      have HC1 := hide (HC.out.later hb1)
      clear hb1
      cases hgn : bizB we F N
      · skip
        have he := AdjR.err N1 N2 (by omega) (by omega) hs
        rw [hgn] at HBN
        by_cases hz : e1 = 0
        · subst hz
          clear he
          have HADJ := hide hs
          obtain ⟨xd1, xd2, hgx⟩ := AdjR.biz N1 N2 (by omega) (by omega) hs
          have hfr := AdjR.free N1 N2 (by omega) (by omega) hgn hs
          rw [errV_zero]
          have HBX := hide (fun (W : World) (h : Cal W p b we F) => Business_any p b we F x W (hide h))
          rw [show busB we F x = true by rw [bus_biz (dayB_yes xd1 xd2), hgx]] at HBX
          have hxn : x ≠ N := fun e => by rw [e, hgn] at hgx; cases hgx
          clear hfr
          go_wp2_with fail
          refine (HBN.out _ HC1.out).mono ?_
          rintro e u2 ⟨rfl, hbu2⟩
          have HU2 := hide (HU1.out.trans (hbu2.mono HU1.out.size))
          have HC2 := hide (HC1.out.later hbu2)
          clear hbu2
          go_wp2_with fail
          refine (HBX.out _ HC2.out).mono ?_
          rintro e u3 ⟨rfl, hbu3⟩
          have HU3 := hide (HU2.out.trans (hbu3.mono HU2.out.size))
          have HC3 := hide (HC2.out.later hbu3)
          clear hbu3
          go_wp2_with fail
          refine (HHB.out _ (HM.out.below HU3.out) HC3.out).mono ?_
          rintro e u7 ⟨⟨v, rfl, hv⟩, hb7⟩
          have HU7 := hide (HU3.out.trans (hb7.mono HU3.out.size))
          have HC7 := hide (HC3.out.later hb7)
          clear hb7
          cases v
          · skip
            by_cases hlt : x < N
            · skip
              go_wp2_with fail
              go_loopw [11] (fun i wr => ∃ i' : Int, i = .int .i64 i' ∧ x ≤ i' ∧ i' ≤ N ∧ Hid (Cal wr p b we F) ∧ Hid (Below w.heap.size w wr)) (fun i _ => (intOf i - N).natAbs)
              case atStart => exact ⟨x, rfl, by omega, by omega, HC7, HU7⟩
              case round =>
                clear HC7 HU7
                obtain ⟨i', rfl, j1, j2, HCI, HUI⟩ := hrel
                by_cases hin : i' = N
                · subst hin
                  go_wp2_with fail
                  go_roundw
                  case rel => exact ⟨2, by omega, by go_num, HCI, HUI⟩
                  case measure => simp [intOf]
                · have hnb : (i' != N) = true := by simpa using hin
                  have hdir : i' < N := by omega
                  go_wp2_with fail
                  go_roundw
                  case rel => exact ⟨i' + 1, by go_num, by omega, by omega, HCI, HUI⟩
                  case measure => simp [intOf]; omega
            · have hgt : N < x := by omega
              go_wp2_with fail
              go_loopw [11] (fun i wr => ∃ i' : Int, i = .int .i64 i' ∧ N ≤ i' ∧ i' ≤ x ∧ Hid (Cal wr p b we F) ∧ Hid (Below w.heap.size w wr)) (fun i _ => (intOf i - N).natAbs)
              case atStart => exact ⟨x, rfl, by omega, by omega, HC7, HU7⟩
              case round =>
                clear HC7 HU7
                obtain ⟨i', rfl, j1, j2, HCI, HUI⟩ := hrel
                by_cases hin : i' = N
                · subst hin
                  go_wp2_with fail
                  go_roundw
                  case rel => exact ⟨2, by omega, by go_num, HCI, HUI⟩
                  case measure => simp [intOf]
                · have hnb : (i' != N) = true := by simpa using hin
                  have hdir : ¬ i' < N := by omega
                  go_wp2_with fail
                  go_roundw
                  case rel => exact ⟨i' - 1, by go_num, by omega, by omega, HCI, HUI⟩
                  case measure => simp [intOf]; omega
          · obtain ⟨i, i1, i2, i3, i4⟩ := hv rfl
            have HMX := hide (fun (W : World) (h : MDays W) => month_any x N W (hide h) xd1 xd2 N1 N2)
            rw [show (monI x == monI N) = true by first | exact beq_self_eq_true _ | (rw [beq_iff_eq]; exact AdjR.month N1 N2 (by omega) HADJ.out i1 i2 i3 i4)] at HMX
            clear hv i1 i2 i3 i4
            go_wp2_with fail
            refine (HMX.out _ (HM.out.below HU7.out)).mono ?_
            rintro e u8 ⟨rfl, hbu8⟩
            have HU8 := hide (HU7.out.trans (hbu8.mono HU7.out.size))
            have HC8 := hide (HC7.out.later hbu8)
            clear hbu8
            by_cases hlt : x < N
            · skip
              go_wp2_with fail
              go_loopw [11] (fun i wr => ∃ i' : Int, i = .int .i64 i' ∧ x ≤ i' ∧ i' ≤ N ∧ Hid (Cal wr p b we F) ∧ Hid (Below w.heap.size w wr)) (fun i _ => (intOf i - N).natAbs)
              case atStart => exact ⟨x, rfl, by omega, by omega, HC8, HU8⟩
              case round =>
                clear HC8 HU8
                obtain ⟨i', rfl, j1, j2, HCI, HUI⟩ := hrel
                by_cases hin : i' = N
                · subst hin
                  go_wp2_with fail
                  go_roundw
                  case rel => exact ⟨2, by omega, by go_num, HCI, HUI⟩
                  case measure => simp [intOf]
                · have hnb : (i' != N) = true := by simpa using hin
                  have hdir : i' < N := by omega
                  go_wp2_with fail
                  go_roundw
                  case rel => exact ⟨i' + 1, by go_num, by omega, by omega, HCI, HUI⟩
                  case measure => simp [intOf]; omega
            · have hgt : N < x := by omega
              go_wp2_with fail
              go_loopw [11] (fun i wr => ∃ i' : Int, i = .int .i64 i' ∧ N ≤ i' ∧ i' ≤ x ∧ Hid (Cal wr p b we F) ∧ Hid (Below w.heap.size w wr)) (fun i _ => (intOf i - N).natAbs)
              case atStart => exact ⟨x, rfl, by omega, by omega, HC8, HU8⟩
              case round =>
                clear HC8 HU8
                obtain ⟨i', rfl, j1, j2, HCI, HUI⟩ := hrel
                by_cases hin : i' = N
                · subst hin
                  go_wp2_with fail
                  go_roundw
                  case rel => exact ⟨2, by omega, by go_num, HCI, HUI⟩
                  case measure => simp [intOf]
                · have hnb : (i' != N) = true := by simpa using hin
                  have hdir : ¬ i' < N := by omega
                  go_wp2_with fail
                  go_roundw
                  case rel => exact ⟨i' - 1, by go_num, by omega, by omega, HCI, HUI⟩
                  case measure => simp [intOf]; omega
        · obtain rfl : e1 = 8 := by omega
          rw [errV_pos (by omega)]
          go_wp2_with fail
          refine (HBN.out _ HC1.out).mono ?_
          rintro e u2 ⟨rfl, hbu2⟩
          have HU2 := hide (HU1.out.trans (hbu2.mono HU1.out.size))
          have HC2 := hide (HC1.out.later hbu2)
          clear hbu2
          go_wp2_with fail
          go_roundw
          case rel => exact ⟨2, by omega, by go_num, HC2, HU2⟩
          case measure => simp [intOf]
      · skip
        obtain ⟨rfl, rfl⟩ := AdjR.own N1 N2 (by omega) (by omega) hgn hs
        rw [errV_zero]
        have HADJ := hide hs
        have xd1 := N1
        have xd2 := N2
        rw [hgn] at HBN
        go_wp2_with fail
        refine (HBN.out _ HC1.out).mono ?_
        rintro e u2 ⟨rfl, hbu2⟩
        have HU2 := hide (HU1.out.trans (hbu2.mono HU1.out.size))
        have HC2 := hide (HC1.out.later hbu2)
        clear hbu2
        go_wp2_with fail
        refine (HBN.out _ HC2.out).mono ?_
        rintro e u3 ⟨rfl, hbu3⟩
        have HU3 := hide (HU2.out.trans (hbu3.mono HU2.out.size))
        have HC3 := hide (HC2.out.later hbu3)
        clear hbu3
        go_wp2_with fail
        refine (HHB.out _ (HM.out.below HU3.out) HC3.out).mono ?_
        rintro e u7 ⟨⟨v, rfl, hv⟩, hb7⟩
        have HU7 := hide (HU3.out.trans (hb7.mono HU3.out.size))
        have HC7 := hide (HC3.out.later hb7)
        clear hb7
        cases v
        · skip
          go_wp2_with fail
          go_loopw [11] (fun i wr => i = .int .i64 x ∧ Hid (Cal wr p b we F) ∧ Hid (Below w.heap.size w wr)) (fun _ _ => 0)
          case atStart => exact ⟨rfl, HC7, HU7⟩
          case round =>
            clear HC7 HU7
            obtain ⟨rfl, HCI, HUI⟩ := hrel
            go_wp2_with fail
            go_roundw
            case rel => exact ⟨2, by omega, by go_num, HCI, HUI⟩
            case measure => simp [intOf]
        · obtain ⟨i, i1, i2, i3, i4⟩ := hv rfl
          have HMX := hide (fun (W : World) (h : MDays W) => month_any x x W (hide h) xd1 xd2 N1 N2)
          rw [show (monI x == monI x) = true by first | exact beq_self_eq_true _ | (rw [beq_iff_eq]; exact AdjR.month N1 N2 (by omega) HADJ.out i1 i2 i3 i4)] at HMX
          clear hv i1 i2 i3 i4
          go_wp2_with fail
          refine (HMX.out _ (HM.out.below HU7.out)).mono ?_
          rintro e u8 ⟨rfl, hbu8⟩
          have HU8 := hide (HU7.out.trans (hbu8.mono HU7.out.size))
          have HC8 := hide (HC7.out.later hbu8)
          clear hbu8
          go_wp2_with fail
          go_loopw [11] (fun i wr => i = .int .i64 x ∧ Hid (Cal wr p b we F) ∧ Hid (Below w.heap.size w wr)) (fun _ _ => 0)
          case atStart => exact ⟨rfl, HC8, HU8⟩
          case round =>
            clear HC8 HU8
            obtain ⟨rfl, HCI, HUI⟩ := hrel
            go_wp2_with fail
            go_roundw
            case rel => exact ⟨2, by omega, by go_num, HCI, HUI⟩
            case measure => simp [intOf]
    · rw [show ((2 : Nat) : Int) = 2 from rfl]
      go_wp2_with fail
      refine (Adjust_any p b we F N 2 _ (hide (HM.out.below HB.out)) HC HS).mono ?_
      rintro e u1 ⟨⟨x, e1, rfl, hs⟩, hb1⟩
      have HU1 := hide (HB.out.trans (hb1.mono HB.out.size))
      have HC1 := hide (HC.out.later hb1)
      clear hb1
      cases hgn : bizB we F N
      · skip
        have he := AdjR.err N1 N2 (by omega) (by omega) hs
        rw [hgn] at HBN
        by_cases hz : e1 = 0
        · subst hz
          clear he
          have HADJ := hide hs
          obtain ⟨xd1, xd2, hgx⟩ := AdjR.biz N1 N2 (by omega) (by omega) hs
          have hfr := AdjR.free N1 N2 (by omega) (by omega) hgn hs
          rw [errV_zero]
          have HBX := hide (fun (W : World) (h : Cal W p b we F) => Business_any p b we F x W (hide h))
          rw [show busB we F x = true by rw [bus_biz (dayB_yes xd1 xd2), hgx]] at HBX
          have hxn : x ≠ N := fun e => by rw [e, hgn] at hgx; cases hgx
          obtain ⟨v1, e1, h1, ⟨q, _⟩ | ⟨_, rfl, rfl⟩⟩ := hfr
          · omega
          rw [show st 2 = -1 from rfl] at h1
          have hlt := (AddR.dnS (by omega) h1).2.1
          have hnlt : ¬ N < x := by omega
          have HNO := hide (fun (i : Int) (a1 : x < i) (a2 : i ≤ N) => show bizB we F i = false by
            by_cases e : i = N
            · rw [e]; exact hgn
            · exact between_dn h1 a1 (by omega))
          go_wp2_with fail
          refine (HBN.out _ HC1.out).mono ?_
          rintro e u2 ⟨rfl, hbu2⟩
          have HU2 := hide (HU1.out.trans (hbu2.mono HU1.out.size))
          have HC2 := hide (HC1.out.later hbu2)
          clear hbu2
          go_wp2_with fail
          refine (HBX.out _ HC2.out).mono ?_
          rintro e u3 ⟨rfl, hbu3⟩
          have HU3 := hide (HU2.out.trans (hbu3.mono HU2.out.size))
          have HC3 := hide (HC2.out.later hbu3)
          clear hbu3
          go_wp2_with fail
          go_loopw [11] (fun i wr => ∃ i' : Int, i = .int .i64 i' ∧ x ≤ i' ∧ i' ≤ N ∧ Hid (Cal wr p b we F) ∧ Hid (Below w.heap.size w wr)) (fun i _ => (intOf i - N).natAbs)
          case atStart => exact ⟨x, rfl, by omega, by omega, HC3, HU3⟩
          case round =>
            clear HC3 HU3
            obtain ⟨i', rfl, j1, j2, HCI, HUI⟩ := hrel
            by_cases hin : i' = N
            · subst hin
              go_wp2_with fail
              go_roundw
              case rel => exact ⟨3, by omega, by go_num, HCI, HUI⟩
              case measure => simp [intOf]
            · have hnb : (i' != N) = true := by simpa using hin
              have hdir : i' < N := by omega
              have HBI := hide (fun (W : World) (h : Cal W p b we F) => Business_any p b we F (i' + 1) W (hide h))
              rw [show busB we F (i' + 1) = false by rw [bus_biz (dayB_yes (by omega) (by omega))]; exact HNO.out (i' + 1) (by omega) (by omega)] at HBI
              go_wp2_with (go_at_call 9; refine (HBI.out _ HCI.out).mono ?_; rintro e u9 ⟨rfl, hb9⟩)
              go_roundw
              case rel => exact ⟨i' + 1, by go_num, by omega, by omega, hide (HCI.out.later hb9), hide (HUI.out.trans (hb9.mono HUI.out.size))⟩
              case measure => simp [intOf]; omega
        · obtain rfl : e1 = 8 := by omega
          rw [errV_pos (by omega)]
          go_wp2_with fail
          refine (HBN.out _ HC1.out).mono ?_
          rintro e u2 ⟨rfl, hbu2⟩
          have HU2 := hide (HU1.out.trans (hbu2.mono HU1.out.size))
          have HC2 := hide (HC1.out.later hbu2)
          clear hbu2
          go_wp2_with fail
          go_roundw
          case rel => exact ⟨3, by omega, by go_num, HC2, HU2⟩
          case measure => simp [intOf]
      · skip
        obtain ⟨rfl, rfl⟩ := AdjR.own N1 N2 (by omega) (by omega) hgn hs
        rw [errV_zero]
        have HADJ := hide hs
        have xd1 := N1
        have xd2 := N2
        rw [hgn] at HBN
        go_wp2_with fail
        refine (HBN.out _ HC1.out).mono ?_
        rintro e u2 ⟨rfl, hbu2⟩
        have HU2 := hide (HU1.out.trans (hbu2.mono HU1.out.size))
        have HC2 := hide (HC1.out.later hbu2)
        clear hbu2
        go_wp2_with fail
        refine (HBN.out _ HC2.out).mono ?_
        rintro e u3 ⟨rfl, hbu3⟩
        have HU3 := hide (HU2.out.trans (hbu3.mono HU2.out.size))
        have HC3 := hide (HC2.out.later hbu3)
        clear hbu3
        go_wp2_with fail
        go_loopw [11] (fun i wr => i = .int .i64 x ∧ Hid (Cal wr p b we F) ∧ Hid (Below w.heap.size w wr)) (fun _ _ => 0)
        case atStart => exact ⟨rfl, HC3, HU3⟩
        case round =>
          clear HC3 HU3
          obtain ⟨rfl, HCI, HUI⟩ := hrel
          go_wp2_with fail
          go_roundw
          case rel => exact ⟨3, by omega, by go_num, HCI, HUI⟩
          case measure => simp [intOf]
    · rw [show ((3 : Nat) : Int) = 3 from rfl]
      go_wp2_with fail
      refine (Adjust_any p b we F N 3 _ (hide (HM.out.below HB.out)) HC HS).mono ?_
      rintro e u1 ⟨⟨x, e1, rfl, hs⟩, hb1⟩
      have HU1 := hide (HB.out.trans (hb1.mono HB.out.size))
      have HC1 := hide (HC.out.later hb1)
      clear hb1
      cases hgn : bizB we F N
      · skip
        have he := AdjR.err N1 N2 (by omega) (by omega) hs
        rw [hgn] at HBN
        by_cases hz : e1 = 0
        · subst hz
          clear he
          have HADJ := hide hs
          obtain ⟨xd1, xd2, hgx⟩ := AdjR.biz N1 N2 (by omega) (by omega) hs
          have hfr := AdjR.free N1 N2 (by omega) (by omega) hgn hs
          rw [errV_zero]
          have HBX := hide (fun (W : World) (h : Cal W p b we F) => Business_any p b we F x W (hide h))
          rw [show busB we F x = true by rw [bus_biz (dayB_yes xd1 xd2), hgx]] at HBX
          have hxn : x ≠ N := fun e => by rw [e, hgn] at hgx; cases hgx
          clear hfr
          go_wp2_with fail
          refine (HBN.out _ HC1.out).mono ?_
          rintro e u2 ⟨rfl, hbu2⟩
          have HU2 := hide (HU1.out.trans (hbu2.mono HU1.out.size))
          have HC2 := hide (HC1.out.later hbu2)
          clear hbu2
          go_wp2_with fail
          refine (HBX.out _ HC2.out).mono ?_
          rintro e u3 ⟨rfl, hbu3⟩
          have HU3 := hide (HU2.out.trans (hbu3.mono HU2.out.size))
          have HC3 := hide (HC2.out.later hbu3)
          clear hbu3
          go_wp2_with fail
          refine (HHB.out _ (HM.out.below HU3.out) HC3.out).mono ?_
          rintro e u7 ⟨⟨v, rfl, hv⟩, hb7⟩
          have HU7 := hide (HU3.out.trans (hb7.mono HU3.out.size))
          have HC7 := hide (HC3.out.later hb7)
          clear hb7
          cases v
          · skip
            by_cases hlt : x < N
            · skip
              go_wp2_with fail
              go_loopw [11] (fun i wr => ∃ i' : Int, i = .int .i64 i' ∧ x ≤ i' ∧ i' ≤ N ∧ Hid (Cal wr p b we F) ∧ Hid (Below w.heap.size w wr)) (fun i _ => (intOf i - N).natAbs)
              case atStart => exact ⟨x, rfl, by omega, by omega, HC7, HU7⟩
              case round =>
                clear HC7 HU7
                obtain ⟨i', rfl, j1, j2, HCI, HUI⟩ := hrel
                by_cases hin : i' = N
                · subst hin
                  go_wp2_with fail
                  go_roundw
                  case rel => exact ⟨4, by omega, by go_num, HCI, HUI⟩
                  case measure => simp [intOf]
                · have hnb : (i' != N) = true := by simpa using hin
                  have hdir : i' < N := by omega
                  go_wp2_with fail
                  go_roundw
                  case rel => exact ⟨i' + 1, by go_num, by omega, by omega, HCI, HUI⟩
                  case measure => simp [intOf]; omega
            · have hgt : N < x := by omega
              go_wp2_with fail
              go_loopw [11] (fun i wr => ∃ i' : Int, i = .int .i64 i' ∧ N ≤ i' ∧ i' ≤ x ∧ Hid (Cal wr p b we F) ∧ Hid (Below w.heap.size w wr)) (fun i _ => (intOf i - N).natAbs)
              case atStart => exact ⟨x, rfl, by omega, by omega, HC7, HU7⟩
              case round =>
                clear HC7 HU7
                obtain ⟨i', rfl, j1, j2, HCI, HUI⟩ := hrel
                by_cases hin : i' = N
                · subst hin
                  go_wp2_with fail
                  go_roundw
                  case rel => exact ⟨4, by omega, by go_num, HCI, HUI⟩
                  case measure => simp [intOf]
                · have hnb : (i' != N) = true := by simpa using hin
                  have hdir : ¬ i' < N := by omega
                  go_wp2_with fail
                  go_roundw
                  case rel => exact ⟨i' - 1, by go_num, by omega, by omega, HCI, HUI⟩
                  case measure => simp [intOf]; omega
          · obtain ⟨i, i1, i2, i3, i4⟩ := hv rfl
            have HMX := hide (fun (W : World) (h : MDays W) => month_any x N W (hide h) xd1 xd2 N1 N2)
            rw [show (monI x == monI N) = true by first | exact beq_self_eq_true _ | (rw [beq_iff_eq]; exact AdjR.month N1 N2 (by omega) HADJ.out i1 i2 i3 i4)] at HMX
            clear hv i1 i2 i3 i4
            go_wp2_with fail
            refine (HMX.out _ (HM.out.below HU7.out)).mono ?_
            rintro e u8 ⟨rfl, hbu8⟩
            have HU8 := hide (HU7.out.trans (hbu8.mono HU7.out.size))
            have HC8 := hide (HC7.out.later hbu8)
            clear hbu8
            by_cases hlt : x < N
            · skip
              go_wp2_with fail
              go_loopw [11] (fun i wr => ∃ i' : Int, i = .int .i64 i' ∧ x ≤ i' ∧ i' ≤ N ∧ Hid (Cal wr p b we F) ∧ Hid (Below w.heap.size w wr)) (fun i _ => (intOf i - N).natAbs)
              case atStart => exact ⟨x, rfl, by omega, by omega, HC8, HU8⟩
              case round =>
                clear HC8 HU8
                obtain ⟨i', rfl, j1, j2, HCI, HUI⟩ := hrel
                by_cases hin : i' = N
                · subst hin
                  go_wp2_with fail
                  go_roundw
                  case rel => exact ⟨4, by omega, by go_num, HCI, HUI⟩
                  case measure => simp [intOf]
                · have hnb : (i' != N) = true := by simpa using hin
                  have hdir : i' < N := by omega
                  go_wp2_with fail
                  go_roundw
                  case rel => exact ⟨i' + 1, by go_num, by omega, by omega, HCI, HUI⟩
                  case measure => simp [intOf]; omega
            · have hgt : N < x := by omega
              go_wp2_with fail
              go_loopw [11] (fun i wr => ∃ i' : Int, i = .int .i64 i' ∧ N ≤ i' ∧ i' ≤ x ∧ Hid (Cal wr p b we F) ∧ Hid (Below w.heap.size w wr)) (fun i _ => (intOf i - N).natAbs)
              case atStart => exact ⟨x, rfl, by omega, by omega, HC8, HU8⟩
              case round =>
                clear HC8 HU8
                obtain ⟨i', rfl, j1, j2, HCI, HUI⟩ := hrel
                by_cases hin : i' = N
                · subst hin
                  go_wp2_with fail
                  go_roundw
                  case rel => exact ⟨4, by omega, by go_num, HCI, HUI⟩
                  case measure => simp [intOf]
                · have hnb : (i' != N) = true := by simpa using hin
                  have hdir : ¬ i' < N := by omega
                  go_wp2_with fail
                  go_roundw
                  case rel => exact ⟨i' - 1, by go_num, by omega, by omega, HCI, HUI⟩
                  case measure => simp [intOf]; omega
        · obtain rfl : e1 = 8 := by omega
          rw [errV_pos (by omega)]
          go_wp2_with fail
          refine (HBN.out _ HC1.out).mono ?_
          rintro e u2 ⟨rfl, hbu2⟩
          have HU2 := hide (HU1.out.trans (hbu2.mono HU1.out.size))
          have HC2 := hide (HC1.out.later hbu2)
          clear hbu2
          go_wp2_with fail
          go_roundw
          case rel => exact ⟨4, by omega, by go_num, HC2, HU2⟩
          case measure => simp [intOf]
      · skip
        obtain ⟨rfl, rfl⟩ := AdjR.own N1 N2 (by omega) (by omega) hgn hs
        rw [errV_zero]
        have HADJ := hide hs
        have xd1 := N1
        have xd2 := N2
        rw [hgn] at HBN
        go_wp2_with fail
        refine (HBN.out _ HC1.out).mono ?_
        rintro e u2 ⟨rfl, hbu2⟩
        have HU2 := hide (HU1.out.trans (hbu2.mono HU1.out.size))
        have HC2 := hide (HC1.out.later hbu2)
        clear hbu2
        go_wp2_with fail
        refine (HBN.out _ HC2.out).mono ?_
        rintro e u3 ⟨rfl, hbu3⟩
        have HU3 := hide (HU2.out.trans (hbu3.mono HU2.out.size))
        have HC3 := hide (HC2.out.later hbu3)
        clear hbu3
        go_wp2_with fail
        refine (HHB.out _ (HM.out.below HU3.out) HC3.out).mono ?_
        rintro e u7 ⟨⟨v, rfl, hv⟩, hb7⟩
        have HU7 := hide (HU3.out.trans (hb7.mono HU3.out.size))
        have HC7 := hide (HC3.out.later hb7)
        clear hb7
        cases v
        · skip
          go_wp2_with fail
          go_loopw [11] (fun i wr => i = .int .i64 x ∧ Hid (Cal wr p b we F) ∧ Hid (Below w.heap.size w wr)) (fun _ _ => 0)
          case atStart => exact ⟨rfl, HC7, HU7⟩
          case round =>
            clear HC7 HU7
            obtain ⟨rfl, HCI, HUI⟩ := hrel
            go_wp2_with fail
            go_roundw
            case rel => exact ⟨4, by omega, by go_num, HCI, HUI⟩
            case measure => simp [intOf]
        · obtain ⟨i, i1, i2, i3, i4⟩ := hv rfl
          have HMX := hide (fun (W : World) (h : MDays W) => month_any x x W (hide h) xd1 xd2 N1 N2)
          rw [show (monI x == monI x) = true by first | exact beq_self_eq_true _ | (rw [beq_iff_eq]; exact AdjR.month N1 N2 (by omega) HADJ.out i1 i2 i3 i4)] at HMX
          clear hv i1 i2 i3 i4
          go_wp2_with fail
          refine (HMX.out _ (HM.out.below HU7.out)).mono ?_
          rintro e u8 ⟨rfl, hbu8⟩
          have HU8 := hide (HU7.out.trans (hbu8.mono HU7.out.size))
          have HC8 := hide (HC7.out.later hbu8)
          clear hbu8
          go_wp2_with fail
          go_loopw [11] (fun i wr => i = .int .i64 x ∧ Hid (Cal wr p b we F) ∧ Hid (Below w.heap.size w wr)) (fun _ _ => 0)
          case atStart => exact ⟨rfl, HC8, HU8⟩
          case round =>
            clear HC8 HU8
            obtain ⟨rfl, HCI, HUI⟩ := hrel
            go_wp2_with fail
            go_roundw
            case rel => exact ⟨4, by omega, by go_num, HCI, HUI⟩
            case measure => simp [intOf]
    · rw [show ((4 : Nat) : Int) = 4 from rfl]
      have HON := hide (fun (W : World) (h : MDays W) => Of_any N W (hide h))
      rw [(of_ok (dayB_yes N1 N2)).1, (of_ok (dayB_yes N1 N2)).2, errV_zero] at HON
      have HMK := hide (fun (W : World) (h : MDays W) => Months_any N k W (hide h))
      have hyb := yearI_b N1 N2
      have hmb := monthI_b N1
      have hdb := dayI_b N1
      have hsum := mon_sum N
      have HNO := hide (fun h => moB_no (n := N) (k := k) h)
      have HOK := hide ((moB_iff N k).2)
      have HTH := hide (mo_there (n := N) (k := k) N1)
      have HBK := hide (fun (m : Int) h3 h4 hm => mo_back (n := N) (k := k) (m := m) N1 N2 h3 h4 hm)
      have HSM := hide (mo_sum (n := N) (k := k))
      have HDY := hide (mo_day N k)
      obtain ⟨q, HQ⟩ : ∃ q, Hid (monI N = q) := ⟨_, hide rfl⟩
      rw [HQ.out] at hsum HNO HOK HTH HBK HSM
      unfold dateV at HON
      obtain ⟨y, HYE⟩ : ∃ y, Hid (yearI N = y) := ⟨_, hide rfl⟩
      obtain ⟨m, HME⟩ : ∃ m, Hid (monthI N = m) := ⟨_, hide rfl⟩
      obtain ⟨d, HDE⟩ : ∃ d, Hid (dayI N = d) := ⟨_, hide rfl⟩
      rw [HYE.out] at HON hyb hsum
      rw [HME.out] at HON hmb hsum
      rw [HDE.out] at HON hdb HDY HBK
      obtain ⟨y1, y2⟩ := hyb
      obtain ⟨m1, m2⟩ := hmb
      obtain ⟨d1, d2⟩ := hdb
      by_cases z1 : k < -119988
      · rw [(mo_bad (HNO.out (by omega))).1, (mo_bad (HNO.out (by omega))).2, errV_pos (by omega)] at HMK
        go_wp2_with fail
        refine (HON.out _ (HM.out.below HB.out)).mono ?_
        rintro e w1 ⟨rfl, hb1⟩
        have HV1 := hide (HB.out.trans (hb1.mono HB.out.size))
        have HV2 : Hid (Below w.heap.size w (w1.alloc (.cells #[.int .i64 y, .int .i64 m, .int .i64 d] 39))) := hide (HV1.out.alloc HV1.out.size _)
        have T1 := Trio.new w1 y m d 39
        clear hb1
        go_wp2_with fail
        refine (HMK.out _ (HM.out.below HV2.out)).mono ?_
        rintro e w3 ⟨rfl, hb3⟩
        have HV3 := hide (HV2.out.trans (hb3.mono HV2.out.size))
        have T := T1.later hb3
        clear hb3 HV1 HV2
        have t0 := T.c0
        have t1 := T.c1
        have t2 := T.c2
        have t3 := T.c2
        go_wp2_with fail
        go_ret
        exact ⟨rfl, HV3.out⟩
      by_cases z2 : 119987 < k
      · rw [(mo_bad (HNO.out (by omega))).1, (mo_bad (HNO.out (by omega))).2, errV_pos (by omega)] at HMK
        go_wp2_with fail
        refine (HON.out _ (HM.out.below HB.out)).mono ?_
        rintro e w1 ⟨rfl, hb1⟩
        have HV1 := hide (HB.out.trans (hb1.mono HB.out.size))
        have HV2 : Hid (Below w.heap.size w (w1.alloc (.cells #[.int .i64 y, .int .i64 m, .int .i64 d] 39))) := hide (HV1.out.alloc HV1.out.size _)
        have T1 := Trio.new w1 y m d 39
        clear hb1
        go_wp2_with fail
        refine (HMK.out _ (HM.out.below HV2.out)).mono ?_
        rintro e w3 ⟨rfl, hb3⟩
        have HV3 := hide (HV2.out.trans (hb3.mono HV2.out.size))
        have T := T1.later hb3
        clear hb3 HV1 HV2
        have t0 := T.c0
        have t1 := T.c1
        have t2 := T.c2
        have t3 := T.c2
        go_wp2_with fail
        go_ret
        exact ⟨rfl, HV3.out⟩
      by_cases z3 : y * 12 + m - 1 + k < 12
      · rw [(mo_bad (HNO.out (by omega))).1, (mo_bad (HNO.out (by omega))).2, errV_pos (by omega)] at HMK
        have zd : decide (y * 12 + m - 1 + k < 12) = true := decide_eq_true z3
        go_wp2_with fail
        refine (HON.out _ (HM.out.below HB.out)).mono ?_
        rintro e w1 ⟨rfl, hb1⟩
        have HV1 := hide (HB.out.trans (hb1.mono HB.out.size))
        have HV2 : Hid (Below w.heap.size w (w1.alloc (.cells #[.int .i64 y, .int .i64 m, .int .i64 d] 39))) := hide (HV1.out.alloc HV1.out.size _)
        have T1 := Trio.new w1 y m d 39
        clear hb1
        go_wp2_with fail
        refine (HMK.out _ (HM.out.below HV2.out)).mono ?_
        rintro e w3 ⟨rfl, hb3⟩
        have HV3 := hide (HV2.out.trans (hb3.mono HV2.out.size))
        have T := T1.later hb3
        clear hb3 HV1 HV2
        have t0 := T.c0
        have t1 := T.c1
        have t2 := T.c2
        have t3 := T.c2
        go_wp2_with fail
        go_ret
        exact ⟨rfl, HV3.out⟩
      by_cases z4 : 119999 < y * 12 + m - 1 + k
      · rw [(mo_bad (HNO.out (by omega))).1, (mo_bad (HNO.out (by omega))).2, errV_pos (by omega)] at HMK
        have zd : decide (y * 12 + m - 1 + k < 12) = false := decide_eq_false z3
        have ze : decide (119999 < y * 12 + m - 1 + k) = true := decide_eq_true z4
        go_wp2_with fail
        refine (HON.out _ (HM.out.below HB.out)).mono ?_
        rintro e w1 ⟨rfl, hb1⟩
        have HV1 := hide (HB.out.trans (hb1.mono HB.out.size))
        have HV2 : Hid (Below w.heap.size w (w1.alloc (.cells #[.int .i64 y, .int .i64 m, .int .i64 d] 39))) := hide (HV1.out.alloc HV1.out.size _)
        have T1 := Trio.new w1 y m d 39
        clear hb1
        go_wp2_with fail
        refine (HMK.out _ (HM.out.below HV2.out)).mono ?_
        rintro e w3 ⟨rfl, hb3⟩
        have HV3 := hide (HV2.out.trans (hb3.mono HV2.out.size))
        have T := T1.later hb3
        clear hb3 HV1 HV2
        have t0 := T.c0
        have t1 := T.c1
        have t2 := T.c2
        have t3 := T.c2
        go_wp2_with fail
        go_ret
        exact ⟨rfl, HV3.out⟩
      have hok := HOK.out ⟨N1, N2, by omega, by omega⟩
      rw [(mo_ok hok).1, (mo_ok hok).2, errV_zero] at HMK
      obtain ⟨r1, r2, r3, r4, r5⟩ := HTH.out (by omega) (by omega)
      obtain ⟨b1, b2⟩ := HBK.out _ (by omega) (by omega) rfl
      have HOM := hide (fun (W : World) (h : MDays W) => Of_any (numI (moY N k) (moM N k) (moD N k)) W (hide h))
      rw [(of_ok (dayB_yes r4 r5)).1, (of_ok (dayB_yes r4 r5)).2, r1, r2, r3, errV_zero] at HOM
      have HMB := hide (fun (W : World) (h : MDays W) => Months_any (numI (moY N k) (moM N k) (moD N k)) (-k) W (hide h))
      rw [b1, errV_zero] at HMB
      have B2 := hide b2
      obtain ⟨mm, HMM⟩ : ∃ mm, Hid (numI (moY N k) (moM N k) (moD N k) = mm) := ⟨_, hide rfl⟩
      rw [HMM.out] at HMK HOM HMB B2
      obtain ⟨bk, HBKE⟩ : ∃ bk, Hid (moV mm (-k) = bk) := ⟨_, hide rfl⟩
      rw [HBKE.out] at HMB B2
      unfold dateV at HOM
      obtain ⟨y', HY2⟩ : ∃ y', Hid (moY N k = y') := ⟨_, hide rfl⟩
      obtain ⟨m', HM2⟩ : ∃ m', Hid (moM N k = m') := ⟨_, hide rfl⟩
      obtain ⟨d', HD2⟩ : ∃ d', Hid (moD N k = d') := ⟨_, hide rfl⟩
      rw [HY2.out] at HOM HSM
      rw [HM2.out] at HOM HSM
      rw [HD2.out] at HOM HDY
      have hs2 := HSM.out
      have hdy := HDY.out
      have hy' : 1 ≤ y' ∧ y' ≤ 9999 := by have h := (mo_right (n := N) (k := k) N1 (by rw [HQ.out]; omega) (by rw [HQ.out]; omega)); have := h.1.y1; have := h.2; rw [HY2.out] at *; omega
      have hm' : 1 ≤ m' ∧ m' ≤ 12 := by have h := (mo_right (n := N) (k := k) N1 (by rw [HQ.out]; omega) (by rw [HQ.out]; omega)).1; have := h.m1; have := h.m2; rw [HM2.out] at *; omega
      have hd' : 1 ≤ d' := by have h := (mo_right (n := N) (k := k) N1 (by rw [HQ.out]; omega) (by rw [HQ.out]; omega)).1.d1; rw [HD2.out] at h; exact h
      obtain ⟨y3, y4⟩ := hy'
      obtain ⟨m3, m4⟩ := hm'
      have eqm : (y' * 12 + m' != y * 12 + m + k) = false := by rw [bne_eq_false_iff_eq]; omega
      have eqd : decide (d < d') = false := decide_eq_false (by omega)
      clear r1 r2 r3 r4 r5 b1 b2 hok HNO HOK HTH HBK HSM HDY
      by_cases h28 : d ≤ 28
      · obtain rfl : d' = d := hdy.2 h28
        obtain rfl : bk = N := B2.out h28
        have e28 : decide (d' ≤ 28) = true := decide_eq_true h28
        have f28 : decide (28 < d') = false := decide_eq_false (by omega)
        go_wp2_with fail
        refine (HON.out _ (HM.out.below HB.out)).mono ?_
        rintro e w1 ⟨rfl, hb1⟩
        have HV1 := hide (HB.out.trans (hb1.mono HB.out.size))
        have HV2 : Hid (Below w.heap.size w (w1.alloc (.cells #[.int .i64 y, .int .i64 m, .int .i64 d'] 39))) := hide (HV1.out.alloc HV1.out.size _)
        have T1 := Trio.new w1 y m d' 39
        clear hb1
        go_wp2_with fail
        refine (HMK.out _ (HM.out.below HV2.out)).mono ?_
        rintro e w3 ⟨rfl, hb3⟩
        have HV3 := hide (HV2.out.trans (hb3.mono HV2.out.size))
        have T := T1.later hb3
        clear hb3 HV1 HV2
        have t0 := T.c0
        have t1 := T.c1
        have t2 := T.c2
        have t3 := T.c2
        go_wp2_with fail
        refine (HOM.out _ (HM.out.below HV3.out)).mono ?_
        rintro e w4 ⟨rfl, hb4⟩
        have HV4 := hide (HV3.out.trans (hb4.mono HV3.out.size))
        have HV5 : Hid (Below w.heap.size w (w4.alloc (.cells #[.int .i64 y', .int .i64 m', .int .i64 d'] 39))) := hide (HV4.out.alloc HV4.out.size _)
        have T5 := (T.later hb4).alloc (.cells #[.int .i64 y', .int .i64 m', .int .i64 d'] 39)
        clear t0 t1 t2 t3 hb4
        have t0 := T5.c0
        have t1 := T5.c1
        have t2 := T5.c2
        go_wp2_with fail
        refine (HMB.out _ (HM.out.below HV5.out)).mono ?_
        rintro e w6 ⟨rfl, hb6⟩
        have HV6 := hide (HV5.out.trans (hb6.mono HV5.out.size))
        have T6 := T5.later hb6
        clear t0 t1 t2 hb6
        have t2 := T6.c2
        go_wp2_with fail
        go_ret
        exact ⟨rfl, HV6.out⟩
      · have e28 : decide (d ≤ 28) = false := decide_eq_false h28
        have f28 : decide (28 < d) = true := decide_eq_true (by omega)
        go_wp2_with fail
        refine (HON.out _ (HM.out.below HB.out)).mono ?_
        rintro e w1 ⟨rfl, hb1⟩
        have HV1 := hide (HB.out.trans (hb1.mono HB.out.size))
        have HV2 : Hid (Below w.heap.size w (w1.alloc (.cells #[.int .i64 y, .int .i64 m, .int .i64 d] 39))) := hide (HV1.out.alloc HV1.out.size _)
        have T1 := Trio.new w1 y m d 39
        clear hb1
        go_wp2_with fail
        refine (HMK.out _ (HM.out.below HV2.out)).mono ?_
        rintro e w3 ⟨rfl, hb3⟩
        have HV3 := hide (HV2.out.trans (hb3.mono HV2.out.size))
        have T := T1.later hb3
        clear hb3 HV1 HV2
        have t0 := T.c0
        have t1 := T.c1
        have t2 := T.c2
        have t3 := T.c2
        go_wp2_with fail
        refine (HOM.out _ (HM.out.below HV3.out)).mono ?_
        rintro e w4 ⟨rfl, hb4⟩
        have HV4 := hide (HV3.out.trans (hb4.mono HV3.out.size))
        have HV5 : Hid (Below w.heap.size w (w4.alloc (.cells #[.int .i64 y', .int .i64 m', .int .i64 d'] 39))) := hide (HV4.out.alloc HV4.out.size _)
        have T5 := (T.later hb4).alloc (.cells #[.int .i64 y', .int .i64 m', .int .i64 d'] 39)
        clear t0 t1 t2 t3 hb4
        have t0 := T5.c0
        have t1 := T5.c1
        have t2 := T5.c2
        go_wp2_with fail
        refine (HMB.out _ (HM.out.below HV5.out)).mono ?_
        rintro e w6 ⟨rfl, hb6⟩
        have HV6 := hide (HV5.out.trans (hb6.mono HV5.out.size))
        have T6 := T5.later hb6
        clear t0 t1 t2 hb6
        have t2 := T6.c2
        go_wp2_with fail
        go_ret
        exact ⟨rfl, HV6.out⟩
end Go.Proofs.YtiajkglpmpemaabDoor
