/-
  My own text: the law on the largest remainder: its walk.
-/
import Derived.Test.YthmbfdjbjljaiaaGreatDoorShareFit
namespace Go.Proofs.YthmbfdjbjljaiaaGreatDoor
open Go.RowKit

theorem bnot (x y : Int) (h : x ≠ y) : (x != y) = true := by simpa using h
theorem bsame (x : Int) : (x != x) = false := by simp
/-- A list's elements, multiplied up to a place. -/
def byC (l : List Int) (b : Int) (k j : Nat) : Value := .int .i64 (if j < k then l.getD j 0 * b else l.getD j 0)
set_option maxRecDepth 100000 in
set_option maxHeartbeats 4000000 in
theorem shares_law (n b : Int) (a : Option Addr) (cap : Nat) (l : List Int) (w : World) (hv : RI w .i64 (.slice a l.length cap) l) (hl : l.length ≤ 17592186043904) (hb : ∀ x ∈ l, -9223372036854775808 ≤ x ∧ x ≤ 9223372036854775807) (n1 : n ≤ 9223372036854775807) (b1 : b ≤ 9223372036854775807) :
    Calls Tryz.prog 18 #[.int .i64 n, .slice a l.length cap, .int .i64 b] w fun e w' => e = .returned (.bool true) ∧ Below w.heap.size w w' := by
  have HV := hide hv
  have HB := hide hb
  have HSU := hide (sum_int64 _ l w hv (by omega) hb)
  by_cases hE : 1 ≤ wE n l
  · have HSB := hide (split_bad n _ l w hv (by omega) hb hE)
    have HF := hide (fit_any n _ l w hv (by omega))
    have HD : Hid (decide (wE n l = 0) = false) := hide (by rw [decide_eq_false_iff_not]; omega)
    rw [HD.out] at HF
    rw [errV_pos hE] at HSB
    obtain ⟨m, hm⟩ : ∃ m, wE n l = m := ⟨_, rfl⟩
    rw [hm] at HSB
    obtain ⟨ev, hev⟩ : ∃ ev, errV (sumE l.sum) = ev := ⟨_, rfl⟩
    rw [hev] at HSU
    clear hv hb hE HD hm hev
    go_enter Tryz.func18, Tryz.ntmps18
    go_wp2_with fail
    refine HSU.out.mono ?_
    rintro e w1 ⟨rfl, rfl⟩
    go_wp2_with fail
    refine HSB.out.mono ?_
    rintro e w1 ⟨rfl, rfl⟩
    go_wp2_with fail
    refine HF.out.mono ?_
    rintro e w1 ⟨rfl, rfl⟩
    go_wp2_with fail
    go_ret
    exact ⟨rfl, Below.refl _ _⟩
  · obtain ⟨n0, hW, hS, hz⟩ := wE_fit hE
    obtain ⟨hn, hp⟩ := areW_pos hW
    have hl0 : 0 < l.length := by
      cases l with
      | nil => simp at hp
      | cons a t => simp
    obtain ⟨bw, ow, ha, hbw, HCW⟩ : ∃ bw ow, a = some ⟨bw, ow, none⟩ ∧ bw < w.heap.size ∧ Hid (∀ j x, l[j]? = some x → w.cell? ⟨bw, ow + j, none⟩ = some (.int .i64 x)) := by
      obtain ⟨a', c', e0, h0 | ⟨bw, ow, ha, hbw, hcw⟩⟩ := hv
      · rw [h0] at hl0; simp at hl0
      · cases e0; exact ⟨bw, ow, ha, hbw, hide hcw⟩
    subst ha
    have HE := hide hE
    have HNN := hide hn
    have HSA := hide (split_any n _ l w hv (by omega) hb n1)
    have HF := hide (fun (W : World) (h : RI W .i64 (.slice (some ⟨bw, ow, none⟩) l.length cap) l) => fit_any n _ l W h (by omega))
    rw [hz, errV_zero] at HSA
    rw [decide_eq_true hz] at HF
    rw [(sum_ok (s := l.sum) (by omega)).1, (sum_ok (s := l.sum) (by omega)).2, errV_zero] at HSU
    have HLEN := hide (splitR_len' hE)
    have HPS := hide (splitR_sum hE)
    have HPI := hide (splitR_in hE n1)
    have HPT := hide (fun (j : Nat) (x y : Int) (hx : l[j]? = some x) (hy : (splitR n l)[j]? = some y) => prt_at hE hx hy)
    have HP2 := hide (fun (k i : Nat) (x y x' y' : Int) (hk : l[k]? = some x) (hky : (splitR n l)[k]? = some y) (hi : l[i]? = some x') (hiy : (splitR n l)[i]? = some y') (hki : k < i) => prt_two hE hk hky hi hiy hki)
    have HBY := hide (fun (h1 : 0 < b) (h2 : l.sum * b ≤ 9223372036854775807) => wE_by hE h1 h2)
    have HBI := hide (fun (h1 : 0 < b) (h2 : l.sum * b ≤ 9223372036854775807) => by_in hn h1 h2)
    have HBS := hide (fun (h1 : 0 < b) (h2 : l.sum * b ≤ 9223372036854775807) => splitR_by h1 hE (wE_by hE h1 h2))
    obtain ⟨S, HS⟩ : ∃ S, Hid (l.sum = S) := ⟨_, hide rfl⟩
    obtain ⟨p, HP⟩ : ∃ p, Hid (splitR n l = p) := ⟨_, hide rfl⟩
    rw [HS.out] at HSU hp hS HPT HBY HBI HBS
    rw [HP.out] at HSA HLEN HPS HPI HPT HP2 HBS
    clear hv hb hE hn hW hz HE
    go_enter Tryz.func18, Tryz.ntmps18
    go_wp2_with fail
    refine HSU.out.mono ?_
    rintro e w0 ⟨rfl, h0⟩
    have h0 : w = w0 := h0.symm
    subst h0
    go_wp2_with fail
    refine HSA.out.mono ?_
    rintro e w1 ⟨r, rfl, hown, hb1⟩
    rcases hown with ⟨_, h0⟩ | ⟨P, rfl, hP, hr⟩
    · have := HLEN.out; rw [h0] at this; simp at this; omega
    rw [HLEN.out] at hr ⊢
    have HRP : Hid (RI w1 .i64 (.slice (some ⟨P, 0, none⟩) l.length l.length) p) := hide (by
      refine ⟨_, _, by rw [HLEN.out], .inr ⟨P, 0, rfl, hr.lt, fun j x hx => ?_⟩⟩
      have hj := (List.getElem?_eq_some_iff.1 hx).1
      rw [HLEN.out] at hj
      rw [Nat.zero_add, hr.cell hj, List.getD_eq_getElem?_getD, hx]; rfl)
    have HCP : Hid (∀ j y, p[j]? = some y → w1.cell? ⟨P, j, none⟩ = some (.int .i64 y)) := hide (fun j y hy => by
      have hj := (List.getElem?_eq_some_iff.1 hy).1
      rw [HLEN.out] at hj
      rw [hr.cell hj, List.getD_eq_getElem?_getD, hy]; rfl)
    have hPl : P < w1.heap.size := hr.lt
    have hbw1 : bw < w1.heap.size := by have := hb1.size; omega
    have HCW1 : Hid (∀ j x, l[j]? = some x → w1.cell? ⟨bw, ow + j, none⟩ = some (.int .i64 x)) := hide (fun j x hx => (hb1.cell (p := ⟨bw, ow + j, none⟩) hbw).trans (HCW.out j x hx))
    have HV1 := hide (HV.out.later hb1)
    have HSP := hide (sum_int64 _ p w1 HRP.out (by rw [HLEN.out]; omega) HPI.out)
    rw [HPS.out, (sum_ok (s := n) (by omega)).1, (sum_ok (s := n) (by omega)).2, errV_zero] at HSP
    have hs1 := hb1.size
    clear hr HSA HSU
    go_wp2_with fail
    refine (HF.out _ HV1.out).mono ?_
    rintro e w' ⟨rfl, h0⟩
    have h0 : w1 = w' := h0.symm
    subst h0
    go_wp2_with fail
    refine HSP.out.mono ?_
    rintro e w' ⟨rfl, h0⟩
    have h0 : w1 = w' := h0.symm
    subst h0
    clear HSP HF
    go_wp2_with fail
    go_loopw [13] (fun i wr => ∃ k : Nat, k ≤ l.length ∧ i = .int .i64 k ∧ Below w1.heap.size w1 wr) (fun i _ => l.length - (intOf i).toNat)
    case atStart => exact ⟨0, Nat.zero_le _, rfl, Below.refl _ _⟩
    case round =>
      obtain ⟨k, hk, rfl, hB⟩ := hrel
      by_cases hlt : k < l.length
      · obtain ⟨x, hx⟩ := some_at hlt
        obtain ⟨y, hy⟩ : ∃ y, p[k]? = some y := some_at (by rw [HLEN.out]; exact hlt)
        have HPK := hide (HPT.out k x y hx hy)
        have x0 : 0 ≤ x := HNN.out x (List.mem_of_getElem? hx)
        have x1 : x ≤ 9223372036854775807 := (HB.out x (List.mem_of_getElem? hx)).2
        have HMD := hide (fun W : World => mulDiv_fit n x S 0 W n0 n1 x0 x1 hp hS (by omega) (by omega))
        rw [(md_low n0 n1 x0 hp HPK.out.qn).1, (md_low n0 n1 x0 hp HPK.out.qn).2, errV_zero] at HMD
        have hq0 := HPK.out.q0
        have hqn := HPK.out.qn
        have hnear := HPK.out.near
        have hle := HPK.out.le
        have hnone := HPK.out.none
        obtain ⟨q, Hq⟩ : ∃ q, Hid (n * x / S = q) := ⟨_, hide rfl⟩
        rw [Hq.out] at HMD hq0 hqn hnear
        have HX := hide hx
        have HY := hide hy
        have cW := (hB.cell (p := ⟨bw, ow + k, none⟩) hbw1).trans (HCW1.out k x hx)
        have HQ1 : Hid ((y = q ∧ x ≠ 0) ∨ (y = q + 1 ∧ x ≠ 0) ∨ (x = 0 ∧ y = 0 ∧ q = 0)) := hide (by
          by_cases h : x = 0
          · have := hnone h; rcases hnear with h2 | h2
            · exact .inr (.inr ⟨h, this, by omega⟩)
            · omega
          · rcases hnear with h2 | h2
            · exact .inl ⟨h2, h⟩
            · exact .inr (.inl ⟨h2, h⟩))
        clear hx hy hnear hnone HPK Hq
        go_wp2_with fail
        refine (HMD.out _).mono ?_
        rintro e w2 ⟨rfl, hb2⟩
        have hB2 : Below w1.heap.size w1 w2 := hB.trans (hb2.mono hB.size)
        clear cW HMD hb2 hB
        have cW := (hB2.cell (p := ⟨bw, ow + k, none⟩) hbw1).trans (HCW1.out k x HX.out)
        have cP := (hB2.cell (p := ⟨P, k, none⟩) hPl).trans (HCP.out k y HY.out)
        have hy1 : y ≤ 9223372036854775807 := by omega
        have hq1 : q + 1 ≤ 9223372036854775808 := by omega
        have HXY := hide (And.intro HX.out HY.out)
        clear HX HY
        have hk2 : (k : Int) + 1 ≤ 17592186043905 := by omega
        have HQ := hide hq0
        rcases HQ1.out with ⟨e1, e2⟩ | ⟨e1, e2⟩ | ⟨e1, e2, e3⟩
        · subst e1
          have t3 : (x == 0) = false := by simpa using e2
          clear HQ1 e2
          go_wp2_with fail
          go_loopw [16] (fun i wr => ∃ j : Nat, j ≤ k ∧ i = .int .i64 j ∧ Below w1.heap.size w1 wr) (fun i _ => k - (intOf i).toNat)
          case atStart => exact ⟨0, Nat.zero_le _, rfl, hB2⟩
          case round =>
            clear cW cP hB2
            obtain ⟨j, hj, rfl, hB⟩ := hrel
            by_cases hjk : j < k ∧ j < 50
            · obtain ⟨hjk, h50⟩ := hjk
              obtain ⟨x', hx'⟩ : ∃ y, l[j]? = some y := some_at (by omega)
              obtain ⟨y', hy'⟩ : ∃ y, p[j]? = some y := some_at (by rw [HLEN.out]; omega)
              have H2 := hide (HP2.out j k x' y' x y hx' hy' HXY.out.1 HXY.out.2 hjk)
              have cW := (hB.cell (p := ⟨bw, ow + k, none⟩) hbw1).trans (HCW1.out k x HXY.out.1)
              have cP := (hB.cell (p := ⟨P, k, none⟩) hPl).trans (HCP.out k y HXY.out.2)
              have cW' := (hB.cell (p := ⟨bw, ow + j, none⟩) hbw1).trans (HCW1.out j x' hx')
              have cP' := (hB.cell (p := ⟨P, j, none⟩) hPl).trans (HCP.out j y' hy')
              have d1 : decide ((j : Int) < (k : Int)) = true := by rw [decide_eq_true_eq]; omega
              have d2 : decide ((j : Int) < 50) = true := by rw [decide_eq_true_eq]; omega
              have hjl : j < l.length := by omega
              have hj2 : (j : Int) + 1 ≤ 17592186043905 := by omega
              clear hx' hy'
              by_cases hge : x ≤ x'
              · have hyy := H2.out.1 hge
                have g1 : decide (x ≤ x') = true := decide_eq_true hge
                have g2 : decide (y' < y) = false := by rw [decide_eq_false_iff_not]; omega
                have g3 : decide (x' < x) = false := by rw [decide_eq_false_iff_not]; omega
                go_wp2_with fail
                go_quiet (fail)
                go_wp2_with fail
                go_roundw
                case rel => exact ⟨j + 1, by omega, by go_num, below_drewN hB _⟩
                case measure => simp [intOf]; omega
              · have hyy := H2.out.2 (by omega)
                have g1 : decide (x ≤ x') = false := decide_eq_false hge
                have g2 : decide (y < y') = false := by rw [decide_eq_false_iff_not]; omega
                have g3 : decide (x' < x) = true := by rw [decide_eq_true_eq]; omega
                go_wp2_with fail
                go_quiet (fail)
                go_wp2_with fail
                go_roundw
                case rel => exact ⟨j + 1, by omega, by go_num, below_drewN hB _⟩
                case measure => simp [intOf]; omega
            · have hx2 : j = k ∨ (j < k ∧ 50 ≤ j) := by omega
              clear hjk hq0 hqn hle hy1 hq1 x0 x1
              try clear t1
              try clear t2
              try clear t3
              try clear t4
              rcases hx2 with d1 | ⟨d1, d2⟩
              · subst d1
                go_wp2_with fail
                go_roundw
                case rel => exact ⟨j + 1, by omega, by go_num, hB⟩
                case measure => simp [intOf]; omega
              · have e1 : decide ((j : Int) < (k : Int)) = true := by rw [decide_eq_true_eq]; omega
                have e2 : decide ((j : Int) < 50) = false := by rw [decide_eq_false_iff_not]; omega
                clear d1 d2 hj
                generalize hJ : (j : Int) = J at e1 e2 ⊢
                clear hJ
                go_wp2_with fail
                go_roundw
                case rel => exact ⟨k + 1, by omega, by go_num, hB⟩
                case measure => simp [intOf]; omega
        · have hq' : q = y - 1 := by omega
          subst hq'
          have t1 : (y != y - 1) = true := by simp; omega
          have t2 : wrap64 (y - 1 + 1) = y := by unfold wrap64; omega
          have t3 : (x == 0) = false := by simpa using e2
          clear HQ1 e2 e1
          go_wp2_with fail
          go_loopw [16] (fun i wr => ∃ j : Nat, j ≤ k ∧ i = .int .i64 j ∧ Below w1.heap.size w1 wr) (fun i _ => k - (intOf i).toNat)
          case atStart => exact ⟨0, Nat.zero_le _, rfl, hB2⟩
          case round =>
            clear cW cP hB2
            obtain ⟨j, hj, rfl, hB⟩ := hrel
            by_cases hjk : j < k ∧ j < 50
            · obtain ⟨hjk, h50⟩ := hjk
              obtain ⟨x', hx'⟩ : ∃ y, l[j]? = some y := some_at (by omega)
              obtain ⟨y', hy'⟩ : ∃ y, p[j]? = some y := some_at (by rw [HLEN.out]; omega)
              have H2 := hide (HP2.out j k x' y' x y hx' hy' HXY.out.1 HXY.out.2 hjk)
              have cW := (hB.cell (p := ⟨bw, ow + k, none⟩) hbw1).trans (HCW1.out k x HXY.out.1)
              have cP := (hB.cell (p := ⟨P, k, none⟩) hPl).trans (HCP.out k y HXY.out.2)
              have cW' := (hB.cell (p := ⟨bw, ow + j, none⟩) hbw1).trans (HCW1.out j x' hx')
              have cP' := (hB.cell (p := ⟨P, j, none⟩) hPl).trans (HCP.out j y' hy')
              have d1 : decide ((j : Int) < (k : Int)) = true := by rw [decide_eq_true_eq]; omega
              have d2 : decide ((j : Int) < 50) = true := by rw [decide_eq_true_eq]; omega
              have hjl : j < l.length := by omega
              have hj2 : (j : Int) + 1 ≤ 17592186043905 := by omega
              clear hx' hy'
              by_cases hge : x ≤ x'
              · have hyy := H2.out.1 hge
                have g1 : decide (x ≤ x') = true := decide_eq_true hge
                have g2 : decide (y' < y) = false := by rw [decide_eq_false_iff_not]; omega
                have g3 : decide (x' < x) = false := by rw [decide_eq_false_iff_not]; omega
                go_wp2_with fail
                go_quiet (fail)
                go_wp2_with fail
                go_roundw
                case rel => exact ⟨j + 1, by omega, by go_num, below_drewN hB _⟩
                case measure => simp [intOf]; omega
              · have hyy := H2.out.2 (by omega)
                have g1 : decide (x ≤ x') = false := decide_eq_false hge
                have g2 : decide (y < y') = false := by rw [decide_eq_false_iff_not]; omega
                have g3 : decide (x' < x) = true := by rw [decide_eq_true_eq]; omega
                go_wp2_with fail
                go_quiet (fail)
                go_wp2_with fail
                go_roundw
                case rel => exact ⟨j + 1, by omega, by go_num, below_drewN hB _⟩
                case measure => simp [intOf]; omega
            · have hx2 : j = k ∨ (j < k ∧ 50 ≤ j) := by omega
              clear hjk hq0 hqn hle hy1 hq1 x0 x1
              try clear t1
              try clear t2
              try clear t3
              try clear t4
              rcases hx2 with d1 | ⟨d1, d2⟩
              · subst d1
                go_wp2_with fail
                go_roundw
                case rel => exact ⟨j + 1, by omega, by go_num, hB⟩
                case measure => simp [intOf]; omega
              · have e1 : decide ((j : Int) < (k : Int)) = true := by rw [decide_eq_true_eq]; omega
                have e2 : decide ((j : Int) < 50) = false := by rw [decide_eq_false_iff_not]; omega
                clear d1 d2 hj
                generalize hJ : (j : Int) = J at e1 e2 ⊢
                clear hJ
                go_wp2_with fail
                go_roundw
                case rel => exact ⟨k + 1, by omega, by go_num, hB⟩
                case measure => simp [intOf]; omega
        · have hq' : y = q := by omega
          subst hq'
          have t3 : (x == 0) = true := by simpa using e1
          have t4 : (y != 0) = false := by simpa using e2
          clear HQ1 e2 e1 e3
          go_wp2_with fail
          go_loopw [16] (fun i wr => ∃ j : Nat, j ≤ k ∧ i = .int .i64 j ∧ Below w1.heap.size w1 wr) (fun i _ => k - (intOf i).toNat)
          case atStart => exact ⟨0, Nat.zero_le _, rfl, hB2⟩
          case round =>
            clear cW cP hB2
            obtain ⟨j, hj, rfl, hB⟩ := hrel
            by_cases hjk : j < k ∧ j < 50
            · obtain ⟨hjk, h50⟩ := hjk
              obtain ⟨x', hx'⟩ : ∃ y, l[j]? = some y := some_at (by omega)
              obtain ⟨y', hy'⟩ : ∃ y, p[j]? = some y := some_at (by rw [HLEN.out]; omega)
              have H2 := hide (HP2.out j k x' y' x y hx' hy' HXY.out.1 HXY.out.2 hjk)
              have cW := (hB.cell (p := ⟨bw, ow + k, none⟩) hbw1).trans (HCW1.out k x HXY.out.1)
              have cP := (hB.cell (p := ⟨P, k, none⟩) hPl).trans (HCP.out k y HXY.out.2)
              have cW' := (hB.cell (p := ⟨bw, ow + j, none⟩) hbw1).trans (HCW1.out j x' hx')
              have cP' := (hB.cell (p := ⟨P, j, none⟩) hPl).trans (HCP.out j y' hy')
              have d1 : decide ((j : Int) < (k : Int)) = true := by rw [decide_eq_true_eq]; omega
              have d2 : decide ((j : Int) < 50) = true := by rw [decide_eq_true_eq]; omega
              have hjl : j < l.length := by omega
              have hj2 : (j : Int) + 1 ≤ 17592186043905 := by omega
              clear hx' hy'
              by_cases hge : x ≤ x'
              · have hyy := H2.out.1 hge
                have g1 : decide (x ≤ x') = true := decide_eq_true hge
                have g2 : decide (y' < y) = false := by rw [decide_eq_false_iff_not]; omega
                have g3 : decide (x' < x) = false := by rw [decide_eq_false_iff_not]; omega
                go_wp2_with fail
                go_quiet (fail)
                go_wp2_with fail
                go_roundw
                case rel => exact ⟨j + 1, by omega, by go_num, below_drewN hB _⟩
                case measure => simp [intOf]; omega
              · have hyy := H2.out.2 (by omega)
                have g1 : decide (x ≤ x') = false := decide_eq_false hge
                have g2 : decide (y < y') = false := by rw [decide_eq_false_iff_not]; omega
                have g3 : decide (x' < x) = true := by rw [decide_eq_true_eq]; omega
                go_wp2_with fail
                go_quiet (fail)
                go_wp2_with fail
                go_roundw
                case rel => exact ⟨j + 1, by omega, by go_num, below_drewN hB _⟩
                case measure => simp [intOf]; omega
            · have hx2 : j = k ∨ (j < k ∧ 50 ≤ j) := by omega
              clear hjk hq0 hqn hle hy1 hq1 x0 x1
              try clear t1
              try clear t2
              try clear t3
              try clear t4
              rcases hx2 with d1 | ⟨d1, d2⟩
              · subst d1
                go_wp2_with fail
                go_roundw
                case rel => exact ⟨j + 1, by omega, by go_num, hB⟩
                case measure => simp [intOf]; omega
              · have e1 : decide ((j : Int) < (k : Int)) = true := by rw [decide_eq_true_eq]; omega
                have e2 : decide ((j : Int) < 50) = false := by rw [decide_eq_false_iff_not]; omega
                clear d1 d2 hj
                generalize hJ : (j : Int) = J at e1 e2 ⊢
                clear hJ
                go_wp2_with fail
                go_roundw
                case rel => exact ⟨k + 1, by omega, by go_num, hB⟩
                case measure => simp [intOf]; omega
      · have hk' : k = l.length := by omega
        subst hk'
        obtain ⟨w2, hw2⟩ : ∃ x, x = wr := ⟨_, rfl⟩
        subst hw2
        have HV2 := hide (HV1.out.later hB)
        have HRP2 := hide (HRP.out.later hB)
        clear hlt hk
        by_cases hb0 : b < 1
        · go_wp2_with fail
          go_ret
          exact ⟨rfl, hb1.trans (hB.mono hs1)⟩
        · have hbp : 0 < b := by omega
          have hnz : (b == 0) = false := by simp; omega
          by_cases hgt : 9223372036854775807 / b < S
          · have hd : decide (9223372036854775807 / b < S) = true := decide_eq_true hgt
            go_wp2_with fail
            go_ret
            exact ⟨rfl, hb1.trans (hB.mono hs1)⟩
          · have hSb : S * b ≤ 9223372036854775807 := by
              have h1 : S ≤ 9223372036854775807 / b := by omega
              have h2 := Int.mul_le_mul_of_nonneg_right h1 (Int.le_of_lt hbp)
              have h3 := Int.ediv_mul_le 9223372036854775807 (show b ≠ 0 by omega)
              omega
            have hd : decide (9223372036854775807 / b < S) = false := decide_eq_false hgt
            have HSb := hide hSb
            have HB0 := hide (hb1.trans (hB.mono hs1))
            have hs2 := hB.size
            clear hSb hgt hB
            go_wp2_with fail
            refine (copyLongs_any _ l _ HV2.out (by omega)).mono ?_
            rintro e w3 ⟨v', rfl, hown, hb3⟩
            obtain ⟨g, cg, cs, rfl, hg, hrow, _⟩ := rowC_of_owns (f := byC l b 0) hown hl0 (fun j hj => by
              unfold lv byC
              rw [List.getElem?_map, List.getElem?_eq_getElem hj, List.getD_eq_getElem?_getD, List.getElem?_eq_getElem hj]; rfl)
            have hs3 := hb3.size
            have hcg : l.length ≤ cg := by
              rcases hown.2 with ⟨_, h0⟩ | ⟨g', cap', cur, h1, _, h2, h3, _⟩
              · omega
              · cases h1; omega
            clear hown hd
            go_wp2_with fail
            go_loopw [18] (fun i wr => ∃ k : Nat, k ≤ l.length ∧ i = .int .i64 k ∧ Hid (RowC wr g l.length (byC l b k)) ∧ Below w2.heap.size w2 wr) (fun i _ => l.length - (intOf i).toNat)
            case atStart => exact ⟨0, Nat.zero_le _, rfl, hide hrow, hb3⟩
            case round =>
              clear hrow hb3
              obtain ⟨k, hk, rfl, HR, hB⟩ := hrel
              by_cases hlt : k < l.length
              · obtain ⟨x, hx⟩ := some_at hlt
                have hxb := HBI.out hbp HSb.out x (List.mem_of_getElem? hx)
                have hm : wrap64 (x * b) = x * b := by unfold wrap64; omega
                have hc : wr.cell? ⟨g, k, none⟩ = some (.int .i64 x) := by
                  rw [(HR.out.2 k hlt).1]; unfold byC; rw [if_neg (by omega), getD_of hx]
                have hf := (HR.out.2 k hlt).2
                have HR' : Hid (RowC (wr.setCell ⟨g, k, none⟩ (.int .i64 (x * b))) g l.length (byC l b (k + 1))) := hide (HR.out.set (fun j hj => by
                  unfold byC
                  by_cases e : j = k
                  · subst e; rw [if_pos rfl, if_pos (by omega), getD_of hx]
                  · rw [if_neg e]
                    by_cases h : j < k
                    · rw [if_pos h, if_pos (by omega)]
                    · rw [if_neg h, if_neg (by omega)]))
                clear hx hxb
                go_wp2_with fail
                go_roundw
                case rel => exact ⟨k + 1, by omega, by go_num, HR', hB.setCell (p := ⟨g, k, none⟩) hg _⟩
                case measure => simp [intOf]; omega
              · have hk' : k = l.length := by omega
                subst hk'
                obtain ⟨w4, hw4⟩ : ∃ x, x = wr := ⟨_, rfl⟩
                subst hw4
                have HRB : Hid (RI w4 .i64 (.slice (some ⟨g, 0, none⟩) l.length cg) (l.map (· * b))) := hide (by
                  refine ⟨_, _, by rw [List.length_map], .inr ⟨g, 0, rfl, HR.out.1, fun j x hx => ?_⟩⟩
                  have hj := (List.getElem?_eq_some_iff.1 hx).1
                  rw [List.length_map] at hj
                  rw [Nat.zero_add, (HR.out.2 j hj).1]; unfold byC; rw [if_pos hj]
                  rw [List.getElem?_map, List.getElem?_eq_getElem hj] at hx
                  rw [List.getD_eq_getElem?_getD, List.getElem?_eq_getElem hj]
                  simp at hx ⊢; exact hx)
                have hwz : wE n (l.map (· * b)) = 0 := by have := HBY.out hbp HSb.out; have := (wE_lo n (l.map (· * b))).1; omega
                have HSB := hide (split_any n _ (l.map (· * b)) w4 HRB.out (by rw [List.length_map]; omega) (fun y hy => by
                  obtain ⟨x, hx, rfl⟩ := List.mem_map.1 hy
                  have := HBI.out hbp HSb.out x hx
                  omega) n1)
                rw [hwz, errV_zero, HBS.out hbp HSb.out] at HSB
                clear hlt hk hwz
                go_wp2_with fail
                refine HSB.out.mono ?_
                rintro e w5 ⟨r, rfl, hown, hb5⟩
                have hB5 := hB.trans (hb5.mono hB.size)
                have hri := hown.ri
                go_wp2_with fail
                refine (sameLongs_any r _ p p w5 hri (HRP2.out.later hB5) (by rw [HLEN.out]; omega)).mono ?_
                rintro e w6 ⟨rfl, hb6⟩
                rw [decide_eq_true (rfl : p = p)]
                go_wp2_with fail
                go_ret
                exact ⟨rfl, HB0.out.trans ((hB5.trans (hb6.mono hB5.size)).mono (by omega))⟩
end Go.Proofs.YthmbfdjbjljaiaaGreatDoor
