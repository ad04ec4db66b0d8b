/-
  My own text: the law PartialGreatest.
-/
import Derived.Test.YtmojckejjjlkjabYH
import Derived.Test.YtmojckejjjlkjabYD
import Derived.Test.YtmojckejjjlkjabYArg
namespace Go.Proofs.Ytmojckejjjlkjab
open Go.RowKit

/-- What a first take is: no greater part could have been taken. -/
theorem first_q {Q A L K h c : Int} (ok : (Od.mk Q A L K 0 []).Ok) : (c ≥ A → 0 ≤ h → (Od.mk Q A L K 0 []).q h c = ptV Q L K h) ∧ (Q ≤ h → A ≤ c → (Od.mk Q A L K 0 []).q h c = Q) ∧
    ((Od.mk Q A L K 0 []).q h c < Q - L → K ≤ (Od.mk Q A L K 0 []).q h c + L → (Od.mk Q A L K 0 []).q h c + L ≤ h → c < mon Q A 0 ((Od.mk Q A L K 0 []).q h c + L)) := by
  have Q0 : 0 < Q := ok.Q0
  have A0 : 0 ≤ A := ok.A0
  have L0 : 0 < L := ok.L0
  have K0 : 0 ≤ K := ok.K0
  have ml : mon Q A 0 Q = A := by have := mon_left (A := A) (D := 0) Q0; rw [sh_zero] at this; rw [show Q - 0 = Q by omega] at this; omega
  have eq : (Od.mk Q A L K 0 []).q h c = tkQ Q A L K 0 h c := rfl
  rw [eq]
  have hpay : 0 ≤ c → A ≤ c → pay Q A 0 c = Q := fun _ h1 => by unfold pay; rw [sh_zero, if_pos (by omega)]; omega
  refine ⟨fun h1 h0 => ?_, fun h1 h2 => ?_, fun h1 h2 h3 => ?_⟩
  · have hp := hpay (by omega) h1
    rw [(ptV_ok (l := Q) (t := L) (k := K) (h := h) (by omega)).1]
    unfold tkQ
    by_cases hh : h < 1
    · rw [if_pos (.inl hh)]
      have h0' : h = 0 := by omega
      subst h0'
      unfold gr
      rw [if_neg (by omega), show (0 : Int) - 0 % L = 0 by rw [Int.zero_emod]; omega]
      split <;> rfl
    · rw [if_neg (by omega), hp, show Q - 0 = Q by omega]
      unfold gr
      by_cases hq : Q ≤ h
      · rw [if_pos (by omega), if_pos hq]
      · rw [if_neg (by omega), if_neg hq, show min h Q = h by omega]
  · have hp := hpay (by omega) h2
    unfold tkQ gr
    rw [if_neg (by omega), hp, show Q - 0 = Q by omega, if_pos (by omega)]
  · refine Int.lt_of_not_ge fun hge => ?_
    have hq0 : 0 ≤ tkQ Q A L K 0 h c := (Od.q_bnd ok h c).1
    have c0 : 0 ≤ c := by
      have := mon_mono (D := 0) Q0 A0 (show 0 ≤ tkQ Q A L K 0 h c + L by omega)
      rw [mon_zero] at this; omega
    have hp := (pay_iff (D := 0) Q0 A0 (Int.le_refl _) (show tkQ Q A L K 0 h c + L ≤ Q - 0 by omega) c0 (by omega)).1 hge
    have e : tkQ Q A L K 0 h c = gr (Q - 0) L K (min h (pay Q A 0 c)) := by unfold tkQ; rw [if_neg (by omega)]
    have hm : tkQ Q A L K 0 h c + L ≤ min h (pay Q A 0 c) := by omega
    rw [show Q - 0 = Q by omega] at e
    generalize tkQ Q A L K 0 h c = q at *
    generalize min h (pay Q A 0 c) = m at *
    have em := Int.emod_add_mul_ediv m L
    have r0 := Int.emod_nonneg m (show L ≠ 0 by omega)
    have r1 := Int.emod_lt_of_pos m L0
    unfold gr at e
    split at e
    · omega
    · split at e
      · have h5 : 1 ≤ m / L := Int.le_ediv_of_mul_le L0 (by omega)
        have h6 : L * 1 ≤ L * (m / L) := Int.mul_le_mul_of_nonneg_left h5 (by omega)
        omega
      · omega
set_option maxRecDepth 100000 in
set_option maxHeartbeats 4000000 in
theorem greatest_law (Q A L K h c : Int) (w : World) (hQ : I6 Q) (hA : I6 A) (hL : I6 L) (hK : I6 K) (hh : I6 h) :
    Calls Try.prog 4 #[.agg #[.int .i64 Q, .int .i64 A, .int .i64 L, .int .i64 K], .int .i64 h, .int .i64 c] w fun e w' => e = .returned (.bool true) ∧ Below w.heap.size w w' := by
  obtain ⟨W1, hW1⟩ : ∃ W1, w.alloc (.cells #[.int .i64 Q, .int .i64 A, .int .i64 L, .int .i64 K] 22) = W1 := ⟨_, rfl⟩
  have hn := alloc_new w (.cells #[.int .i64 Q, .int .i64 A, .int .i64 L, .int .i64 K] 22)
  rw [hW1] at hn
  have HN := hide hn
  have HB1 : Hid (Below w.heap.size w W1) := hide (by rw [← hW1]; exact (Below.refl _ _).alloc (Nat.le_refl _) _)
  obtain ⟨y0, y1, y2, y3⟩ := four_cells hn rfl
  clear hn
  by_cases bad : badO Q A L K
  · have C := new_bad Q A L K W1 bad
    rw [errV_pos (by decide)] at C
    have HC := hide C
    have ne := ifNeqErr 1
    clear C bad
    go_enter Try.func4, Try.ntmps4
    go_wp2_with fail
    refine HC.out.mono ?_
    rintro e w2 ⟨rfl, hb2⟩
    have HB2 := hide (HB1.out.trans (hb2.mono HB1.out.size))
    clear hb2 hW1
    go_wp2_with fail
    refine (works_any _).mono ?_
    rintro e w3 ⟨rfl, hb3⟩
    go_wp2_with fail
    go_ret
    exact ⟨rfl, HB2.out.trans (hb3.mono HB2.out.size)⟩
  · have ok := Od.fresh_ok bad hQ.2 hA.2 hL.2 hK.2
    have Q0 : 0 < Q := ok.Q0
    have A0 : 0 ≤ A := ok.A0
    have L0 : 0 < L := ok.L0
    have C1 := hide (new_ok Q A L K W1 bad)
    have F := first_q (h := h) (c := c) ok
    have qb := Od.q_bnd ok h c
    have eqm : (Od.mk Q A L K 0 []).m h c = mon Q A 0 ((Od.mk Q A L K 0 []).q h c) := rfl
    have HT := hide (fun g W (H : OB W g ⟨Q, A, L, K, 0, []⟩ (.slice none 0 0)) => take_any g ⟨Q, A, L, K, 0, []⟩ (.slice none 0 0) h c W H ok hh.2 (by show 0 + 1 ≤ 8796093022208; decide))
    obtain ⟨q, hq⟩ : ∃ q, (Od.mk Q A L K 0 []).q h c = q := ⟨_, rfl⟩
    rw [eqm, hq] at HT
    rw [hq] at F
    have q0 : 0 ≤ q := by rw [← hq]; exact qb.1
    have q1 : q ≤ Q := by have := qb.2; rw [hq] at this; have : q ≤ Q - 0 := this; omega
    obtain ⟨m, hm⟩ : ∃ m, mon Q A 0 q = m := ⟨_, rfl⟩
    rw [hm] at HT
    have ml : mon Q A 0 Q = A := by have := mon_left (A := A) (D := 0) Q0; rw [sh_zero] at this; rw [show Q - 0 = Q by omega] at this; omega
    have M1 := hide (fun W => money_good Q A 0 Q W Q0 hQ.2 A0 hA.2 (Int.le_refl _) (by omega) (by omega))
    rw [ml] at M1
    have M2 := hide (fun W => money_good Q A 0 q W Q0 hQ.2 A0 hA.2 (Int.le_refl _) q0 (by omega))
    rw [hm] at M2
    have P1 := hide (fun W => part_any Q L K h W hh.2 hL.2)
    have wn : wrap64 (Q - L) = Q - L := by unfold wrap64; have := hQ.2; have := hL.2; omega
    have n1 : (A != A) = false := by simp
    have n2 : (m == m) = true := by simp
    have n3 : (m != m) = false := by simp
    have n4 : (q != q) = false := by simp
    have ne := ifNeqNil
    have eq := ifEqlNil
    have HF := hide F
    have HOK := hide ok
    have HBD := hide bad
    have HI := hide (And.intro hQ (And.intro hL (And.intro q0 q1)))
    clear bad F qb eqm hq hm ml ok
    go_enter Try.func4, Try.ntmps4
    go_wp2_with fail
    refine C1.out.mono ?_
    rintro e w2 ⟨g, rfl, hg, ho, hb2⟩
    rw [errV_zero]
    have HB2 := hide (HB1.out.trans (hb2.mono HB1.out.size))
    have HN2 := hide (blk_later HN.out hb2)
    have HO2 := hide ho
    have HG := hide (Nat.le_trans (show w.heap.size + 1 ≤ W1.heap.size by rw [← hW1]; simp) hg)
    clear hb2 hW1 y0 y1 y2 y3 HB1 HN ho hg
    go_wp2_with fail
    refine (works_any _).mono ?_
    rintro e w3 ⟨rfl, hb3⟩
    have HB3 := hide (HB2.out.trans (hb3.mono HB2.out.size))
    have HN3 := hide (blk_later HN2.out hb3)
    have HO3 := hide (HO2.out.later hb3)
    clear hb3 HB2 HN2 HO2
    go_wp2_with fail
    refine (HT.out g w3 HO3.out).mono ?_
    rintro e w4 ⟨rfl, p2, hob, hfs, hli⟩
    have HB4 : Hid (Below w.heap.size w w4) := hide ⟨hfs.os.trans HB3.out.os, hfs.tape.trans HB3.out.tape, hfs.output.trans HB3.out.output, Nat.le_trans HB3.out.size hfs.size, fun y hy => (hfs.block y (Nat.lt_of_lt_of_le hy HB3.out.size) (fun x => by
      rcases x with x | x
      · have := HG.out; omega
      · cases x)).trans (HB3.out.block y hy)⟩
    have HN4 := hide ((hfs.block w.heap.size (Array.getElem?_eq_some_iff.1 HN3.out).1 (fun x => by
      rcases x with x | x
      · have := HG.out; omega
      · cases x)).trans HN3.out)
    obtain ⟨z0, z1, z2, z3⟩ := four_cells HN4.out rfl
    clear hob hfs hli HB3 HN3 HO3 HT
    go_wp2_with fail
    refine (M1.out w4).mono ?_
    rintro e w5 ⟨rfl, hb5⟩
    have HB5 := hide (HB4.out.trans (hb5.mono HB4.out.size))
    have HN5 := hide (blk_later HN4.out hb5)
    obtain ⟨y0, y1, y2, y3⟩ := four_cells HN5.out rfl
    clear hb5 HB4 HN4 z0 z1 z2 z3
    have HA2 := hide hA.2
    by_cases a1 : q < Q
    · have g1 : decide (q < Q) = true := decide_eq_true a1
      by_cases a2 : Q ≤ h
      · have g2 : decide (Q ≤ h) = true := decide_eq_true a2
        have NA : ¬ A ≤ c := fun x => by have := HF.out.2.1 a2 x; omega
        by_cases v1 : 0 < q
        · have g4 : decide (0 < q) = true := decide_eq_true v1
          by_cases u1 : A ≤ c
          · exact absurd u1 NA
          · have g5 : decide (A ≤ c) = false := decide_eq_false u1
            by_cases t1 : Q - L ≤ q
            · have g7 : decide (Q - L ≤ q) = true := decide_eq_true t1
              go_wp2_with fail
              refine (M2.out w5).mono ?_
              rintro e w6 ⟨rfl, hb6⟩
              have HB6 := hide (HB5.out.trans (hb6.mono HB5.out.size))
              have HN6 := hide (blk_later HN5.out hb6)
              obtain ⟨y0, y1, y2, y3⟩ := four_cells HN6.out rfl
              clear hb6
              go_wp2_with fail
              go_ret
              exact ⟨rfl, HB6.out⟩
            · have g7 : decide (Q - L ≤ q) = false := decide_eq_false t1
              obtain ⟨nx, hnx⟩ : ∃ x, q + L = x := ⟨_, rfl⟩
              have wx : wrap64 (q + L) = nx := by have := HI.out.1.2; unfold wrap64; omega
              by_cases t2 : nx < K
              · have g8 : decide (nx < K) = true := decide_eq_true t2
                clear hnx
                go_wp2_with fail
                refine (M2.out w5).mono ?_
                rintro e w6 ⟨rfl, hb6⟩
                have HB6 := hide (HB5.out.trans (hb6.mono HB5.out.size))
                have HN6 := hide (blk_later HN5.out hb6)
                obtain ⟨y0, y1, y2, y3⟩ := four_cells HN6.out rfl
                clear hb6
                go_wp2_with fail
                go_ret
                exact ⟨rfl, HB6.out⟩
              · have g8 : decide (nx < K) = false := decide_eq_false t2
                by_cases t3 : h < nx
                · have g9 : decide (h < nx) = true := decide_eq_true t3
                  clear hnx
                  go_wp2_with fail
                  refine (M2.out w5).mono ?_
                  rintro e w6 ⟨rfl, hb6⟩
                  have HB6 := hide (HB5.out.trans (hb6.mono HB5.out.size))
                  have HN6 := hide (blk_later HN5.out hb6)
                  obtain ⟨y0, y1, y2, y3⟩ := four_cells HN6.out rfl
                  clear hb6
                  go_wp2_with fail
                  go_ret
                  exact ⟨rfl, HB6.out⟩
                · have g9 : decide (h < nx) = false := decide_eq_false t3
                  have hlt := HF.out.2.2 (by omega) (by omega) (by omega)
                  rw [hnx] at hlt
                  have M3 := hide (fun W => money_good Q A 0 nx W Q0 HI.out.1.2 A0 HA2.out (Int.le_refl _) (by omega) (by omega))
                  obtain ⟨mx, hmx⟩ : ∃ x, mon Q A 0 nx = x := ⟨_, rfl⟩
                  rw [hmx] at M3 hlt
                  have g10 : decide (c < mx) = true := decide_eq_true hlt
                  clear hnx hmx hlt
                  go_wp2_with fail
                  refine (M2.out w5).mono ?_
                  rintro e w6 ⟨rfl, hb6⟩
                  have HB6 := hide (HB5.out.trans (hb6.mono HB5.out.size))
                  have HN6 := hide (blk_later HN5.out hb6)
                  obtain ⟨y0, y1, y2, y3⟩ := four_cells HN6.out rfl
                  clear hb6
                  go_wp2_with fail
                  refine (M3.out w6).mono ?_
                  rintro e w8 ⟨rfl, hb8⟩
                  have HB8 := hide (HB6.out.trans (hb8.mono HB6.out.size))
                  have HN8 := hide (blk_later HN6.out hb8)
                  obtain ⟨y0, y1, y2, y3⟩ := four_cells HN8.out rfl
                  clear hb8
                  go_wp2_with fail
                  go_ret
                  exact ⟨rfl, HB8.out⟩
        · have g4 : decide (0 < q) = false := decide_eq_false v1
          by_cases u1 : A ≤ c
          · exact absurd u1 NA
          · have g5 : decide (A ≤ c) = false := decide_eq_false u1
            by_cases t1 : Q - L ≤ q
            · have g7 : decide (Q - L ≤ q) = true := decide_eq_true t1
              go_wp2_with fail
              go_ret
              exact ⟨rfl, HB5.out⟩
            · have g7 : decide (Q - L ≤ q) = false := decide_eq_false t1
              obtain ⟨nx, hnx⟩ : ∃ x, q + L = x := ⟨_, rfl⟩
              have wx : wrap64 (q + L) = nx := by have := HI.out.1.2; unfold wrap64; omega
              by_cases t2 : nx < K
              · have g8 : decide (nx < K) = true := decide_eq_true t2
                clear hnx
                go_wp2_with fail
                go_ret
                exact ⟨rfl, HB5.out⟩
              · have g8 : decide (nx < K) = false := decide_eq_false t2
                by_cases t3 : h < nx
                · have g9 : decide (h < nx) = true := decide_eq_true t3
                  clear hnx
                  go_wp2_with fail
                  go_ret
                  exact ⟨rfl, HB5.out⟩
                · have g9 : decide (h < nx) = false := decide_eq_false t3
                  have hlt := HF.out.2.2 (by omega) (by omega) (by omega)
                  rw [hnx] at hlt
                  have M3 := hide (fun W => money_good Q A 0 nx W Q0 HI.out.1.2 A0 HA2.out (Int.le_refl _) (by omega) (by omega))
                  obtain ⟨mx, hmx⟩ : ∃ x, mon Q A 0 nx = x := ⟨_, rfl⟩
                  rw [hmx] at M3 hlt
                  have g10 : decide (c < mx) = true := decide_eq_true hlt
                  clear hnx hmx hlt
                  go_wp2_with fail
                  refine (M3.out w5).mono ?_
                  rintro e w8 ⟨rfl, hb8⟩
                  have HB8 := hide (HB5.out.trans (hb8.mono HB5.out.size))
                  have HN8 := hide (blk_later HN5.out hb8)
                  obtain ⟨y0, y1, y2, y3⟩ := four_cells HN8.out rfl
                  clear hb8
                  go_wp2_with fail
                  go_ret
                  exact ⟨rfl, HB8.out⟩
      · have g2 : decide (Q ≤ h) = false := decide_eq_false a2
        by_cases v1 : 0 < q
        · have g4 : decide (0 < q) = true := decide_eq_true v1
          by_cases u1 : A ≤ c
          · have g5 : decide (A ≤ c) = true := decide_eq_true u1
            by_cases u2 : 0 ≤ h
            · have g6 : decide (0 ≤ h) = true := decide_eq_true u2
              have PX : Hid (∀ W, Calls Try.prog 10 #[.int .i64 Q, .int .i64 L, .int .i64 K, .int .i64 h] W fun e w' => e = .returned (.tuple #[.int .i64 q, .nilIface]) ∧ Below W.heap.size W w') := hide (fun W => by
                have P2 := P1.out W
                have hk : ¬ (Q < 0 ∨ K < 0 ∨ h < 0 ∨ L < 1) := by have := HOK.out.K0; have : 0 ≤ K := this; omega
                rw [← HF.out.1 u1 u2, (ptV_ok hk).2, errV_zero] at P2
                exact P2)
              clear u2
              by_cases t1 : Q - L ≤ q
              · have g7 : decide (Q - L ≤ q) = true := decide_eq_true t1
                go_wp2_with fail
                refine (M2.out w5).mono ?_
                rintro e w6 ⟨rfl, hb6⟩
                have HB6 := hide (HB5.out.trans (hb6.mono HB5.out.size))
                have HN6 := hide (blk_later HN5.out hb6)
                obtain ⟨y0, y1, y2, y3⟩ := four_cells HN6.out rfl
                clear hb6
                go_wp2_with fail
                refine (PX.out w6).mono ?_
                rintro e w7 ⟨rfl, hb7⟩
                have HB7 := hide (HB6.out.trans (hb7.mono HB6.out.size))
                have HN7 := hide (blk_later HN6.out hb7)
                obtain ⟨y0, y1, y2, y3⟩ := four_cells HN7.out rfl
                clear hb7
                go_wp2_with fail
                go_ret
                exact ⟨rfl, HB7.out⟩
              · have g7 : decide (Q - L ≤ q) = false := decide_eq_false t1
                obtain ⟨nx, hnx⟩ : ∃ x, q + L = x := ⟨_, rfl⟩
                have wx : wrap64 (q + L) = nx := by have := HI.out.1.2; unfold wrap64; omega
                by_cases t2 : nx < K
                · have g8 : decide (nx < K) = true := decide_eq_true t2
                  clear hnx
                  go_wp2_with fail
                  refine (M2.out w5).mono ?_
                  rintro e w6 ⟨rfl, hb6⟩
                  have HB6 := hide (HB5.out.trans (hb6.mono HB5.out.size))
                  have HN6 := hide (blk_later HN5.out hb6)
                  obtain ⟨y0, y1, y2, y3⟩ := four_cells HN6.out rfl
                  clear hb6
                  go_wp2_with fail
                  refine (PX.out w6).mono ?_
                  rintro e w7 ⟨rfl, hb7⟩
                  have HB7 := hide (HB6.out.trans (hb7.mono HB6.out.size))
                  have HN7 := hide (blk_later HN6.out hb7)
                  obtain ⟨y0, y1, y2, y3⟩ := four_cells HN7.out rfl
                  clear hb7
                  go_wp2_with fail
                  go_ret
                  exact ⟨rfl, HB7.out⟩
                · have g8 : decide (nx < K) = false := decide_eq_false t2
                  by_cases t3 : h < nx
                  · have g9 : decide (h < nx) = true := decide_eq_true t3
                    clear hnx
                    go_wp2_with fail
                    refine (M2.out w5).mono ?_
                    rintro e w6 ⟨rfl, hb6⟩
                    have HB6 := hide (HB5.out.trans (hb6.mono HB5.out.size))
                    have HN6 := hide (blk_later HN5.out hb6)
                    obtain ⟨y0, y1, y2, y3⟩ := four_cells HN6.out rfl
                    clear hb6
                    go_wp2_with fail
                    refine (PX.out w6).mono ?_
                    rintro e w7 ⟨rfl, hb7⟩
                    have HB7 := hide (HB6.out.trans (hb7.mono HB6.out.size))
                    have HN7 := hide (blk_later HN6.out hb7)
                    obtain ⟨y0, y1, y2, y3⟩ := four_cells HN7.out rfl
                    clear hb7
                    go_wp2_with fail
                    go_ret
                    exact ⟨rfl, HB7.out⟩
                  · have g9 : decide (h < nx) = false := decide_eq_false t3
                    have hlt := HF.out.2.2 (by omega) (by omega) (by omega)
                    rw [hnx] at hlt
                    have M3 := hide (fun W => money_good Q A 0 nx W Q0 HI.out.1.2 A0 HA2.out (Int.le_refl _) (by omega) (by omega))
                    obtain ⟨mx, hmx⟩ : ∃ x, mon Q A 0 nx = x := ⟨_, rfl⟩
                    rw [hmx] at M3 hlt
                    have g10 : decide (c < mx) = true := decide_eq_true hlt
                    clear hnx hmx hlt
                    go_wp2_with fail
                    refine (M2.out w5).mono ?_
                    rintro e w6 ⟨rfl, hb6⟩
                    have HB6 := hide (HB5.out.trans (hb6.mono HB5.out.size))
                    have HN6 := hide (blk_later HN5.out hb6)
                    obtain ⟨y0, y1, y2, y3⟩ := four_cells HN6.out rfl
                    clear hb6
                    go_wp2_with fail
                    refine (PX.out w6).mono ?_
                    rintro e w7 ⟨rfl, hb7⟩
                    have HB7 := hide (HB6.out.trans (hb7.mono HB6.out.size))
                    have HN7 := hide (blk_later HN6.out hb7)
                    obtain ⟨y0, y1, y2, y3⟩ := four_cells HN7.out rfl
                    clear hb7
                    go_wp2_with fail
                    refine (M3.out w7).mono ?_
                    rintro e w8 ⟨rfl, hb8⟩
                    have HB8 := hide (HB7.out.trans (hb8.mono HB7.out.size))
                    have HN8 := hide (blk_later HN7.out hb8)
                    obtain ⟨y0, y1, y2, y3⟩ := four_cells HN8.out rfl
                    clear hb8
                    go_wp2_with fail
                    go_ret
                    exact ⟨rfl, HB8.out⟩
            · have g6 : decide (0 ≤ h) = false := decide_eq_false u2
              clear u2
              by_cases t1 : Q - L ≤ q
              · have g7 : decide (Q - L ≤ q) = true := decide_eq_true t1
                go_wp2_with fail
                refine (M2.out w5).mono ?_
                rintro e w6 ⟨rfl, hb6⟩
                have HB6 := hide (HB5.out.trans (hb6.mono HB5.out.size))
                have HN6 := hide (blk_later HN5.out hb6)
                obtain ⟨y0, y1, y2, y3⟩ := four_cells HN6.out rfl
                clear hb6
                go_wp2_with fail
                go_ret
                exact ⟨rfl, HB6.out⟩
              · have g7 : decide (Q - L ≤ q) = false := decide_eq_false t1
                obtain ⟨nx, hnx⟩ : ∃ x, q + L = x := ⟨_, rfl⟩
                have wx : wrap64 (q + L) = nx := by have := HI.out.1.2; unfold wrap64; omega
                by_cases t2 : nx < K
                · have g8 : decide (nx < K) = true := decide_eq_true t2
                  clear hnx
                  go_wp2_with fail
                  refine (M2.out w5).mono ?_
                  rintro e w6 ⟨rfl, hb6⟩
                  have HB6 := hide (HB5.out.trans (hb6.mono HB5.out.size))
                  have HN6 := hide (blk_later HN5.out hb6)
                  obtain ⟨y0, y1, y2, y3⟩ := four_cells HN6.out rfl
                  clear hb6
                  go_wp2_with fail
                  go_ret
                  exact ⟨rfl, HB6.out⟩
                · have g8 : decide (nx < K) = false := decide_eq_false t2
                  by_cases t3 : h < nx
                  · have g9 : decide (h < nx) = true := decide_eq_true t3
                    clear hnx
                    go_wp2_with fail
                    refine (M2.out w5).mono ?_
                    rintro e w6 ⟨rfl, hb6⟩
                    have HB6 := hide (HB5.out.trans (hb6.mono HB5.out.size))
                    have HN6 := hide (blk_later HN5.out hb6)
                    obtain ⟨y0, y1, y2, y3⟩ := four_cells HN6.out rfl
                    clear hb6
                    go_wp2_with fail
                    go_ret
                    exact ⟨rfl, HB6.out⟩
                  · have g9 : decide (h < nx) = false := decide_eq_false t3
                    have hlt := HF.out.2.2 (by omega) (by omega) (by omega)
                    rw [hnx] at hlt
                    have M3 := hide (fun W => money_good Q A 0 nx W Q0 HI.out.1.2 A0 HA2.out (Int.le_refl _) (by omega) (by omega))
                    obtain ⟨mx, hmx⟩ : ∃ x, mon Q A 0 nx = x := ⟨_, rfl⟩
                    rw [hmx] at M3 hlt
                    have g10 : decide (c < mx) = true := decide_eq_true hlt
                    clear hnx hmx hlt
                    go_wp2_with fail
                    refine (M2.out w5).mono ?_
                    rintro e w6 ⟨rfl, hb6⟩
                    have HB6 := hide (HB5.out.trans (hb6.mono HB5.out.size))
                    have HN6 := hide (blk_later HN5.out hb6)
                    obtain ⟨y0, y1, y2, y3⟩ := four_cells HN6.out rfl
                    clear hb6
                    go_wp2_with fail
                    refine (M3.out w6).mono ?_
                    rintro e w8 ⟨rfl, hb8⟩
                    have HB8 := hide (HB6.out.trans (hb8.mono HB6.out.size))
                    have HN8 := hide (blk_later HN6.out hb8)
                    obtain ⟨y0, y1, y2, y3⟩ := four_cells HN8.out rfl
                    clear hb8
                    go_wp2_with fail
                    go_ret
                    exact ⟨rfl, HB8.out⟩
          · have g5 : decide (A ≤ c) = false := decide_eq_false u1
            by_cases t1 : Q - L ≤ q
            · have g7 : decide (Q - L ≤ q) = true := decide_eq_true t1
              go_wp2_with fail
              refine (M2.out w5).mono ?_
              rintro e w6 ⟨rfl, hb6⟩
              have HB6 := hide (HB5.out.trans (hb6.mono HB5.out.size))
              have HN6 := hide (blk_later HN5.out hb6)
              obtain ⟨y0, y1, y2, y3⟩ := four_cells HN6.out rfl
              clear hb6
              go_wp2_with fail
              go_ret
              exact ⟨rfl, HB6.out⟩
            · have g7 : decide (Q - L ≤ q) = false := decide_eq_false t1
              obtain ⟨nx, hnx⟩ : ∃ x, q + L = x := ⟨_, rfl⟩
              have wx : wrap64 (q + L) = nx := by have := HI.out.1.2; unfold wrap64; omega
              by_cases t2 : nx < K
              · have g8 : decide (nx < K) = true := decide_eq_true t2
                clear hnx
                go_wp2_with fail
                refine (M2.out w5).mono ?_
                rintro e w6 ⟨rfl, hb6⟩
                have HB6 := hide (HB5.out.trans (hb6.mono HB5.out.size))
                have HN6 := hide (blk_later HN5.out hb6)
                obtain ⟨y0, y1, y2, y3⟩ := four_cells HN6.out rfl
                clear hb6
                go_wp2_with fail
                go_ret
                exact ⟨rfl, HB6.out⟩
              · have g8 : decide (nx < K) = false := decide_eq_false t2
                by_cases t3 : h < nx
                · have g9 : decide (h < nx) = true := decide_eq_true t3
                  clear hnx
                  go_wp2_with fail
                  refine (M2.out w5).mono ?_
                  rintro e w6 ⟨rfl, hb6⟩
                  have HB6 := hide (HB5.out.trans (hb6.mono HB5.out.size))
                  have HN6 := hide (blk_later HN5.out hb6)
                  obtain ⟨y0, y1, y2, y3⟩ := four_cells HN6.out rfl
                  clear hb6
                  go_wp2_with fail
                  go_ret
                  exact ⟨rfl, HB6.out⟩
                · have g9 : decide (h < nx) = false := decide_eq_false t3
                  have hlt := HF.out.2.2 (by omega) (by omega) (by omega)
                  rw [hnx] at hlt
                  have M3 := hide (fun W => money_good Q A 0 nx W Q0 HI.out.1.2 A0 HA2.out (Int.le_refl _) (by omega) (by omega))
                  obtain ⟨mx, hmx⟩ : ∃ x, mon Q A 0 nx = x := ⟨_, rfl⟩
                  rw [hmx] at M3 hlt
                  have g10 : decide (c < mx) = true := decide_eq_true hlt
                  clear hnx hmx hlt
                  go_wp2_with fail
                  refine (M2.out w5).mono ?_
                  rintro e w6 ⟨rfl, hb6⟩
                  have HB6 := hide (HB5.out.trans (hb6.mono HB5.out.size))
                  have HN6 := hide (blk_later HN5.out hb6)
                  obtain ⟨y0, y1, y2, y3⟩ := four_cells HN6.out rfl
                  clear hb6
                  go_wp2_with fail
                  refine (M3.out w6).mono ?_
                  rintro e w8 ⟨rfl, hb8⟩
                  have HB8 := hide (HB6.out.trans (hb8.mono HB6.out.size))
                  have HN8 := hide (blk_later HN6.out hb8)
                  obtain ⟨y0, y1, y2, y3⟩ := four_cells HN8.out rfl
                  clear hb8
                  go_wp2_with fail
                  go_ret
                  exact ⟨rfl, HB8.out⟩
        · have g4 : decide (0 < q) = false := decide_eq_false v1
          by_cases u1 : A ≤ c
          · have g5 : decide (A ≤ c) = true := decide_eq_true u1
            by_cases u2 : 0 ≤ h
            · have g6 : decide (0 ≤ h) = true := decide_eq_true u2
              have PX : Hid (∀ W, Calls Try.prog 10 #[.int .i64 Q, .int .i64 L, .int .i64 K, .int .i64 h] W fun e w' => e = .returned (.tuple #[.int .i64 q, .nilIface]) ∧ Below W.heap.size W w') := hide (fun W => by
                have P2 := P1.out W
                have hk : ¬ (Q < 0 ∨ K < 0 ∨ h < 0 ∨ L < 1) := by have := HOK.out.K0; have : 0 ≤ K := this; omega
                rw [← HF.out.1 u1 u2, (ptV_ok hk).2, errV_zero] at P2
                exact P2)
              clear u2
              by_cases t1 : Q - L ≤ q
              · have g7 : decide (Q - L ≤ q) = true := decide_eq_true t1
                go_wp2_with fail
                refine (PX.out w5).mono ?_
                rintro e w7 ⟨rfl, hb7⟩
                have HB7 := hide (HB5.out.trans (hb7.mono HB5.out.size))
                have HN7 := hide (blk_later HN5.out hb7)
                obtain ⟨y0, y1, y2, y3⟩ := four_cells HN7.out rfl
                clear hb7
                go_wp2_with fail
                go_ret
                exact ⟨rfl, HB7.out⟩
              · have g7 : decide (Q - L ≤ q) = false := decide_eq_false t1
                obtain ⟨nx, hnx⟩ : ∃ x, q + L = x := ⟨_, rfl⟩
                have wx : wrap64 (q + L) = nx := by have := HI.out.1.2; unfold wrap64; omega
                by_cases t2 : nx < K
                · have g8 : decide (nx < K) = true := decide_eq_true t2
                  clear hnx
                  go_wp2_with fail
                  refine (PX.out w5).mono ?_
                  rintro e w7 ⟨rfl, hb7⟩
                  have HB7 := hide (HB5.out.trans (hb7.mono HB5.out.size))
                  have HN7 := hide (blk_later HN5.out hb7)
                  obtain ⟨y0, y1, y2, y3⟩ := four_cells HN7.out rfl
                  clear hb7
                  go_wp2_with fail
                  go_ret
                  exact ⟨rfl, HB7.out⟩
                · have g8 : decide (nx < K) = false := decide_eq_false t2
                  by_cases t3 : h < nx
                  · have g9 : decide (h < nx) = true := decide_eq_true t3
                    clear hnx
                    go_wp2_with fail
                    refine (PX.out w5).mono ?_
                    rintro e w7 ⟨rfl, hb7⟩
                    have HB7 := hide (HB5.out.trans (hb7.mono HB5.out.size))
                    have HN7 := hide (blk_later HN5.out hb7)
                    obtain ⟨y0, y1, y2, y3⟩ := four_cells HN7.out rfl
                    clear hb7
                    go_wp2_with fail
                    go_ret
                    exact ⟨rfl, HB7.out⟩
                  · have g9 : decide (h < nx) = false := decide_eq_false t3
                    have hlt := HF.out.2.2 (by omega) (by omega) (by omega)
                    rw [hnx] at hlt
                    have M3 := hide (fun W => money_good Q A 0 nx W Q0 HI.out.1.2 A0 HA2.out (Int.le_refl _) (by omega) (by omega))
                    obtain ⟨mx, hmx⟩ : ∃ x, mon Q A 0 nx = x := ⟨_, rfl⟩
                    rw [hmx] at M3 hlt
                    have g10 : decide (c < mx) = true := decide_eq_true hlt
                    clear hnx hmx hlt
                    go_wp2_with fail
                    refine (PX.out w5).mono ?_
                    rintro e w7 ⟨rfl, hb7⟩
                    have HB7 := hide (HB5.out.trans (hb7.mono HB5.out.size))
                    have HN7 := hide (blk_later HN5.out hb7)
                    obtain ⟨y0, y1, y2, y3⟩ := four_cells HN7.out rfl
                    clear hb7
                    go_wp2_with fail
                    refine (M3.out w7).mono ?_
                    rintro e w8 ⟨rfl, hb8⟩
                    have HB8 := hide (HB7.out.trans (hb8.mono HB7.out.size))
                    have HN8 := hide (blk_later HN7.out hb8)
                    obtain ⟨y0, y1, y2, y3⟩ := four_cells HN8.out rfl
                    clear hb8
                    go_wp2_with fail
                    go_ret
                    exact ⟨rfl, HB8.out⟩
            · have g6 : decide (0 ≤ h) = false := decide_eq_false u2
              clear u2
              by_cases t1 : Q - L ≤ q
              · have g7 : decide (Q - L ≤ q) = true := decide_eq_true t1
                go_wp2_with fail
                go_ret
                exact ⟨rfl, HB5.out⟩
              · have g7 : decide (Q - L ≤ q) = false := decide_eq_false t1
                obtain ⟨nx, hnx⟩ : ∃ x, q + L = x := ⟨_, rfl⟩
                have wx : wrap64 (q + L) = nx := by have := HI.out.1.2; unfold wrap64; omega
                by_cases t2 : nx < K
                · have g8 : decide (nx < K) = true := decide_eq_true t2
                  clear hnx
                  go_wp2_with fail
                  go_ret
                  exact ⟨rfl, HB5.out⟩
                · have g8 : decide (nx < K) = false := decide_eq_false t2
                  by_cases t3 : h < nx
                  · have g9 : decide (h < nx) = true := decide_eq_true t3
                    clear hnx
                    go_wp2_with fail
                    go_ret
                    exact ⟨rfl, HB5.out⟩
                  · have g9 : decide (h < nx) = false := decide_eq_false t3
                    have hlt := HF.out.2.2 (by omega) (by omega) (by omega)
                    rw [hnx] at hlt
                    have M3 := hide (fun W => money_good Q A 0 nx W Q0 HI.out.1.2 A0 HA2.out (Int.le_refl _) (by omega) (by omega))
                    obtain ⟨mx, hmx⟩ : ∃ x, mon Q A 0 nx = x := ⟨_, rfl⟩
                    rw [hmx] at M3 hlt
                    have g10 : decide (c < mx) = true := decide_eq_true hlt
                    clear hnx hmx hlt
                    go_wp2_with fail
                    refine (M3.out w5).mono ?_
                    rintro e w8 ⟨rfl, hb8⟩
                    have HB8 := hide (HB5.out.trans (hb8.mono HB5.out.size))
                    have HN8 := hide (blk_later HN5.out hb8)
                    obtain ⟨y0, y1, y2, y3⟩ := four_cells HN8.out rfl
                    clear hb8
                    go_wp2_with fail
                    go_ret
                    exact ⟨rfl, HB8.out⟩
          · have g5 : decide (A ≤ c) = false := decide_eq_false u1
            by_cases t1 : Q - L ≤ q
            · have g7 : decide (Q - L ≤ q) = true := decide_eq_true t1
              go_wp2_with fail
              go_ret
              exact ⟨rfl, HB5.out⟩
            · have g7 : decide (Q - L ≤ q) = false := decide_eq_false t1
              obtain ⟨nx, hnx⟩ : ∃ x, q + L = x := ⟨_, rfl⟩
              have wx : wrap64 (q + L) = nx := by have := HI.out.1.2; unfold wrap64; omega
              by_cases t2 : nx < K
              · have g8 : decide (nx < K) = true := decide_eq_true t2
                clear hnx
                go_wp2_with fail
                go_ret
                exact ⟨rfl, HB5.out⟩
              · have g8 : decide (nx < K) = false := decide_eq_false t2
                by_cases t3 : h < nx
                · have g9 : decide (h < nx) = true := decide_eq_true t3
                  clear hnx
                  go_wp2_with fail
                  go_ret
                  exact ⟨rfl, HB5.out⟩
                · have g9 : decide (h < nx) = false := decide_eq_false t3
                  have hlt := HF.out.2.2 (by omega) (by omega) (by omega)
                  rw [hnx] at hlt
                  have M3 := hide (fun W => money_good Q A 0 nx W Q0 HI.out.1.2 A0 HA2.out (Int.le_refl _) (by omega) (by omega))
                  obtain ⟨mx, hmx⟩ : ∃ x, mon Q A 0 nx = x := ⟨_, rfl⟩
                  rw [hmx] at M3 hlt
                  have g10 : decide (c < mx) = true := decide_eq_true hlt
                  clear hnx hmx hlt
                  go_wp2_with fail
                  refine (M3.out w5).mono ?_
                  rintro e w8 ⟨rfl, hb8⟩
                  have HB8 := hide (HB5.out.trans (hb8.mono HB5.out.size))
                  have HN8 := hide (blk_later HN5.out hb8)
                  obtain ⟨y0, y1, y2, y3⟩ := four_cells HN8.out rfl
                  clear hb8
                  go_wp2_with fail
                  go_ret
                  exact ⟨rfl, HB8.out⟩
    · have g1 : decide (q < Q) = false := decide_eq_false a1
      have g4 : decide (0 < q) = true := decide_eq_true (by omega)
      have g7 : decide (Q - L ≤ q) = true := decide_eq_true (by omega)
      by_cases u1 : A ≤ c
      · have g5 : decide (A ≤ c) = true := decide_eq_true u1
        by_cases u2 : 0 ≤ h
        · have g6 : decide (0 ≤ h) = true := decide_eq_true u2
          have PX : Hid (∀ W, Calls Try.prog 10 #[.int .i64 Q, .int .i64 L, .int .i64 K, .int .i64 h] W fun e w' => e = .returned (.tuple #[.int .i64 q, .nilIface]) ∧ Below W.heap.size W w') := hide (fun W => by
            have P2 := P1.out W
            have hk : ¬ (Q < 0 ∨ K < 0 ∨ h < 0 ∨ L < 1) := by have := HOK.out.K0; have : 0 ≤ K := this; omega
            rw [← HF.out.1 u1 u2, (ptV_ok hk).2, errV_zero] at P2
            exact P2)
          clear u2
          go_wp2_with fail
          refine (M2.out w5).mono ?_
          rintro e w6 ⟨rfl, hb6⟩
          have HB6 := hide (HB5.out.trans (hb6.mono HB5.out.size))
          have HN6 := hide (blk_later HN5.out hb6)
          obtain ⟨y0, y1, y2, y3⟩ := four_cells HN6.out rfl
          clear hb6
          go_wp2_with fail
          refine (PX.out w6).mono ?_
          rintro e w7 ⟨rfl, hb7⟩
          have HB7 := hide (HB6.out.trans (hb7.mono HB6.out.size))
          have HN7 := hide (blk_later HN6.out hb7)
          obtain ⟨y0, y1, y2, y3⟩ := four_cells HN7.out rfl
          clear hb7
          go_wp2_with fail
          go_ret
          exact ⟨rfl, HB7.out⟩
        · have g6 : decide (0 ≤ h) = false := decide_eq_false u2
          clear u2
          go_wp2_with fail
          refine (M2.out w5).mono ?_
          rintro e w6 ⟨rfl, hb6⟩
          have HB6 := hide (HB5.out.trans (hb6.mono HB5.out.size))
          have HN6 := hide (blk_later HN5.out hb6)
          obtain ⟨y0, y1, y2, y3⟩ := four_cells HN6.out rfl
          clear hb6
          go_wp2_with fail
          go_ret
          exact ⟨rfl, HB6.out⟩
      · have g5 : decide (A ≤ c) = false := decide_eq_false u1
        go_wp2_with fail
        refine (M2.out w5).mono ?_
        rintro e w6 ⟨rfl, hb6⟩
        have HB6 := hide (HB5.out.trans (hb6.mono HB5.out.size))
        have HN6 := hide (blk_later HN5.out hb6)
        obtain ⟨y0, y1, y2, y3⟩ := four_cells HN6.out rfl
        clear hb6
        go_wp2_with fail
        go_ret
        exact ⟨rfl, HB6.out⟩
end Go.Proofs.Ytmojckejjjlkjab
