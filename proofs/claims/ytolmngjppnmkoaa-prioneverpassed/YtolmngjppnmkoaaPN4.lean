/-
  My own text: the law PrioNeverPassed (printed by mkpn4.py).
-/
import Derived.Test.YtolmngjppnmkoaaPN5
import Derived.Test.YtolmngjppnmkoaaPB4
namespace Go.Proofs.Ytolmngjppnmkoaa
open Go.RowKit

set_option maxRecDepth 100000 in
set_option maxHeartbeats 40000000 in
theorem never_law (v : Value) (L : List A4) (w : World) (h : RA w v L) (hlen : L.length ≤ 5864062014800) :
    Calls Try.prog 6 #[v] w fun e w' => e = .returned (.bool true) ∧ Below w.heap.size w w' := by
  have HLE := hide hlen
  obtain ⟨a, cap, rfl, hc⟩ := h
  obtain ⟨n, hn⟩ : ∃ n, Hid (L.length = n) := ⟨_, hide rfl⟩
  rw [hn.out]
  have HC := hide hc
  have HNL : Hid (n ≤ 5864062014800) := hide (by rw [← hn.out]; exact hlen)
  have HN1 := hide (newQ 13 kR w)
  clear hc hlen
  go_enter Try.func6, Try.ntmps6
  go_wp2_with fail
  refine HN1.out.mono ?_
  rintro e w1 ⟨rfl, h1, b1⟩
  have HWK := hide (works_any w1)
  have H1 := hide h1
  have B1 := hide b1
  clear h1 b1 HN1
  go_wp2_with fail
  refine HWK.out.mono ?_
  rintro e w2 ⟨rfl, b2⟩
  have H2 : Hid (Ns w w2 (.slice none 0 0) (.slice none 0 0) [] 0 0) := hide ⟨H1.out.later b2, OV.nil _ _ _ _, ⟨List.Pairwise.nil, fun e he => by cases he⟩, Nat.le_refl _, B1.out.trans (b2.mono B1.out.size)⟩
  clear b2 HWK H1 B1
  go_wp2_with fail
  go_loopw [4, 5] (fun vt i wr => ∃ (t N : Nat) (v : Value) (R : List En), i = .int .i64 (t : Int) ∧ t ≤ n ∧ Hid (Ns w wr v vt R N t)) (fun _ i _ => n - (intOf i).toNat)
  case atStart => exact ⟨0, 0, _, [], rfl, by omega, H2⟩
  case round =>
    obtain ⟨t, N, v, R, rfl, ht, HR⟩ := hrel
    by_cases htn : t < n
    · have d1 : decide ((t : Int) < (n : Int)) = true := by rw [decide_eq_true_eq]; omega
      have k0 : (0 : Int) ≤ (t : Int) := by omega
      have k1 : (t : Int) < (n : Int) := by omega
      have wt : wrap64 ((t : Int) + 1) = (t : Int) + 1 := wrap_up htn (by have := HNL.out; omega)
      obtain ⟨⟨so, sk, sa, sb⟩, hs⟩ : ∃ s, L[t]? = some s := ⟨_, List.getElem?_eq_getElem (by rw [hn.out]; exact htn)⟩
      obtain ⟨b, off, rfl, hbl, hc⟩ := HC.out.resolve_left (fun e => by rw [e] at hs; simp at hs)
      have hcs := hc t _ hs
      have q0 := (HR.out.bl.cell (p := ⟨b, _, none⟩) hbl).trans hcs.1
      have q1 : wr.cell? ⟨b, off + (t * 4 + 1), none⟩ = some (.int .i64 sk) := (HR.out.bl.cell (p := ⟨b, _, none⟩) hbl).trans hcs.2.1
      have q2 : wr.cell? ⟨b, off + (t * 4 + 2), none⟩ = some (.int .i64 sa) := (HR.out.bl.cell (p := ⟨b, _, none⟩) hbl).trans hcs.2.2.1
      have q3 : wr.cell? ⟨b, off + (t * 4 + 3), none⟩ = some (.int .i64 sb) := (HR.out.bl.cell (p := ⟨b, _, none⟩) hbl).trans hcs.2.2.2
      have q1' : wr.cell? ⟨b, off + t * 4 + 1, none⟩ = some (.int .i64 sk) := q1
      have q2' : wr.cell? ⟨b, off + t * 4 + 2, none⟩ = some (.int .i64 sa) := q2
      have q3' : wr.cell? ⟨b, off + t * 4 + 3, none⟩ = some (.int .i64 sb) := q3
      clear hc hcs hbl hs
      obtain ⟨ta, tc, hvt⟩ := HR.out.r.slc
      obtain ⟨m, hm⟩ : ∃ m, Hid (R.length = m) := ⟨_, hide rfl⟩
      rw [List.length_map, hm.out] at hvt
      subst hvt
      by_cases hk1 : sk = 1
      · subst hk1
        obtain ⟨W1, hW1⟩ : ∃ W, Hid (wr.alloc (zA so 1 sa sb) = W) := ⟨_, hide rfl⟩
        have HB1 : Hid (Below wr.heap.size wr W1) := hide (by rw [← hW1.out]; exact (Below.refl _ _).alloc (Nat.le_refl _) _)
        have HX1 : Hid (W1.heap[wr.heap.size]? = some (zA so 1 sa sb)) := hide (by rw [← hW1.out]; exact alloc_new wr _)
        have HR1 := hide (HR.out.later HB1.out)
        have HP := hide (pushQ rises_ok (sa, (t : Int)) HR1.out.q (by have := HR1.out.nt; have := HNL.out; omega))
        unfold pv at HP
        dsimp only at HP
        go_wp2_with fail
        rw [hW1.out]
        clear q0 q1 q2 q3 q1' q2' q3'
        refine HP.out.mono ?_
        rintro e w3 ⟨⟨u, rfl⟩, v3, h3, f3⟩
        have x3 := blk_keepq HR1.out.q f3 HX1.out (by decide) (by decide)
        have u3 : w3.cell? ⟨wr.heap.size, 2, none⟩ = some (.int .i64 sa) := by rw [cell_of_row _ _ 2 _ _ _ x3]; rfl
        have HO3 := hide (HR1.out.r.keepq HR1.out.q f3)
        have H3 := hide h3
        have F3 := hide f3
        have HS3 : Hid (w.heap.size ≤ w3.heap.size) := hide (HR1.out.bl.trans (HR1.out.q.below f3)).size
        clear h3 f3 x3 HP
        go_wp2_with (at_builtin; refine wp_append_ov _ w.heap.size rfl _ _ rfl _ _ rfl (HO3.out.later ((Below.refl _ _).alloc (Nat.le_refl _) _)) _ (sa, (t : Int)) rfl (alloc_new _ _) (by rw [List.length_map]; have := HR1.out.len; have := HNL.out; omega) (by have := HS3.out; simp; omega) ?_; intro v5 w5 r1 r2; have HF := hide (HR1.out.push H3.out F3.out r1 r2); clear r1 r2)
        go_roundw
        case rel => exact ⟨t + 1, _, _, _, by first | rfl | (rw [wt]; rfl), htn, HF⟩
        case measure => first | exact meas_lt htn | (rw [wt]; exact meas_lt htn)
      · have e1 : (sk == 1) = false := by rw [beq_eq_false_iff_ne]; exact hk1
        have e1' : decide (sk = 1) = false := decide_eq_false hk1
        by_cases hk2 : 4 < sk
        · have e2 : decide (4 < sk) = true := decide_eq_true hk2
          obtain ⟨W1, hW1⟩ : ∃ W, Hid (wr.alloc (zA so sk sa sb) = W) := ⟨_, hide rfl⟩
          have HB1 : Hid (Below wr.heap.size wr W1) := hide (by rw [← hW1.out]; exact (Below.refl _ _).alloc (Nat.le_refl _) _)
          have HX1 : Hid (W1.heap[wr.heap.size]? = some (zA so sk sa sb)) := hide (by rw [← hW1.out]; exact alloc_new wr _)
          have HR1 := hide (HR.out.later HB1.out)
          have HP := hide (pushQ rises_ok (sa, (t : Int)) HR1.out.q (by have := HR1.out.nt; have := HNL.out; omega))
          unfold pv at HP
          dsimp only at HP
          go_wp2_with fail
          rw [hW1.out]
          clear q0 q1 q2 q3 q1' q2' q3'
          refine HP.out.mono ?_
          rintro e w3 ⟨⟨u, rfl⟩, v3, h3, f3⟩
          have x3 := blk_keepq HR1.out.q f3 HX1.out (by decide) (by decide)
          have u3 : w3.cell? ⟨wr.heap.size, 2, none⟩ = some (.int .i64 sa) := by rw [cell_of_row _ _ 2 _ _ _ x3]; rfl
          have HO3 := hide (HR1.out.r.keepq HR1.out.q f3)
          have H3 := hide h3
          have F3 := hide f3
          have HS3 : Hid (w.heap.size ≤ w3.heap.size) := hide (HR1.out.bl.trans (HR1.out.q.below f3)).size
          clear h3 f3 x3 HP
          go_wp2_with (at_builtin; refine wp_append_ov _ w.heap.size rfl _ _ rfl _ _ rfl (HO3.out.later ((Below.refl _ _).alloc (Nat.le_refl _) _)) _ (sa, (t : Int)) rfl (alloc_new _ _) (by rw [List.length_map]; have := HR1.out.len; have := HNL.out; omega) (by have := HS3.out; simp; omega) ?_; intro v5 w5 r1 r2; have HF := hide (HR1.out.push H3.out F3.out r1 r2); clear r1 r2)
          go_roundw
          case rel => exact ⟨t + 1, _, _, _, by first | rfl | (rw [wt]; rfl), htn, HF⟩
          case measure => first | exact meas_lt htn | (rw [wt]; exact meas_lt htn)
        · have e2 : decide (4 < sk) = false := decide_eq_false hk2
          by_cases hk3 : sk < 0
          · have e3 : decide (sk < 0) = true := decide_eq_true hk3
            obtain ⟨W1, hW1⟩ : ∃ W, Hid (wr.alloc (zA so sk sa sb) = W) := ⟨_, hide rfl⟩
            have HB1 : Hid (Below wr.heap.size wr W1) := hide (by rw [← hW1.out]; exact (Below.refl _ _).alloc (Nat.le_refl _) _)
            have HX1 : Hid (W1.heap[wr.heap.size]? = some (zA so sk sa sb)) := hide (by rw [← hW1.out]; exact alloc_new wr _)
            have HR1 := hide (HR.out.later HB1.out)
            have HP := hide (pushQ rises_ok (sa, (t : Int)) HR1.out.q (by have := HR1.out.nt; have := HNL.out; omega))
            unfold pv at HP
            dsimp only at HP
            go_wp2_with fail
            rw [hW1.out]
            clear q0 q1 q2 q3 q1' q2' q3'
            refine HP.out.mono ?_
            rintro e w3 ⟨⟨u, rfl⟩, v3, h3, f3⟩
            have x3 := blk_keepq HR1.out.q f3 HX1.out (by decide) (by decide)
            have u3 : w3.cell? ⟨wr.heap.size, 2, none⟩ = some (.int .i64 sa) := by rw [cell_of_row _ _ 2 _ _ _ x3]; rfl
            have HO3 := hide (HR1.out.r.keepq HR1.out.q f3)
            have H3 := hide h3
            have F3 := hide f3
            have HS3 : Hid (w.heap.size ≤ w3.heap.size) := hide (HR1.out.bl.trans (HR1.out.q.below f3)).size
            clear h3 f3 x3 HP
            go_wp2_with (at_builtin; refine wp_append_ov _ w.heap.size rfl _ _ rfl _ _ rfl (HO3.out.later ((Below.refl _ _).alloc (Nat.le_refl _) _)) _ (sa, (t : Int)) rfl (alloc_new _ _) (by rw [List.length_map]; have := HR1.out.len; have := HNL.out; omega) (by have := HS3.out; simp; omega) ?_; intro v5 w5 r1 r2; have HF := hide (HR1.out.push H3.out F3.out r1 r2); clear r1 r2)
            go_roundw
            case rel => exact ⟨t + 1, _, _, _, by first | rfl | (rw [wt]; rfl), htn, HF⟩
            case measure => first | exact meas_lt htn | (rw [wt]; exact meas_lt htn)
          · have e3 : decide (sk < 0) = false := decide_eq_false hk3
            clear hk1 hk2 hk3
            by_cases hk3 : sk = 3
            · subst hk3
              obtain ⟨W3, hW3⟩ : ∃ W, Hid (((wr.alloc (zA so 3 sa sb)).alloc (.cells #[.int .i64 sa] 3)).alloc zPr = W) := ⟨_, hide rfl⟩
              obtain ⟨b3, x3, y3, g3⟩ := three_alloc wr (zA so 3 sa sb) (.cells #[.int .i64 sa] 3) zPr
              rw [hW3.out] at b3 x3 y3 g3
              have HB3 := hide b3
              have HX3 := hide x3
              have HY3 := hide y3
              have HG3 := hide g3
              clear b3 x3 y3 g3
              have HR3 := hide (HR.out.later HB3.out)
              have HNN : Hid (N ≤ 5864062014805) := hide (by have := HR.out.nt; have := HNL.out; omega)
              cases hMN : mn kR (wants 3 sa) R with
              | none =>
                have HMN := hide hMN
                have HP := hide (removeQ rises_ok (take_ok so 3 sa sb sa wr.heap.size (wr.heap.size + 1) W3 HX3.out HY3.out) HR3.out.q HNN.out)
                rw [hMN] at HP
                unfold pv ans nx at HP
                dsimp only at HP
                clear hMN
                go_wp2_with fail
                rw [hW3.out]
                clear q0 q1 q2 q3 q1' q2' q3'
                refine HP.out.mono ?_
                rintro e w4 ⟨rfl, v4, h4, f4⟩
                obtain ⟨g4, nb4⟩ := Nb.of HR.out HB3.out HX3.out HY3.out HG3.out h4 f4 0 0
                have HG4 := hide g4
                have HN5 := hide nb4
                obtain ⟨W5, hW5⟩ : ∃ W, Hid (w4.setRow (wr.heap.size + 1 + 1) #[.int .i64 0, .int .i64 0] = W) := ⟨_, hide rfl⟩
                rw [hW5.out] at HN5
                clear h4 f4 g4 nb4 HP
                go_wp2_with (refine wpList_store_row rfl 33 _ _ rfl (wr.heap.size + 1 + 1) #[.int .i64 0, .int .i64 0] rfl rfl _ _ HG4.out Try.sizePr rfl (by simp [Value.oneCell']) ?_; rw [hW5.out])
                obtain ⟨xb, hxb⟩ : ∃ xb, wr.heap.size = xb := ⟨_, rfl⟩
                rw [hxb] at HN5 ⊢
                clear HB3 HX3 HY3 HG3 hW3 HG4 hW5
                go_loopw [11, 12] (fun at_ i wr => ∃ (k : Nat) (z : Int), i = .int .i64 (k : Int) ∧ at_ = .int .i64 z ∧ k ≤ m ∧ Hid (Below W5.heap.size W5 wr)) (fun _ i _ => m - (intOf i).toNat)
                case atStart => exact ⟨0, -1, rfl, rfl, by omega, hide (Below.refl _ _)⟩
                case round =>
                  obtain ⟨k, z, rfl, rfl, hk, HB6⟩ := hrel
                  by_cases hkm : k < m
                  · have d2 : decide ((k : Int) < (m : Int)) = true := by rw [decide_eq_true_eq]; omega
                    have k2 : (0 : Int) ≤ (k : Int) := by omega
                    have k3 : (k : Int) < (m : Int) := by omega
                    have wk : wrap64 ((k : Int) + 1) = (k : Int) + 1 := wrap_up hkm (by have := hm.out; have := HR.out.len; have := HNL.out; omega)
                    obtain ⟨⟨⟨c1, c2⟩, cn⟩, he⟩ : ∃ e, R[k]? = some e := ⟨_, List.getElem?_eq_getElem (by rw [hm.out]; exact hkm)⟩
                    have HE := hide he
                    obtain ⟨tg, toff, hta, hrest⟩ := HN5.out.r.ptr (by rw [List.length_map, hm.out]; omega)
                    clear hrest
                    subst hta
                    have hN6 := HN5.out.later HB6.out
                    obtain ⟨y0, y1⟩ := hN6.r.cells (j := k) (p := (c1, c2)) (by rw [List.getElem?_map, he]; rfl)
                    dsimp only at y0 y1
                    obtain ⟨g0, g1⟩ := cells2 hN6.g
                    have ev := eqMk c1 c2 0 0
                    clear he hN6
                    cases hE : (c1 == 0 && c2 == 0) with
                    | true =>
                      rw [hE] at ev
                      clear hE HE
                      go_wp2_with fail
                      go_quiet (fail)
                      have HB7 := hide (below_dq HB6.out nq)
                      clear ev y0 y1 g0 g1
                      go_wp2_with fail
                      go_roundw
                      case rel => exact ⟨k + 1, (k : Int), by first | rfl | (rw [wk]; rfl), rfl, hkm, HB7⟩
                      case measure => first | exact meas_lt hkm | (rw [wk]; exact meas_lt hkm)
                    | false =>
                      rw [hE] at ev
                      clear hE HE
                      go_wp2_with fail
                      go_quiet (fail)
                      have HB7 := hide (below_dq HB6.out nq)
                      clear ev y0 y1 g0 g1
                      go_wp2_with fail
                      go_roundw
                      case rel => exact ⟨k + 1, z, by first | rfl | (rw [wk]; rfl), rfl, hkm, HB7⟩
                      case measure => first | exact meas_lt hkm | (rw [wk]; exact meas_lt hkm)
                  · have d2 : decide ((k : Int) < (m : Int)) = false := by rw [decide_eq_false_iff_not]; omega
                    have HN6 := hide (HN5.out.later HB6.out)
                    clear HN5 HB6
                    obtain ⟨W6, rfl⟩ : ∃ W6, W6 = wr := ⟨wr, rfl⟩
                    go_wp2_with fail
                    go_loopw [13] (fun i wr => ∃ k : Nat, i = .int .i64 (k : Int) ∧ k ≤ m ∧ Hid (Below W6.heap.size W6 wr)) (fun i _ => m - (intOf i).toNat)
                    case atStart => exact ⟨0, rfl, by omega, hide (Below.refl _ _)⟩
                    case round =>
                      obtain ⟨k, rfl, hk, HB7⟩ := hrel
                      by_cases hkm : k < m
                      · have d3 : decide ((k : Int) < (m : Int)) = true := by rw [decide_eq_true_eq]; omega
                        have k2 : (0 : Int) ≤ (k : Int) := by omega
                        have k3 : (k : Int) < (m : Int) := by omega
                        have wk : wrap64 ((k : Int) + 1) = (k : Int) + 1 := wrap_up hkm (by have := hm.out; have := HR.out.len; have := HNL.out; omega)
                        obtain ⟨⟨⟨c1, c2⟩, cn⟩, he⟩ : ∃ e, R[k]? = some e := ⟨_, List.getElem?_eq_getElem (by rw [hm.out]; exact hkm)⟩
                        have HE := hide he
                        obtain ⟨tg, toff, hta, hrest⟩ := HN6.out.r.ptr (by rw [List.length_map, hm.out]; omega)
                        clear hrest
                        subst hta
                        have hN7 := HN6.out.later HB7.out
                        obtain ⟨y0, y1⟩ := hN7.r.cells (j := k) (p := (c1, c2)) (by rw [List.getElem?_map, he]; rfl)
                        dsimp only at y0 y1
                        have HTK : Hid (Calls Try.prog 39 #[.agg #[.int .i64 c1, .int .i64 c2], .pointer (some ⟨xb, 0, none⟩), .pointer (some ⟨xb + 1, 0, none⟩)] wr fun e w' => e = .returned (.bool (wants 3 sa (c1, c2))) ∧ Below wr.heap.size wr w') := hide ((take_ok so 3 sa sb sa xb (xb + 1) wr hN7.x hN7.y).tells (c1, c2) wr (Below.refl _ _))
                        clear he hN7
                        cases hWv : wants 3 sa (c1, c2) with
                        | false =>
                          rw [hWv] at HTK
                          go_wp2_with fail
                          refine HTK.out.mono ?_
                          rintro e w8 ⟨rfl, b8⟩
                          have HB8 := hide (HB7.out.trans (b8.mono HB7.out.size))
                          clear b8 HTK y0 y1
                          go_wp2_with fail
                          go_roundw
                          case rel => exact ⟨k + 1, by first | rfl | (rw [wk]; rfl), hkm, HB8⟩
                          case measure => first | exact meas_lt hkm | (rw [wk]; exact meas_lt hkm)
                        | true =>
                          have h1 := mn_none.1 HMN.out _ (List.mem_of_getElem? HE.out)
                          exact absurd (hWv.symm.trans h1) (by decide)
                      · have d3 : decide ((k : Int) < (m : Int)) = false := by rw [decide_eq_false_iff_not]; omega
                        have HN7 := hide (HN6.out.later HB7.out)
                        clear HN6 HB7
                        have ev := eqMk 0 0 0 0
                        obtain ⟨g0, g1⟩ := cells2 HN7.out.g
                        have HF : Hid (Ns w wr v4 (.slice ta m tc) R N (t + 1)) := hide ⟨HN7.out.q, HN7.out.r, HR.out.kn.mono (by omega), by have := HR.out.nt; omega, HN7.out.bl⟩
                        go_wp2_with fail
                        go_roundw
                        case rel => exact ⟨t + 1, _, _, _, by first | rfl | (rw [wt]; rfl), htn, HF⟩
                        case measure => first | exact meas_lt htn | (rw [wt]; exact meas_lt htn)
              | some x =>
                obtain ⟨⟨x1, x2⟩, xn⟩ := x
                have HMN := hide hMN
                obtain ⟨j, hj⟩ := List.getElem?_of_mem (mn_some hMN).1
                have HXR := hide hj
                have HXP := hide (mn_some hMN).2.1
                have HJM : Hid (j < m) := hide (by rw [← hm.out]; exact (List.getElem?_eq_some_iff.1 hj).1)
                have HJ : Hid (∀ k e, R[k]? = some e → e.1 = (x1, x2) → k = j) := hide (fun k e h1 h2 => HR.out.kn.at_ h1 HXR.out h2)
                have HP := hide (removeQ rises_ok (take_ok so 3 sa sb sa wr.heap.size (wr.heap.size + 1) W3 HX3.out HY3.out) HR3.out.q HNN.out)
                rw [hMN] at HP
                unfold pv ans nx at HP
                dsimp only at HP
                clear hMN hj
                go_wp2_with fail
                rw [hW3.out]
                clear q0 q1 q2 q3 q1' q2' q3'
                refine HP.out.mono ?_
                rintro e w4 ⟨rfl, v4, h4, f4⟩
                obtain ⟨g4, nb4⟩ := Nb.of HR.out HB3.out HX3.out HY3.out HG3.out h4 f4 x1 x2
                have HG4 := hide g4
                have HN5 := hide nb4
                obtain ⟨W5, hW5⟩ : ∃ W, Hid (w4.setRow (wr.heap.size + 1 + 1) #[.int .i64 x1, .int .i64 x2] = W) := ⟨_, hide rfl⟩
                rw [hW5.out] at HN5
                clear h4 f4 g4 nb4 HP
                go_wp2_with (refine wpList_store_row rfl 33 _ _ rfl (wr.heap.size + 1 + 1) #[.int .i64 x1, .int .i64 x2] rfl rfl _ _ HG4.out Try.sizePr rfl (by simp [Value.oneCell']) ?_; rw [hW5.out])
                obtain ⟨xb, hxb⟩ : ∃ xb, wr.heap.size = xb := ⟨_, rfl⟩
                rw [hxb] at HN5 ⊢
                clear HB3 HX3 HY3 HG3 hW3 HG4 hW5
                go_loopw [11, 12] (fun at_ i wr => ∃ (k : Nat) (z : Int), i = .int .i64 (k : Int) ∧ at_ = .int .i64 z ∧ k ≤ m ∧ z = (if j < k then (j : Int) else -1) ∧ Hid (Below W5.heap.size W5 wr)) (fun _ i _ => m - (intOf i).toNat)
                case atStart => exact ⟨0, -1, rfl, rfl, by omega, by simp, hide (Below.refl _ _)⟩
                case round =>
                  obtain ⟨k, z, rfl, rfl, hk, hz, HB6⟩ := hrel
                  by_cases hkm : k < m
                  · have d2 : decide ((k : Int) < (m : Int)) = true := by rw [decide_eq_true_eq]; omega
                    have k2 : (0 : Int) ≤ (k : Int) := by omega
                    have k3 : (k : Int) < (m : Int) := by omega
                    have wk : wrap64 ((k : Int) + 1) = (k : Int) + 1 := wrap_up hkm (by have := hm.out; have := HR.out.len; have := HNL.out; omega)
                    obtain ⟨⟨⟨c1, c2⟩, cn⟩, he⟩ : ∃ e, R[k]? = some e := ⟨_, List.getElem?_eq_getElem (by rw [hm.out]; exact hkm)⟩
                    have HE := hide he
                    obtain ⟨tg, toff, hta, hrest⟩ := HN5.out.r.ptr (by rw [List.length_map, hm.out]; omega)
                    clear hrest
                    subst hta
                    have hN6 := HN5.out.later HB6.out
                    obtain ⟨y0, y1⟩ := hN6.r.cells (j := k) (p := (c1, c2)) (by rw [List.getElem?_map, he]; rfl)
                    dsimp only at y0 y1
                    obtain ⟨g0, g1⟩ := cells2 hN6.g
                    have ev := eqMk c1 c2 x1 x2
                    clear he hN6
                    cases hE : (c1 == x1 && c2 == x2) with
                    | true =>
                      rw [hE] at ev
                      have hkj : k = j := HJ.out k _ HE.out (by rw [Bool.and_eq_true, beq_iff_eq, beq_iff_eq] at hE; rw [Prod.mk.injEq]; exact hE)
                      have HKJ := hide hkj
                      clear hkj
                      clear hE HE
                      go_wp2_with fail
                      go_quiet (fail)
                      have HB7 := hide (below_dq HB6.out nq)
                      clear ev y0 y1 g0 g1
                      go_wp2_with fail
                      go_roundw
                      case rel => exact ⟨k + 1, (k : Int), by first | rfl | (rw [wk]; rfl), rfl, hkm, by rw [HKJ.out, if_pos (by omega)], HB7⟩
                      case measure => first | exact meas_lt hkm | (rw [wk]; exact meas_lt hkm)
                    | false =>
                      rw [hE] at ev
                      have hkj : k ≠ j := fun e => by
                        subst e
                        have h1 := HXR.out
                        rw [HE.out] at h1
                        injection h1 with h1; injection h1 with h1; injection h1 with h1 h2
                        rw [h1, h2] at hE; simp at hE
                      have HKJ := hide hkj
                      clear hkj
                      clear hE HE
                      go_wp2_with fail
                      go_quiet (fail)
                      have HB7 := hide (below_dq HB6.out nq)
                      clear ev y0 y1 g0 g1
                      go_wp2_with fail
                      go_roundw
                      case rel => exact ⟨k + 1, z, by first | rfl | (rw [wk]; rfl), rfl, hkm, by have := HKJ.out; rw [hz]; by_cases q : j < k; rw [if_pos q, if_pos (by omega)]; rw [if_neg q, if_neg (by omega)], HB7⟩
                      case measure => first | exact meas_lt hkm | (rw [wk]; exact meas_lt hkm)
                  · have d2 : decide ((k : Int) < (m : Int)) = false := by rw [decide_eq_false_iff_not]; omega
                    have hzj : z = (j : Int) := by rw [hz, if_pos (by have := HJM.out; omega)]
                    subst hzj
                    clear hz
                    have HN6 := hide (HN5.out.later HB6.out)
                    clear HN5 HB6
                    obtain ⟨W6, rfl⟩ : ∃ W6, W6 = wr := ⟨wr, rfl⟩
                    go_wp2_with fail
                    go_loopw [13] (fun i wr => ∃ k : Nat, i = .int .i64 (k : Int) ∧ k ≤ m ∧ Hid (Below W6.heap.size W6 wr)) (fun i _ => m - (intOf i).toNat)
                    case atStart => exact ⟨0, rfl, by omega, hide (Below.refl _ _)⟩
                    case round =>
                      obtain ⟨k, rfl, hk, HB7⟩ := hrel
                      by_cases hkm : k < m
                      · have d3 : decide ((k : Int) < (m : Int)) = true := by rw [decide_eq_true_eq]; omega
                        have k2 : (0 : Int) ≤ (k : Int) := by omega
                        have k3 : (k : Int) < (m : Int) := by omega
                        have wk : wrap64 ((k : Int) + 1) = (k : Int) + 1 := wrap_up hkm (by have := hm.out; have := HR.out.len; have := HNL.out; omega)
                        obtain ⟨⟨⟨c1, c2⟩, cn⟩, he⟩ : ∃ e, R[k]? = some e := ⟨_, List.getElem?_eq_getElem (by rw [hm.out]; exact hkm)⟩
                        have HE := hide he
                        obtain ⟨tg, toff, hta, hrest⟩ := HN6.out.r.ptr (by rw [List.length_map, hm.out]; omega)
                        clear hrest
                        subst hta
                        have hN7 := HN6.out.later HB7.out
                        obtain ⟨y0, y1⟩ := hN7.r.cells (j := k) (p := (c1, c2)) (by rw [List.getElem?_map, he]; rfl)
                        dsimp only at y0 y1
                        have HTK : Hid (Calls Try.prog 39 #[.agg #[.int .i64 c1, .int .i64 c2], .pointer (some ⟨xb, 0, none⟩), .pointer (some ⟨xb + 1, 0, none⟩)] wr fun e w' => e = .returned (.bool (wants 3 sa (c1, c2))) ∧ Below wr.heap.size wr w') := hide ((take_ok so 3 sa sb sa xb (xb + 1) wr hN7.x hN7.y).tells (c1, c2) wr (Below.refl _ _))
                        clear he hN7
                        cases hWv : wants 3 sa (c1, c2) with
                        | false =>
                          rw [hWv] at HTK
                          go_wp2_with fail
                          refine HTK.out.mono ?_
                          rintro e w8 ⟨rfl, b8⟩
                          have HB8 := hide (HB7.out.trans (b8.mono HB7.out.size))
                          clear b8 HTK y0 y1
                          go_wp2_with fail
                          go_roundw
                          case rel => exact ⟨k + 1, by first | rfl | (rw [wk]; rfl), hkm, HB8⟩
                          case measure => first | exact meas_lt hkm | (rw [wk]; exact meas_lt hkm)
                        | true =>
                          rw [hWv] at HTK
                          obtain ⟨f1, f2⟩ := HR.out.kn.first HR.out.q.rs HMN.out HE.out hWv
                          dsimp only at f1 f2
                          have e5 : decide (c1 < x1) = false := by rw [decide_eq_false_iff_not]; omega
                          go_wp2_with fail
                          refine HTK.out.mono ?_
                          rintro e w8 ⟨rfl, b8⟩
                          have HB8 := hide (HB7.out.trans (b8.mono HB7.out.size))
                          have hN8 := HN6.out.later HB8.out
                          obtain ⟨z0, z1⟩ := hN8.r.cells (j := k) (p := (c1, c2)) (by rw [List.getElem?_map, HE.out]; rfl)
                          dsimp only at z0 z1
                          obtain ⟨g0, g1⟩ := cells2 hN8.g
                          clear b8 HTK y0 y1 hN8
                          by_cases hcc : c1 = x1
                          · have e6 : (c1 == x1) = true := by rw [beq_iff_eq]; exact hcc
                            have e7 : decide (c2 < x2) = false := by have := f2 hcc; rw [decide_eq_false_iff_not]; omega
                            clear hcc f1 f2
                            go_wp2_with fail
                            go_quiet (fail)
                            have HB9 := hide (below_dq HB8.out nq)
                            clear z0 z1 g0 g1
                            go_wp2_with fail
                            go_roundw
                            case rel => exact ⟨k + 1, by first | rfl | (rw [wk]; rfl), hkm, HB9⟩
                            case measure => first | exact meas_lt hkm | (rw [wk]; exact meas_lt hkm)
                          · have e6 : (c1 == x1) = false := by rw [beq_eq_false_iff_ne]; exact hcc
                            clear hcc f1 f2
                            go_wp2_with fail
                            go_quiet (fail)
                            have HB9 := hide (below_dq HB8.out nq)
                            clear z0 z1 g0 g1
                            go_wp2_with fail
                            go_roundw
                            case rel => exact ⟨k + 1, by first | rfl | (rw [wk]; rfl), hkm, HB9⟩
                            case measure => first | exact meas_lt hkm | (rw [wk]; exact meas_lt hkm)
                      · have d3 : decide ((k : Int) < (m : Int)) = false := by rw [decide_eq_false_iff_not]; omega
                        have HN7 := hide (HN6.out.later HB7.out)
                        clear HN6 HB7
                        have d4 : decide ((j : Int) < 0) = false := by rw [decide_eq_false_iff_not]; omega
                        obtain ⟨tg, toff, hta, hrest⟩ := HN7.out.r.ptr (by rw [List.length_map, hm.out]; have := HJM.out; omega)
                        subst hta
                        have HMC : Hid (m ≤ tc) := hide hrest.2.1
                        clear hrest
                        obtain ⟨g0, g1⟩ := cells2 HN7.out.g
                        have HTK : Hid (Calls Try.prog 39 #[.agg #[.int .i64 x1, .int .i64 x2], .pointer (some ⟨xb, 0, none⟩), .pointer (some ⟨xb + 1, 0, none⟩)] wr fun e w' => e = .returned (.bool (wants 3 sa (x1, x2))) ∧ Below wr.heap.size wr w') := hide ((take_ok so 3 sa sb sa xb (xb + 1) wr HN7.out.x HN7.out.y).tells (x1, x2) wr (Below.refl _ _))
                        rw [show wants 3 sa (x1, x2) = true from HXP.out] at HTK
                        go_wp2_with fail
                        refine HTK.out.mono ?_
                        rintro e w8 ⟨rfl, b8⟩
                        have HN8 := hide (HN7.out.later (b8.trans drew_below))
                        clear b8 HTK g0 g1 HN7
                        have HMB : Hid (m ≤ 4611686018427387904) := hide (by have := hm.out; have := HR.out.len; have := HNL.out; omega)
                        obtain ⟨j0, j1, j2, j3, j4, j5⟩ := jfacts HJM.out HMC.out
                        have wj : wrap64 ((j : Int) + 1) = (j : Int) + 1 := wrap_up HJM.out HMB.out
                        obtain ⟨a2, ha2⟩ := a2_ex (j := j) (tg := tg) (toff := toff) HMC.out
                        have HA2 := hide ha2
                        have HWJ := hide (wj_nat (Nat.lt_of_lt_of_le HJM.out HMB.out))
                        clear ha2
                        obtain ⟨va, vc, w9, hrun, hf9⟩ := HN8.out.cut HR.out.kn HR.out.q.rs HR.out.nt HXR.out hm.out (by have := hm.out; have := HR.out.len; have := HNL.out; omega) a2 (tc - (j + 1)) HA2.out.2
                        obtain ⟨m', hm'⟩ : ∃ m', Hid ((er R ((x1, x2), xn)).length = m') := ⟨_, hide rfl⟩
                        rw [hm'.out] at hrun hf9
                        have HF := hide hf9
                        have HRUN := hide hrun
                        have HLQ := hide (lenQ HF.out.q)
                        rw [hm'.out] at HLQ
                        have hHeld := hide True.intro
                        clear hrun hf9
                        go_wp2_with fail
                        refine s_begins (S := fun _ => True) [8] 10 #[false, false, false, false, false, false, false, false, false, false] (by kernel_rfl) (by kernel_rfl) (by kernel_rfl) ?_
                        refine sk0 (v := ?_) 0 145 #[true, false, false, false, false, false, false, false, false, false] rfl rfl (by kernel_rfl) (by kernel_rfl) (by kernel_rfl) (by kernel_rfl) (fun _ _ _ h => h) (by kernel_rfl) (by rfl) ?hy (fun _ => hHeld.out) ?_
                        case hy => intro W; first | (go_simp; done) | (go_simp; with_reducible rfl)
                        simp only [List.setIfInBounds_toArray, List.set_cons_zero, List.set_cons_succ]
                        refine sk0 (v := ?_) 1 146 #[true, true, false, false, false, false, false, false, false, false] rfl rfl (by kernel_rfl) (by kernel_rfl) (by kernel_rfl) (by kernel_rfl) (fun _ _ _ h => h) (by kernel_rfl) (by rfl) ?hy (fun _ => hHeld.out) ?_
                        case hy => intro W; first | (go_simp; done) | (go_simp; with_reducible rfl)
                        simp only [List.setIfInBounds_toArray, List.set_cons_zero, List.set_cons_succ]
                        refine sk0 (v := ?_) 2 147 #[true, true, true, false, false, false, false, false, false, false] rfl rfl (by kernel_rfl) (by kernel_rfl) (by kernel_rfl) (by kernel_rfl) (fun _ _ _ h => h) (by kernel_rfl) (by rfl) ?hy (fun _ => hHeld.out) ?_
                        case hy => intro W; first | (go_simp; done) | (go_simp; with_reducible rfl)
                        simp only [List.setIfInBounds_toArray, List.set_cons_zero, List.set_cons_succ]
                        refine sk0 (v := ?_) 3 148 #[true, true, true, true, false, false, false, false, false, false] rfl rfl (by kernel_rfl) (by kernel_rfl) (by kernel_rfl) (by kernel_rfl) (fun _ _ _ h => h) (by kernel_rfl) (by rfl) ?hy (fun _ => hHeld.out) ?_
                        case hy => intro W; first | (go_simp; done) | (go_simp; with_reducible rfl)
                        simp only [List.setIfInBounds_toArray, List.set_cons_zero, List.set_cons_succ]
                        refine sk0 (v := ?_) 4 149 #[true, true, true, true, true, false, false, false, false, false] rfl rfl (by kernel_rfl) (by kernel_rfl) (by kernel_rfl) (by kernel_rfl) (fun _ _ _ h => h) (by kernel_rfl) (by rfl) ?hy (fun _ => hHeld.out) ?_
                        case hy => intro W; first | (go_simp; done) | (go_simp; with_reducible rfl)
                        simp only [List.setIfInBounds_toArray, List.set_cons_zero, List.set_cons_succ]
                        refine sk0 (v := ?_) 5 150 #[true, true, true, true, true, true, false, false, false, false] rfl rfl (by kernel_rfl) (by kernel_rfl) (by kernel_rfl) (by kernel_rfl) (fun _ _ _ h => h) (by kernel_rfl) (by rfl) ?hy (fun _ => hHeld.out) ?_
                        case hy => intro W; first | (go_simp; done) | (go_simp; with_reducible rfl)
                        simp only [List.setIfInBounds_toArray, List.set_cons_zero, List.set_cons_succ]
                        refine sk0 (v := ?_) 6 151 #[true, true, true, true, true, true, true, false, false, false] rfl rfl (by kernel_rfl) (by kernel_rfl) (by kernel_rfl) (by kernel_rfl) (fun _ _ _ h => h) (by kernel_rfl) (by rfl) ?hy (fun _ => hHeld.out) ?_
                        case hy => intro W; first | (go_simp; done) | (go_simp; with_reducible rfl)
                        simp only [List.setIfInBounds_toArray, List.set_cons_zero, List.set_cons_succ]
                        refine sk0 (v := .slice (some a2) (m - (j + 1)) (tc - (j + 1))) 7 152 #[true, true, true, true, true, true, true, true, false, false] rfl rfl (by kernel_rfl) (by kernel_rfl) (by kernel_rfl) (by kernel_rfl) (fun _ _ _ h => h) (by kernel_rfl) (by rfl) ?hy (fun _ => hHeld.out) ?_
                        case hy =>
                          intro W
                          go_simp
                          rw [HWJ.out, if_pos ⟨Int.natCast_nonneg _, Int.ofNat_le.2 HJM.out⟩]
                          simp only [Int.toNat_natCast]
                          rw [HA2.out.1]
                        simp only [List.setIfInBounds_toArray, List.set_cons_zero, List.set_cons_succ]
                        refine s_ready 8 #[true, true, true, true, true, true, true, true, true, false] rfl (by kernel_rfl) (by kernel_rfl) (by rfl) (fun K hK => ?_)
                        refine op_append_gen _ _ rfl _ a2 (m - (j + 1)) (tc - (j + 1)) rfl rfl _ w9 HRUN.out ?_
                        simp only [Act.put, List.setIfInBounds_toArray]
                        refine hK.out _ _ (fun h => absurd h (by decide)) ?_
                        clear hK K
                        refine s_ready 9 #[true, true, true, true, true, true, true, true, true, true] rfl (by kernel_rfl) (by kernel_rfl) (by rfl) (fun K hK => ?_)
                        go_simp
                        refine hK.out _ _ (fun h => absurd h (by decide)) ?_
                        clear hK K
                        refine s_done (by kernel_rfl) ?_ _
                        go_wp2_with fail
                        refine HLQ.out.mono ?_
                        rintro e w10 ⟨rfl, rfl⟩
                        go_wp2_with fail
                        go_roundw
                        case rel => exact ⟨t + 1, _, _, _, by first | rfl | (rw [wt]; rfl), htn, HF⟩
                        case measure => first | exact meas_lt htn | (rw [wt]; exact meas_lt htn)
            · have e4 : (sk == 3) = false := by rw [beq_eq_false_iff_ne]; exact hk3
              have hWt : wants sk sa = fun _ => true := funext fun p => by unfold wants; rw [e4]; rfl
              have HWT := hide hWt
              clear hWt
              obtain ⟨W3, hW3⟩ : ∃ W, Hid (((wr.alloc (zA so sk sa sb)).alloc (.cells #[.int .i64 sa] 3)).alloc zPr = W) := ⟨_, hide rfl⟩
              obtain ⟨b3, x3, y3, g3⟩ := three_alloc wr (zA so sk sa sb) (.cells #[.int .i64 sa] 3) zPr
              rw [hW3.out] at b3 x3 y3 g3
              have HB3 := hide b3
              have HX3 := hide x3
              have HY3 := hide y3
              have HG3 := hide g3
              clear b3 x3 y3 g3
              have HR3 := hide (HR.out.later HB3.out)
              have HNN : Hid (N ≤ 5864062014805) := hide (by have := HR.out.nt; have := HNL.out; omega)
              cases hMN : mn kR (wants sk sa) R with
              | none =>
                have HMN := hide hMN
                have HP := hide (popQ rises_ok HR3.out.q HNN.out)
                rw [← HWT.out, hMN] at HP
                unfold pv ans nx at HP
                dsimp only at HP
                clear hMN
                go_wp2_with fail
                rw [hW3.out]
                clear q0 q1 q2 q3 q1' q2' q3'
                refine HP.out.mono ?_
                rintro e w4 ⟨rfl, v4, h4, f4⟩
                obtain ⟨g4, nb4⟩ := Nb.of HR.out HB3.out HX3.out HY3.out HG3.out h4 f4 0 0
                have HG4 := hide g4
                have HN5 := hide nb4
                obtain ⟨W5, hW5⟩ : ∃ W, Hid (w4.setRow (wr.heap.size + 1 + 1) #[.int .i64 0, .int .i64 0] = W) := ⟨_, hide rfl⟩
                rw [hW5.out] at HN5
                clear h4 f4 g4 nb4 HP
                go_wp2_with (refine wpList_store_row rfl 33 _ _ rfl (wr.heap.size + 1 + 1) #[.int .i64 0, .int .i64 0] rfl rfl _ _ HG4.out Try.sizePr rfl (by simp [Value.oneCell']) ?_; rw [hW5.out])
                obtain ⟨xb, hxb⟩ : ∃ xb, wr.heap.size = xb := ⟨_, rfl⟩
                rw [hxb] at HN5 ⊢
                clear HB3 HX3 HY3 HG3 hW3 HG4 hW5
                go_loopw [11, 12] (fun at_ i wr => ∃ (k : Nat) (z : Int), i = .int .i64 (k : Int) ∧ at_ = .int .i64 z ∧ k ≤ m ∧ Hid (Below W5.heap.size W5 wr)) (fun _ i _ => m - (intOf i).toNat)
                case atStart => exact ⟨0, -1, rfl, rfl, by omega, hide (Below.refl _ _)⟩
                case round =>
                  obtain ⟨k, z, rfl, rfl, hk, HB6⟩ := hrel
                  by_cases hkm : k < m
                  · have d2 : decide ((k : Int) < (m : Int)) = true := by rw [decide_eq_true_eq]; omega
                    have k2 : (0 : Int) ≤ (k : Int) := by omega
                    have k3 : (k : Int) < (m : Int) := by omega
                    have wk : wrap64 ((k : Int) + 1) = (k : Int) + 1 := wrap_up hkm (by have := hm.out; have := HR.out.len; have := HNL.out; omega)
                    obtain ⟨⟨⟨c1, c2⟩, cn⟩, he⟩ : ∃ e, R[k]? = some e := ⟨_, List.getElem?_eq_getElem (by rw [hm.out]; exact hkm)⟩
                    have HE := hide he
                    obtain ⟨tg, toff, hta, hrest⟩ := HN5.out.r.ptr (by rw [List.length_map, hm.out]; omega)
                    clear hrest
                    subst hta
                    have hN6 := HN5.out.later HB6.out
                    obtain ⟨y0, y1⟩ := hN6.r.cells (j := k) (p := (c1, c2)) (by rw [List.getElem?_map, he]; rfl)
                    dsimp only at y0 y1
                    obtain ⟨g0, g1⟩ := cells2 hN6.g
                    have ev := eqMk c1 c2 0 0
                    clear he hN6
                    cases hE : (c1 == 0 && c2 == 0) with
                    | true =>
                      rw [hE] at ev
                      clear hE HE
                      go_wp2_with fail
                      go_quiet (fail)
                      have HB7 := hide (below_dq HB6.out nq)
                      clear ev y0 y1 g0 g1
                      go_wp2_with fail
                      go_roundw
                      case rel => exact ⟨k + 1, (k : Int), by first | rfl | (rw [wk]; rfl), rfl, hkm, HB7⟩
                      case measure => first | exact meas_lt hkm | (rw [wk]; exact meas_lt hkm)
                    | false =>
                      rw [hE] at ev
                      clear hE HE
                      go_wp2_with fail
                      go_quiet (fail)
                      have HB7 := hide (below_dq HB6.out nq)
                      clear ev y0 y1 g0 g1
                      go_wp2_with fail
                      go_roundw
                      case rel => exact ⟨k + 1, z, by first | rfl | (rw [wk]; rfl), rfl, hkm, HB7⟩
                      case measure => first | exact meas_lt hkm | (rw [wk]; exact meas_lt hkm)
                  · have d2 : decide ((k : Int) < (m : Int)) = false := by rw [decide_eq_false_iff_not]; omega
                    have HN6 := hide (HN5.out.later HB6.out)
                    clear HN5 HB6
                    obtain ⟨W6, rfl⟩ : ∃ W6, W6 = wr := ⟨wr, rfl⟩
                    go_wp2_with fail
                    go_loopw [13] (fun i wr => ∃ k : Nat, i = .int .i64 (k : Int) ∧ k ≤ m ∧ Hid (Below W6.heap.size W6 wr)) (fun i _ => m - (intOf i).toNat)
                    case atStart => exact ⟨0, rfl, by omega, hide (Below.refl _ _)⟩
                    case round =>
                      obtain ⟨k, rfl, hk, HB7⟩ := hrel
                      by_cases hkm : k < m
                      · have d3 : decide ((k : Int) < (m : Int)) = true := by rw [decide_eq_true_eq]; omega
                        have k2 : (0 : Int) ≤ (k : Int) := by omega
                        have k3 : (k : Int) < (m : Int) := by omega
                        have wk : wrap64 ((k : Int) + 1) = (k : Int) + 1 := wrap_up hkm (by have := hm.out; have := HR.out.len; have := HNL.out; omega)
                        obtain ⟨⟨⟨c1, c2⟩, cn⟩, he⟩ : ∃ e, R[k]? = some e := ⟨_, List.getElem?_eq_getElem (by rw [hm.out]; exact hkm)⟩
                        have HE := hide he
                        obtain ⟨tg, toff, hta, hrest⟩ := HN6.out.r.ptr (by rw [List.length_map, hm.out]; omega)
                        clear hrest
                        subst hta
                        have hN7 := HN6.out.later HB7.out
                        obtain ⟨y0, y1⟩ := hN7.r.cells (j := k) (p := (c1, c2)) (by rw [List.getElem?_map, he]; rfl)
                        dsimp only at y0 y1
                        have HTK : Hid (Calls Try.prog 39 #[.agg #[.int .i64 c1, .int .i64 c2], .pointer (some ⟨xb, 0, none⟩), .pointer (some ⟨xb + 1, 0, none⟩)] wr fun e w' => e = .returned (.bool (wants sk sa (c1, c2))) ∧ Below wr.heap.size wr w') := hide ((take_ok so sk sa sb sa xb (xb + 1) wr hN7.x hN7.y).tells (c1, c2) wr (Below.refl _ _))
                        clear he hN7
                        cases hWv : wants sk sa (c1, c2) with
                        | false =>
                          rw [hWv] at HTK
                          go_wp2_with fail
                          refine HTK.out.mono ?_
                          rintro e w8 ⟨rfl, b8⟩
                          have HB8 := hide (HB7.out.trans (b8.mono HB7.out.size))
                          clear b8 HTK y0 y1
                          go_wp2_with fail
                          go_roundw
                          case rel => exact ⟨k + 1, by first | rfl | (rw [wk]; rfl), hkm, HB8⟩
                          case measure => first | exact meas_lt hkm | (rw [wk]; exact meas_lt hkm)
                        | true =>
                          have h1 := mn_none.1 HMN.out _ (List.mem_of_getElem? HE.out)
                          exact absurd (hWv.symm.trans h1) (by decide)
                      · have d3 : decide ((k : Int) < (m : Int)) = false := by rw [decide_eq_false_iff_not]; omega
                        have HN7 := hide (HN6.out.later HB7.out)
                        clear HN6 HB7
                        have ev := eqMk 0 0 0 0
                        obtain ⟨g0, g1⟩ := cells2 HN7.out.g
                        have HF : Hid (Ns w wr v4 (.slice ta m tc) R N (t + 1)) := hide ⟨HN7.out.q, HN7.out.r, HR.out.kn.mono (by omega), by have := HR.out.nt; omega, HN7.out.bl⟩
                        go_wp2_with fail
                        go_roundw
                        case rel => exact ⟨t + 1, _, _, _, by first | rfl | (rw [wt]; rfl), htn, HF⟩
                        case measure => first | exact meas_lt htn | (rw [wt]; exact meas_lt htn)
              | some x =>
                obtain ⟨⟨x1, x2⟩, xn⟩ := x
                have HMN := hide hMN
                obtain ⟨j, hj⟩ := List.getElem?_of_mem (mn_some hMN).1
                have HXR := hide hj
                have HXP := hide (mn_some hMN).2.1
                have HJM : Hid (j < m) := hide (by rw [← hm.out]; exact (List.getElem?_eq_some_iff.1 hj).1)
                have HJ : Hid (∀ k e, R[k]? = some e → e.1 = (x1, x2) → k = j) := hide (fun k e h1 h2 => HR.out.kn.at_ h1 HXR.out h2)
                have HP := hide (popQ rises_ok HR3.out.q HNN.out)
                rw [← HWT.out, hMN] at HP
                unfold pv ans nx at HP
                dsimp only at HP
                clear hMN hj
                go_wp2_with fail
                rw [hW3.out]
                clear q0 q1 q2 q3 q1' q2' q3'
                refine HP.out.mono ?_
                rintro e w4 ⟨rfl, v4, h4, f4⟩
                obtain ⟨g4, nb4⟩ := Nb.of HR.out HB3.out HX3.out HY3.out HG3.out h4 f4 x1 x2
                have HG4 := hide g4
                have HN5 := hide nb4
                obtain ⟨W5, hW5⟩ : ∃ W, Hid (w4.setRow (wr.heap.size + 1 + 1) #[.int .i64 x1, .int .i64 x2] = W) := ⟨_, hide rfl⟩
                rw [hW5.out] at HN5
                clear h4 f4 g4 nb4 HP
                go_wp2_with (refine wpList_store_row rfl 33 _ _ rfl (wr.heap.size + 1 + 1) #[.int .i64 x1, .int .i64 x2] rfl rfl _ _ HG4.out Try.sizePr rfl (by simp [Value.oneCell']) ?_; rw [hW5.out])
                obtain ⟨xb, hxb⟩ : ∃ xb, wr.heap.size = xb := ⟨_, rfl⟩
                rw [hxb] at HN5 ⊢
                clear HB3 HX3 HY3 HG3 hW3 HG4 hW5
                go_loopw [11, 12] (fun at_ i wr => ∃ (k : Nat) (z : Int), i = .int .i64 (k : Int) ∧ at_ = .int .i64 z ∧ k ≤ m ∧ z = (if j < k then (j : Int) else -1) ∧ Hid (Below W5.heap.size W5 wr)) (fun _ i _ => m - (intOf i).toNat)
                case atStart => exact ⟨0, -1, rfl, rfl, by omega, by simp, hide (Below.refl _ _)⟩
                case round =>
                  obtain ⟨k, z, rfl, rfl, hk, hz, HB6⟩ := hrel
                  by_cases hkm : k < m
                  · have d2 : decide ((k : Int) < (m : Int)) = true := by rw [decide_eq_true_eq]; omega
                    have k2 : (0 : Int) ≤ (k : Int) := by omega
                    have k3 : (k : Int) < (m : Int) := by omega
                    have wk : wrap64 ((k : Int) + 1) = (k : Int) + 1 := wrap_up hkm (by have := hm.out; have := HR.out.len; have := HNL.out; omega)
                    obtain ⟨⟨⟨c1, c2⟩, cn⟩, he⟩ : ∃ e, R[k]? = some e := ⟨_, List.getElem?_eq_getElem (by rw [hm.out]; exact hkm)⟩
                    have HE := hide he
                    obtain ⟨tg, toff, hta, hrest⟩ := HN5.out.r.ptr (by rw [List.length_map, hm.out]; omega)
                    clear hrest
                    subst hta
                    have hN6 := HN5.out.later HB6.out
                    obtain ⟨y0, y1⟩ := hN6.r.cells (j := k) (p := (c1, c2)) (by rw [List.getElem?_map, he]; rfl)
                    dsimp only at y0 y1
                    obtain ⟨g0, g1⟩ := cells2 hN6.g
                    have ev := eqMk c1 c2 x1 x2
                    clear he hN6
                    cases hE : (c1 == x1 && c2 == x2) with
                    | true =>
                      rw [hE] at ev
                      have hkj : k = j := HJ.out k _ HE.out (by rw [Bool.and_eq_true, beq_iff_eq, beq_iff_eq] at hE; rw [Prod.mk.injEq]; exact hE)
                      have HKJ := hide hkj
                      clear hkj
                      clear hE HE
                      go_wp2_with fail
                      go_quiet (fail)
                      have HB7 := hide (below_dq HB6.out nq)
                      clear ev y0 y1 g0 g1
                      go_wp2_with fail
                      go_roundw
                      case rel => exact ⟨k + 1, (k : Int), by first | rfl | (rw [wk]; rfl), rfl, hkm, by rw [HKJ.out, if_pos (by omega)], HB7⟩
                      case measure => first | exact meas_lt hkm | (rw [wk]; exact meas_lt hkm)
                    | false =>
                      rw [hE] at ev
                      have hkj : k ≠ j := fun e => by
                        subst e
                        have h1 := HXR.out
                        rw [HE.out] at h1
                        injection h1 with h1; injection h1 with h1; injection h1 with h1 h2
                        rw [h1, h2] at hE; simp at hE
                      have HKJ := hide hkj
                      clear hkj
                      clear hE HE
                      go_wp2_with fail
                      go_quiet (fail)
                      have HB7 := hide (below_dq HB6.out nq)
                      clear ev y0 y1 g0 g1
                      go_wp2_with fail
                      go_roundw
                      case rel => exact ⟨k + 1, z, by first | rfl | (rw [wk]; rfl), rfl, hkm, by have := HKJ.out; rw [hz]; by_cases q : j < k; rw [if_pos q, if_pos (by omega)]; rw [if_neg q, if_neg (by omega)], HB7⟩
                      case measure => first | exact meas_lt hkm | (rw [wk]; exact meas_lt hkm)
                  · have d2 : decide ((k : Int) < (m : Int)) = false := by rw [decide_eq_false_iff_not]; omega
                    have hzj : z = (j : Int) := by rw [hz, if_pos (by have := HJM.out; omega)]
                    subst hzj
                    clear hz
                    have HN6 := hide (HN5.out.later HB6.out)
                    clear HN5 HB6
                    obtain ⟨W6, rfl⟩ : ∃ W6, W6 = wr := ⟨wr, rfl⟩
                    go_wp2_with fail
                    go_loopw [13] (fun i wr => ∃ k : Nat, i = .int .i64 (k : Int) ∧ k ≤ m ∧ Hid (Below W6.heap.size W6 wr)) (fun i _ => m - (intOf i).toNat)
                    case atStart => exact ⟨0, rfl, by omega, hide (Below.refl _ _)⟩
                    case round =>
                      obtain ⟨k, rfl, hk, HB7⟩ := hrel
                      by_cases hkm : k < m
                      · have d3 : decide ((k : Int) < (m : Int)) = true := by rw [decide_eq_true_eq]; omega
                        have k2 : (0 : Int) ≤ (k : Int) := by omega
                        have k3 : (k : Int) < (m : Int) := by omega
                        have wk : wrap64 ((k : Int) + 1) = (k : Int) + 1 := wrap_up hkm (by have := hm.out; have := HR.out.len; have := HNL.out; omega)
                        obtain ⟨⟨⟨c1, c2⟩, cn⟩, he⟩ : ∃ e, R[k]? = some e := ⟨_, List.getElem?_eq_getElem (by rw [hm.out]; exact hkm)⟩
                        have HE := hide he
                        obtain ⟨tg, toff, hta, hrest⟩ := HN6.out.r.ptr (by rw [List.length_map, hm.out]; omega)
                        clear hrest
                        subst hta
                        have hN7 := HN6.out.later HB7.out
                        obtain ⟨y0, y1⟩ := hN7.r.cells (j := k) (p := (c1, c2)) (by rw [List.getElem?_map, he]; rfl)
                        dsimp only at y0 y1
                        have HTK : Hid (Calls Try.prog 39 #[.agg #[.int .i64 c1, .int .i64 c2], .pointer (some ⟨xb, 0, none⟩), .pointer (some ⟨xb + 1, 0, none⟩)] wr fun e w' => e = .returned (.bool (wants sk sa (c1, c2))) ∧ Below wr.heap.size wr w') := hide ((take_ok so sk sa sb sa xb (xb + 1) wr hN7.x hN7.y).tells (c1, c2) wr (Below.refl _ _))
                        clear he hN7
                        cases hWv : wants sk sa (c1, c2) with
                        | false =>
                          rw [hWv] at HTK
                          go_wp2_with fail
                          refine HTK.out.mono ?_
                          rintro e w8 ⟨rfl, b8⟩
                          have HB8 := hide (HB7.out.trans (b8.mono HB7.out.size))
                          clear b8 HTK y0 y1
                          go_wp2_with fail
                          go_roundw
                          case rel => exact ⟨k + 1, by first | rfl | (rw [wk]; rfl), hkm, HB8⟩
                          case measure => first | exact meas_lt hkm | (rw [wk]; exact meas_lt hkm)
                        | true =>
                          rw [hWv] at HTK
                          obtain ⟨f1, f2⟩ := HR.out.kn.first HR.out.q.rs HMN.out HE.out hWv
                          dsimp only at f1 f2
                          have e5 : decide (c1 < x1) = false := by rw [decide_eq_false_iff_not]; omega
                          go_wp2_with fail
                          refine HTK.out.mono ?_
                          rintro e w8 ⟨rfl, b8⟩
                          have HB8 := hide (HB7.out.trans (b8.mono HB7.out.size))
                          have hN8 := HN6.out.later HB8.out
                          obtain ⟨z0, z1⟩ := hN8.r.cells (j := k) (p := (c1, c2)) (by rw [List.getElem?_map, HE.out]; rfl)
                          dsimp only at z0 z1
                          obtain ⟨g0, g1⟩ := cells2 hN8.g
                          clear b8 HTK y0 y1 hN8
                          by_cases hcc : c1 = x1
                          · have e6 : (c1 == x1) = true := by rw [beq_iff_eq]; exact hcc
                            have e7 : decide (c2 < x2) = false := by have := f2 hcc; rw [decide_eq_false_iff_not]; omega
                            clear hcc f1 f2
                            go_wp2_with fail
                            go_quiet (fail)
                            have HB9 := hide (below_dq HB8.out nq)
                            clear z0 z1 g0 g1
                            go_wp2_with fail
                            go_roundw
                            case rel => exact ⟨k + 1, by first | rfl | (rw [wk]; rfl), hkm, HB9⟩
                            case measure => first | exact meas_lt hkm | (rw [wk]; exact meas_lt hkm)
                          · have e6 : (c1 == x1) = false := by rw [beq_eq_false_iff_ne]; exact hcc
                            clear hcc f1 f2
                            go_wp2_with fail
                            go_quiet (fail)
                            have HB9 := hide (below_dq HB8.out nq)
                            clear z0 z1 g0 g1
                            go_wp2_with fail
                            go_roundw
                            case rel => exact ⟨k + 1, by first | rfl | (rw [wk]; rfl), hkm, HB9⟩
                            case measure => first | exact meas_lt hkm | (rw [wk]; exact meas_lt hkm)
                      · have d3 : decide ((k : Int) < (m : Int)) = false := by rw [decide_eq_false_iff_not]; omega
                        have HN7 := hide (HN6.out.later HB7.out)
                        clear HN6 HB7
                        have d4 : decide ((j : Int) < 0) = false := by rw [decide_eq_false_iff_not]; omega
                        obtain ⟨tg, toff, hta, hrest⟩ := HN7.out.r.ptr (by rw [List.length_map, hm.out]; have := HJM.out; omega)
                        subst hta
                        have HMC : Hid (m ≤ tc) := hide hrest.2.1
                        clear hrest
                        obtain ⟨g0, g1⟩ := cells2 HN7.out.g
                        have HTK : Hid (Calls Try.prog 39 #[.agg #[.int .i64 x1, .int .i64 x2], .pointer (some ⟨xb, 0, none⟩), .pointer (some ⟨xb + 1, 0, none⟩)] wr fun e w' => e = .returned (.bool (wants sk sa (x1, x2))) ∧ Below wr.heap.size wr w') := hide ((take_ok so sk sa sb sa xb (xb + 1) wr HN7.out.x HN7.out.y).tells (x1, x2) wr (Below.refl _ _))
                        rw [show wants sk sa (x1, x2) = true from HXP.out] at HTK
                        go_wp2_with fail
                        refine HTK.out.mono ?_
                        rintro e w8 ⟨rfl, b8⟩
                        have HN8 := hide (HN7.out.later (b8.trans drew_below))
                        clear b8 HTK g0 g1 HN7
                        have HMB : Hid (m ≤ 4611686018427387904) := hide (by have := hm.out; have := HR.out.len; have := HNL.out; omega)
                        obtain ⟨j0, j1, j2, j3, j4, j5⟩ := jfacts HJM.out HMC.out
                        have wj : wrap64 ((j : Int) + 1) = (j : Int) + 1 := wrap_up HJM.out HMB.out
                        obtain ⟨a2, ha2⟩ := a2_ex (j := j) (tg := tg) (toff := toff) HMC.out
                        have HA2 := hide ha2
                        have HWJ := hide (wj_nat (Nat.lt_of_lt_of_le HJM.out HMB.out))
                        clear ha2
                        obtain ⟨va, vc, w9, hrun, hf9⟩ := HN8.out.cut HR.out.kn HR.out.q.rs HR.out.nt HXR.out hm.out (by have := hm.out; have := HR.out.len; have := HNL.out; omega) a2 (tc - (j + 1)) HA2.out.2
                        obtain ⟨m', hm'⟩ : ∃ m', Hid ((er R ((x1, x2), xn)).length = m') := ⟨_, hide rfl⟩
                        rw [hm'.out] at hrun hf9
                        have HF := hide hf9
                        have HRUN := hide hrun
                        have HLQ := hide (lenQ HF.out.q)
                        rw [hm'.out] at HLQ
                        have hHeld := hide True.intro
                        clear hrun hf9
                        go_wp2_with fail
                        refine s_begins (S := fun _ => True) [8] 10 #[false, false, false, false, false, false, false, false, false, false] (by kernel_rfl) (by kernel_rfl) (by kernel_rfl) ?_
                        refine sk0 (v := ?_) 0 145 #[true, false, false, false, false, false, false, false, false, false] rfl rfl (by kernel_rfl) (by kernel_rfl) (by kernel_rfl) (by kernel_rfl) (fun _ _ _ h => h) (by kernel_rfl) (by rfl) ?hy (fun _ => hHeld.out) ?_
                        case hy => intro W; first | (go_simp; done) | (go_simp; with_reducible rfl)
                        simp only [List.setIfInBounds_toArray, List.set_cons_zero, List.set_cons_succ]
                        refine sk0 (v := ?_) 1 146 #[true, true, false, false, false, false, false, false, false, false] rfl rfl (by kernel_rfl) (by kernel_rfl) (by kernel_rfl) (by kernel_rfl) (fun _ _ _ h => h) (by kernel_rfl) (by rfl) ?hy (fun _ => hHeld.out) ?_
                        case hy => intro W; first | (go_simp; done) | (go_simp; with_reducible rfl)
                        simp only [List.setIfInBounds_toArray, List.set_cons_zero, List.set_cons_succ]
                        refine sk0 (v := ?_) 2 147 #[true, true, true, false, false, false, false, false, false, false] rfl rfl (by kernel_rfl) (by kernel_rfl) (by kernel_rfl) (by kernel_rfl) (fun _ _ _ h => h) (by kernel_rfl) (by rfl) ?hy (fun _ => hHeld.out) ?_
                        case hy => intro W; first | (go_simp; done) | (go_simp; with_reducible rfl)
                        simp only [List.setIfInBounds_toArray, List.set_cons_zero, List.set_cons_succ]
                        refine sk0 (v := ?_) 3 148 #[true, true, true, true, false, false, false, false, false, false] rfl rfl (by kernel_rfl) (by kernel_rfl) (by kernel_rfl) (by kernel_rfl) (fun _ _ _ h => h) (by kernel_rfl) (by rfl) ?hy (fun _ => hHeld.out) ?_
                        case hy => intro W; first | (go_simp; done) | (go_simp; with_reducible rfl)
                        simp only [List.setIfInBounds_toArray, List.set_cons_zero, List.set_cons_succ]
                        refine sk0 (v := ?_) 4 149 #[true, true, true, true, true, false, false, false, false, false] rfl rfl (by kernel_rfl) (by kernel_rfl) (by kernel_rfl) (by kernel_rfl) (fun _ _ _ h => h) (by kernel_rfl) (by rfl) ?hy (fun _ => hHeld.out) ?_
                        case hy => intro W; first | (go_simp; done) | (go_simp; with_reducible rfl)
                        simp only [List.setIfInBounds_toArray, List.set_cons_zero, List.set_cons_succ]
                        refine sk0 (v := ?_) 5 150 #[true, true, true, true, true, true, false, false, false, false] rfl rfl (by kernel_rfl) (by kernel_rfl) (by kernel_rfl) (by kernel_rfl) (fun _ _ _ h => h) (by kernel_rfl) (by rfl) ?hy (fun _ => hHeld.out) ?_
                        case hy => intro W; first | (go_simp; done) | (go_simp; with_reducible rfl)
                        simp only [List.setIfInBounds_toArray, List.set_cons_zero, List.set_cons_succ]
                        refine sk0 (v := ?_) 6 151 #[true, true, true, true, true, true, true, false, false, false] rfl rfl (by kernel_rfl) (by kernel_rfl) (by kernel_rfl) (by kernel_rfl) (fun _ _ _ h => h) (by kernel_rfl) (by rfl) ?hy (fun _ => hHeld.out) ?_
                        case hy => intro W; first | (go_simp; done) | (go_simp; with_reducible rfl)
                        simp only [List.setIfInBounds_toArray, List.set_cons_zero, List.set_cons_succ]
                        refine sk0 (v := .slice (some a2) (m - (j + 1)) (tc - (j + 1))) 7 152 #[true, true, true, true, true, true, true, true, false, false] rfl rfl (by kernel_rfl) (by kernel_rfl) (by kernel_rfl) (by kernel_rfl) (fun _ _ _ h => h) (by kernel_rfl) (by rfl) ?hy (fun _ => hHeld.out) ?_
                        case hy =>
                          intro W
                          go_simp
                          rw [HWJ.out, if_pos ⟨Int.natCast_nonneg _, Int.ofNat_le.2 HJM.out⟩]
                          simp only [Int.toNat_natCast]
                          rw [HA2.out.1]
                        simp only [List.setIfInBounds_toArray, List.set_cons_zero, List.set_cons_succ]
                        refine s_ready 8 #[true, true, true, true, true, true, true, true, true, false] rfl (by kernel_rfl) (by kernel_rfl) (by rfl) (fun K hK => ?_)
                        refine op_append_gen _ _ rfl _ a2 (m - (j + 1)) (tc - (j + 1)) rfl rfl _ w9 HRUN.out ?_
                        simp only [Act.put, List.setIfInBounds_toArray]
                        refine hK.out _ _ (fun h => absurd h (by decide)) ?_
                        clear hK K
                        refine s_ready 9 #[true, true, true, true, true, true, true, true, true, true] rfl (by kernel_rfl) (by kernel_rfl) (by rfl) (fun K hK => ?_)
                        go_simp
                        refine hK.out _ _ (fun h => absurd h (by decide)) ?_
                        clear hK K
                        refine s_done (by kernel_rfl) ?_ _
                        go_wp2_with fail
                        refine HLQ.out.mono ?_
                        rintro e w10 ⟨rfl, rfl⟩
                        go_wp2_with fail
                        go_roundw
                        case rel => exact ⟨t + 1, _, _, _, by first | rfl | (rw [wt]; rfl), htn, HF⟩
                        case measure => first | exact meas_lt htn | (rw [wt]; exact meas_lt htn)
    · have d1 : decide ((t : Int) < (n : Int)) = false := by rw [decide_eq_false_iff_not]; omega
      have HL9 := hide (lenQ HR.out.q)
      obtain ⟨ta, tc, hvt⟩ := HR.out.r.slc
      obtain ⟨m, hm⟩ : ∃ m, Hid (R.length = m) := ⟨_, hide rfl⟩
      rw [List.length_map, hm.out] at hvt
      subst hvt
      rw [hm.out] at HL9
      have HB9 := hide HR.out.bl
      go_wp2_with fail
      refine HL9.out.mono ?_
      rintro e w9 ⟨rfl, rfl⟩
      go_wp2_with fail
      go_ret
      exact ⟨rfl, HB9.out⟩
end Go.Proofs.Ytolmngjppnmkoaa
