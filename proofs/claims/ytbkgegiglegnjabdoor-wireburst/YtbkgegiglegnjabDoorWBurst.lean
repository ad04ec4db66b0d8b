/-
  My own text: the law that a burst of four bytes is seen (printed by mkwburst.py).
-/
import Derived.Test.YtbkgegiglegnjabDoorWBm
import Derived.Test.YtbkgegiglegnjabDoorWOne0
import Derived.Laws.BitsAllLaws
namespace Go.Proofs.YtbkgegiglegnjabDoor
open Go.RowKit Go.Extern

theorem xor_u8 (a b : UInt8) : bits .xor .u8 (a.toNat : Int) (b.toNat : Int) = ((a ^^^ b).toNat : Int) := by
  have ha := a.toNat_lt
  have hb := b.toNat_lt
  rw [u8_xor_nat _ _ (by omega) (by omega), UInt8.toNat_xor]
theorem or_u8 (a b : UInt8) : bits .or .u8 (a.toNat : Int) (b.toNat : Int) = ((a ||| b).toNat : Int) := by
  have ha := a.toNat_lt
  have hb := b.toNat_lt
  rw [u8_or_nat _ _ (by omega) (by omega), UInt8.toNat_or]
set_option maxRecDepth 100000 in
set_option maxHeartbeats 4000000 in
theorem burst_law (x n tn : Int) (v : Value) (l : List UInt8) (w : World) (x0 : 0 ≤ x) (x1 : x < 18446744073709551616) (hv : RB w v l) (hT : Tab w) (hE : ErrType w) (hl : l.length ≤ 140737488355328) :
    Calls Tryd.prog 4 #[.int .u64 x, v, .int .i64 n, .int .u32 tn] w fun e w' => e = .returned (.bool true) ∧ Below w.heap.size w w' := by
  have nG := Tryd.nilNeqG
  have nN := Tryd.nilNeq
  by_cases hbig : 65536 < l.length
  · have HF := hide (frame_many x v l w hv hbig)
    rw [errV_pos (by decide)] at HF
    obtain ⟨gv, av, cv, rfl, _, _⟩ := hv
    go_enter Tryd.func4, Tryd.ntmps4
    go_wp2_with fail
    refine HF.out.mono ?_
    rintro e w1 ⟨rfl, hw⟩
    obtain rfl := hw.symm
    go_wp2_with fail
    go_ret
    exact ⟨rfl, Below.refl _ _⟩
  · have hl6 : l.length ≤ 65536 := by omega
    have HF := hide (frame_ok x v l w x0 x1 hv hT hl6)
    have HT := hide hT
    have HET := hide hE
    obtain ⟨hd6, hd22⟩ := head_len x l
    have HFE : Hid (frameL x l = headL x l ++ l) := hide rfl
    have HFl : Hid ((frameL x l).length = (headL x l).length + l.length) := hide (by rw [HFE.out, List.length_append])
    obtain ⟨gv, av, cv, rfl, _, _⟩ := hv
    clear hT hE hbig hl
    have p0 := Int.emod_nonneg n (show (l.length : Int) + 1 ≠ 0 by omega)
    have p1 := Int.emod_lt_of_pos n (show (0 : Int) < (l.length : Int) + 1 by omega)
    have HP := hide (fun W : World => pick_any n ((l.length : Int) + 1) W (by omega) (by omega))
    obtain ⟨p, hp⟩ : ∃ p : Int, Hid (n % ((l.length : Int) + 1) = p) := ⟨_, hide rfl⟩
    rw [hp.out] at p0 p1 HP
    -- what is seen
    have HSEE : Hid (∀ (pre m post : List UInt8) (t : Nat → UInt8) (N : Nat), m.length = N → N ≤ 4 → pre ++ m ++ post = l → (∃ j, j < N ∧ t j ≠ 0) → unE (chg (frameL x l) ((headL x l).length + pre.length) t N) = 7) := hide (by
      intro pre m post t N hmN hN4 hpl ⟨j, hj, htj⟩
      have e1 : frameL x l = (headL x l ++ pre) ++ m ++ post := by rw [HFE.out, ← hpl]; simp [List.append_assoc]
      have e2 : (headL x l).length + pre.length = (headL x l ++ pre).length := by rw [List.length_append]
      rw [e2]
      rw [e1, chg_mid _ _ _ _ _ (by omega)]
      have hne := turnL_ne (m := m) (t := t) (i := N) (j := j) hj (by omega) htj
      have htl := turnL_len m t N
      have hL' : (pre ++ turnL m t N ++ post).length = l.length := by rw [← hpl]; simp [htl]
      have e3 : headL x l ++ pre ++ turnL m t N ++ post = form ((pre ++ turnL m t N ++ post).length : Int) ++ form x ++ be 4 ((fsum x l).toNat : Int) ++ (pre ++ turnL m t N ++ post) ++ [] := by
        rw [hL', List.append_nil]; unfold headL; simp [List.append_assoc]
      rw [e3, unE_of x0 x1 (be_len _ _) (by omega), bval_sum, if_neg]
      intro h
      have h2 : fsum x l = fsum x (pre ++ turnL m t N ++ post) := BitVec.eq_of_toNat_eq (by omega)
      rw [← hpl] at h2
      exact fsum_ne (by omega) htl hne h2)
    have HSUM : Hid (∀ (t : Nat → UInt8), (∃ j, j < 4 ∧ t j ≠ 0) → unE (chg (frameL x l) ((headL x l).length - 4) t 4) = 7) := hide (by
      intro t ⟨j, hj, htj⟩
      have e1 : frameL x l = (form (l.length : Int) ++ form x) ++ be 4 ((fsum x l).toNat : Int) ++ l := rfl
      have e2 : (headL x l).length - 4 = (form (l.length : Int) ++ form x).length := by unfold headL; rw [List.length_append, be_len]; omega
      rw [e2, e1, chg_mid _ _ _ _ _ (by rw [be_len]; omega)]
      have hne := turnL_ne (m := be 4 ((fsum x l).toNat : Int)) (t := t) (i := 4) (j := j) hj (by rw [be_len]; omega) htj
      have htl := turnL_len (be 4 ((fsum x l).toNat : Int)) t 4
      rw [be_len] at htl
      have h := unE_of (x := x) (s := turnL (be 4 ((fsum x l).toNat : Int)) t 4) (m := l) (r := []) x0 x1 htl hl6
      rw [List.append_nil] at h
      rw [h, if_neg]
      intro hb
      apply hne
      have h3 := be_bval (turnL (be 4 ((fsum x l).toNat : Int)) t 4)
      rw [htl, hb] at h3
      exact h3.symm)
    obtain ⟨F, hF⟩ : ∃ F, Hid (frameL x l = F) := ⟨_, hide rfl⟩
    obtain ⟨hh, hHh⟩ : ∃ hh, Hid ((headL x l).length = hh) := ⟨_, hide rfl⟩
    rw [hF.out] at HF HSEE HSUM HFl
    rw [hHh.out] at HSEE HSUM HFl hd6 hd22
    clear HFE hp
    go_enter Tryd.func4, Tryd.ntmps4
    go_wp2_with fail
    refine HF.out.mono ?_
    rintro e w1 ⟨af, cf, rfl, ho1, hb1⟩
    have HO1 := hide ho1
    have HB1 := hide hb1
    have HWK := hide (works_any w1)
    obtain ⟨Hd, hHd⟩ : ∃ Hd : Int, (F.length : Int) - (l.length : Int) = Hd := ⟨_, rfl⟩
    have HHh2 : Hid (Hd = (hh : Int)) := hide (by have := HFl.out; omega)
    have hd0 : 6 ≤ Hd := by have := HHh2.out; omega
    have hd2 : Hd ≤ 22 := by have := HHh2.out; omega
    have hfl : (F.length : Int) ≤ 65558 := by have := HFl.out; omega
    clear ho1 hb1 HF
    go_wp2_with fail
    refine HWK.out.mono ?_
    rintro e w2 ⟨rfl, hb2⟩
    have HB := hide (HB1.out.trans (hb2.mono HB1.out.size))
    have HO2 := hide (HO1.out.later hb2)
    have hform : ∃ gf, af = some ⟨gf, 0, none⟩ ∧ w.heap.size ≤ gf := by
      obtain ⟨gf, cap, hv', hbb, _⟩ := World.ownsRow.form HO2.out (by have := HFl.out; omega)
      cases hv'
      exact ⟨gf, rfl, hbb⟩
    obtain ⟨gf, rfl, hgf⟩ := hform
    have HO : Hid (Own w2 w.heap.size (.slice (some ⟨gf, 0, none⟩) F.length cf) F) := HO2
    clear hb2 HWK HB1 HO1 HO2
    go_wp2_with fail
    refine (HP.out _).mono ?_
    rintro e w3 ⟨rfl, hw⟩
    obtain rfl := hw.symm
    by_cases hpl : p = (l.length : Int)
    · have deq : (p == (l.length : Int)) = true := by simpa using hpl
      obtain ⟨A, hA⟩ : ∃ A : Int, A = -4 := ⟨_, rfl⟩
      obtain ⟨pos, hpos⟩ : ∃ pos : Nat, pos = hh - 4 := ⟨_, rfl⟩
      obtain ⟨N, hN⟩ : ∃ N : Nat, N = 4 := ⟨_, rfl⟩
      have HIN : Hid (∀ i : Nat, i < 4 → (A + (i : Int) < (l.length : Int) ↔ i < N)) := hide (by intro i hi; constructor <;> intro _ <;> omega)
      have HposA : Hid ((pos : Int) = Hd + A) := hide (by have := HHh2.out; omega)
      have hposN : pos + N ≤ F.length := by have := HFl.out; omega
      have hN4 : N ≤ 4 := by omega
      have aA0 : -4 ≤ A := by omega
      have aA1 : A ≤ 65536 := by omega
      have HFN : Hid ((¬ ∀ j, j < N → byteAt tn j = 0) → unE (chg F pos (byteAt tn) N) = 7) := hide (by
        intro hnot
        have hex : ∃ j, j < N ∧ byteAt tn j ≠ 0 := Classical.byContradiction fun hc => hnot fun j hj => Classical.byContradiction fun h => hc ⟨j, hj, h⟩
        rw [hpos, hN]
        rw [hN] at hex
        exact HSUM.out (byteAt tn) hex)
      have hA4 : (-4 : Int) = A := hA.symm
      clear HSEE HSUM HP hpl p0 p1 hpos hN hA
      go_wp2_with fail
      go_loopw [12, 13] (fun z i wr => ∃ (k : Nat) (cB : UInt8), k ≤ N ∧ i = .int .i64 k ∧ z = .int .u8 (cB.toNat : Int) ∧ Hid (Own wr w.heap.size (.slice (some ⟨gf, 0, none⟩) F.length cf) (chg F pos (byteAt tn) k)) ∧ Hid ((∀ j, j < k → byteAt tn j = 0) → cB = 0) ∧ Hid (Below w.heap.size w wr)) (fun _ i _ => 4 - (intOf i).toNat)
      case atStart => exact ⟨0, 0, Nat.zero_le _, rfl, rfl, HO, hide (fun _ => rfl), HB⟩
      case round =>
        clear HO HB
        obtain ⟨k, cB, hk, rfl, rfl, HO, HZC, HB⟩ := hrel
        by_cases hlt : k < N
        · have d4 : decide ((k : Int) < 4) = true := by rw [decide_eq_true_eq]; omega
          have dA : decide (A + (k : Int) < (l.length : Int)) = true := by rw [decide_eq_true_eq]; exact (HIN.out k (by omega)).2 hlt
          obtain ⟨s, hs⟩ : ∃ s : Int, 8 * (k : Int) = s := ⟨_, rfl⟩
          have s0 : 0 ≤ s := by omega
          have s1 : s ≤ 32 := by omega
          have HS : Hid (s.toNat = 8 * k) := hide (by omega)
          have HW := hide (byte_of tn k)
          rw [← HS.out] at HW
          obtain ⟨y, hy⟩ : ∃ y : Int, tn / 2 ^ s.toNat = y := ⟨_, rfl⟩
          rw [hy] at HW
          obtain ⟨J, hJ⟩ : ∃ J : Int, Hd + A + (k : Int) = J := ⟨_, rfl⟩
          have HJ : Hid (J.toNat = pos + k) := hide (by have := HposA.out; omega)
          have j0 : 0 ≤ J := by have := HposA.out; omega
          have j1 : J < (F.length : Int) := by have := HposA.out; omega
          have hlen : (chg F pos (byteAt tn) k).length = F.length := chg_len _ _ _ _
          obtain ⟨d, hd⟩ := some_at (l := F) (k := pos + k) (by omega)
          have hcell : wr.cell? ⟨gf, J.toNat, none⟩ = some (.int .u8 (d.toNat : Int)) := by
            have h' := HO.out
            unfold Own at h'
            rw [hlen] at h'
            rw [HJ.out, World.ownsRow.cellAt h' (pos + k) (by omega)]
            exact bv_at (by rw [chg_at F pos (byteAt tn) k (pos + k) (Nat.le_refl _)]; exact hd)
          have hfr : wr.frozen? ⟨gf, J.toNat, none⟩ = false := by
            have h' := HO.out
            unfold Own at h'
            rw [hlen] at h'
            exact World.ownsRow.frozenAt h' _
          have hxor : bits .xor .u8 (d.toNat : Int) (y % 256) = ((d ^^^ byteAt tn k).toNat : Int) := by rw [HW.out]; exact xor_u8 _ _
          have hor : bits .or .u8 (cB.toNat : Int) (y % 256) = ((cB ||| byteAt tn k).toNat : Int) := by rw [HW.out]; exact or_u8 _ _
          have HO1 : Hid (Own (wr.setCell ⟨gf, J.toNat, none⟩ (.int .u8 ((d ^^^ byteAt tn k).toNat : Int))) w.heap.size (.slice (some ⟨gf, 0, none⟩) F.length cf) (chg F pos (byteAt tn) (k + 1))) := hide (by
            have h' := HO.out
            unfold Own at h' ⊢
            rw [hlen] at h'
            have h2 := (World.ownsRow.stored h' (pos + k) (.int .u8 ((d ^^^ byteAt tn k).toNat : Int))).1
            rw [HJ.out, chg_len]
            have e : bv (chg F pos (byteAt tn) (k + 1)) = (bv (chg F pos (byteAt tn) k)).set (pos + k) (.int .u8 ((d ^^^ byteAt tn k).toNat : Int)) := by
              show bv ((chg F pos (byteAt tn) k).set (pos + k) (F.getD (pos + k) 0 ^^^ byteAt tn k)) = _
              have : F.getD (pos + k) 0 = d := by rw [List.getD_eq_getElem?_getD, hd]; rfl
              rw [this]
              unfold bv; rw [List.map_set]
            rw [e]; exact h2)
          have HB1 := hide (HB.out.setCell (p := ⟨gf, J.toNat, none⟩) hgf (.int .u8 ((d ^^^ byteAt tn k).toNat : Int)))
          have HZ1 : Hid ((∀ j, j < k + 1 → byteAt tn j = 0) → (cB ||| byteAt tn k) = 0) := hide (by
            intro hall
            rw [HZC.out (fun j hj => hall j (by omega)), hall k (by omega)]; rfl)
          generalize d ^^^ byteAt tn k = dd at *
          generalize cB ||| byteAt tn k = cc at *
          clear hlen hd HO HB HZC HW HS HJ
          go_wp2_with fail
          go_roundw
          case rel => exact ⟨k + 1, _, by omega, by go_num, rfl, HO1, HZ1, HB1⟩
          case measure => simp [intOf]; omega
        · have hkN : k = N := by omega
          subst hkN
          by_cases hz : cB = 0
          · subst hz
            by_cases h4 : k < 4
            · have d4 : decide ((k : Int) < 4) = true := by rw [decide_eq_true_eq]; omega
              have dA : decide (A + (k : Int) < (l.length : Int)) = false := by
                rw [decide_eq_false_iff_not]; intro h; have := (HIN.out k h4).1 h; omega
              go_wp2_with fail
              go_ret
              exact ⟨rfl, HB.out⟩
            · have d4 : decide ((k : Int) < 4) = false := by rw [decide_eq_false_iff_not]; omega
              go_wp2_with fail
              go_ret
              exact ⟨rfl, HB.out⟩
          · have hne : ((cB.toNat : Int) == 0) = false := by
              simp only [beq_eq_false_iff_ne, ne_eq]
              intro e
              exact hz (UInt8.toNat_inj.1 (by show cB.toNat = 0; omega))
            have hE7 := HFN.out (fun hall => hz (HZC.out hall))
            have hlen : (chg F pos (byteAt tn) k).length = F.length := chg_len _ _ _ _
            have HUF := hide (unframe_any (.slice (some ⟨gf, 0, none⟩) F.length cf) (chg F pos (byteAt tn) k) wr HO.out.rb (HT.out.below HB.out) (by rw [hlen]; omega))
            rw [hE7] at HUF
            clear hz hE7 hlen HO HZC HFN
            simp only [show ¬ ((7 : Int) = 0) by decide, if_false] at HUF
            by_cases h4 : k < 4
            · have d4 : decide ((k : Int) < 4) = true := by rw [decide_eq_true_eq]; omega
              have dA : decide (A + (k : Int) < (l.length : Int)) = false := by
                rw [decide_eq_false_iff_not]; intro h; have := (HIN.out k h4).1 h; omega
              go_wp2_with fail
              refine HUF.out.mono ?_
              rintro e w5 ⟨⟨u, rfl, hu⟩, hb5⟩
              have HB5 := hide (HB.out.trans (hb5.mono HB.out.size))
              have HPL := hide (plain_errV 7 7 w5 (by decide) (by decide) (HET.out.below HB5.out))
              rw [show ((7 : Int) == 7) = true by decide] at HPL
              obtain ⟨au, cu, hu'⟩ := hu.slice
              have hu2 : u = .slice au 0 cu := hu'
              subst hu2
              rw [errV_pos (by decide)] at HPL ⊢
              clear hu hu' hb5 HUF
              go_wp2_with fail
              refine HPL.out.mono ?_
              rintro e w6 ⟨rfl, hb6⟩
              have HB6 := hide (HB5.out.trans (hb6.mono HB5.out.size))
              clear hb6
              go_wp2_with fail
              go_ret
              exact ⟨rfl, HB6.out⟩
            · have d4 : decide ((k : Int) < 4) = false := by rw [decide_eq_false_iff_not]; omega
              go_wp2_with fail
              refine HUF.out.mono ?_
              rintro e w5 ⟨⟨u, rfl, hu⟩, hb5⟩
              have HB5 := hide (HB.out.trans (hb5.mono HB.out.size))
              have HPL := hide (plain_errV 7 7 w5 (by decide) (by decide) (HET.out.below HB5.out))
              rw [show ((7 : Int) == 7) = true by decide] at HPL
              obtain ⟨au, cu, hu'⟩ := hu.slice
              have hu2 : u = .slice au 0 cu := hu'
              subst hu2
              rw [errV_pos (by decide)] at HPL ⊢
              clear hu hu' hb5 HUF
              go_wp2_with fail
              refine HPL.out.mono ?_
              rintro e w6 ⟨rfl, hb6⟩
              have HB6 := hide (HB5.out.trans (hb6.mono HB5.out.size))
              clear hb6
              go_wp2_with fail
              go_ret
              exact ⟨rfl, HB6.out⟩
    · have deq : (p == (l.length : Int)) = false := by simpa using hpl
      obtain ⟨pn, hpn⟩ := Int.eq_ofNat_of_zero_le p0
      obtain ⟨pos, hpos⟩ : ∃ pos : Nat, pos = hh + pn := ⟨_, rfl⟩
      obtain ⟨N, hN⟩ : ∃ N : Nat, N = min 4 (l.length - pn) := ⟨_, rfl⟩
      obtain ⟨A, hA⟩ : ∃ A : Int, A = p := ⟨_, rfl⟩
      have HIN : Hid (∀ i : Nat, i < 4 → (A + (i : Int) < (l.length : Int) ↔ i < N)) := hide (by intro i hi; constructor <;> intro _ <;> omega)
      have HposA : Hid ((pos : Int) = Hd + A) := hide (by have := HHh2.out; omega)
      have hposN : pos + N ≤ F.length := by have := HFl.out; omega
      have hN4 : N ≤ 4 := by omega
      have aA0 : -4 ≤ A := by omega
      have aA1 : A ≤ 65536 := by omega
      have HFN : Hid ((¬ ∀ j, j < N → byteAt tn j = 0) → unE (chg F pos (byteAt tn) N) = 7) := hide (by
        intro hnot
        have hex : ∃ j, j < N ∧ byteAt tn j ≠ 0 := Classical.byContradiction fun hc => hnot fun j hj => Classical.byContradiction fun h => hc ⟨j, hj, h⟩
        have hple : pn ≤ l.length := by omega
        have h := HSEE.out (l.take pn) ((l.drop pn).take N) ((l.drop pn).drop N) (byteAt tn) N (by rw [List.length_take, List.length_drop]; omega) hN4 (by rw [List.append_assoc, List.take_append_drop, List.take_append_drop]) hex
        rw [List.length_take, Nat.min_eq_left hple, ← hpos] at h
        exact h)
      rw [← hA] at deq ⊢
      clear HSEE HSUM HP hpl p0 p1 hpos hN hA hpn
      go_wp2_with fail
      go_loopw [12, 13] (fun z i wr => ∃ (k : Nat) (cB : UInt8), k ≤ N ∧ i = .int .i64 k ∧ z = .int .u8 (cB.toNat : Int) ∧ Hid (Own wr w.heap.size (.slice (some ⟨gf, 0, none⟩) F.length cf) (chg F pos (byteAt tn) k)) ∧ Hid ((∀ j, j < k → byteAt tn j = 0) → cB = 0) ∧ Hid (Below w.heap.size w wr)) (fun _ i _ => 4 - (intOf i).toNat)
      case atStart => exact ⟨0, 0, Nat.zero_le _, rfl, rfl, HO, hide (fun _ => rfl), HB⟩
      case round =>
        clear HO HB
        obtain ⟨k, cB, hk, rfl, rfl, HO, HZC, HB⟩ := hrel
        by_cases hlt : k < N
        · have d4 : decide ((k : Int) < 4) = true := by rw [decide_eq_true_eq]; omega
          have dA : decide (A + (k : Int) < (l.length : Int)) = true := by rw [decide_eq_true_eq]; exact (HIN.out k (by omega)).2 hlt
          obtain ⟨s, hs⟩ : ∃ s : Int, 8 * (k : Int) = s := ⟨_, rfl⟩
          have s0 : 0 ≤ s := by omega
          have s1 : s ≤ 32 := by omega
          have HS : Hid (s.toNat = 8 * k) := hide (by omega)
          have HW := hide (byte_of tn k)
          rw [← HS.out] at HW
          obtain ⟨y, hy⟩ : ∃ y : Int, tn / 2 ^ s.toNat = y := ⟨_, rfl⟩
          rw [hy] at HW
          obtain ⟨J, hJ⟩ : ∃ J : Int, Hd + A + (k : Int) = J := ⟨_, rfl⟩
          have HJ : Hid (J.toNat = pos + k) := hide (by have := HposA.out; omega)
          have j0 : 0 ≤ J := by have := HposA.out; omega
          have j1 : J < (F.length : Int) := by have := HposA.out; omega
          have hlen : (chg F pos (byteAt tn) k).length = F.length := chg_len _ _ _ _
          obtain ⟨d, hd⟩ := some_at (l := F) (k := pos + k) (by omega)
          have hcell : wr.cell? ⟨gf, J.toNat, none⟩ = some (.int .u8 (d.toNat : Int)) := by
            have h' := HO.out
            unfold Own at h'
            rw [hlen] at h'
            rw [HJ.out, World.ownsRow.cellAt h' (pos + k) (by omega)]
            exact bv_at (by rw [chg_at F pos (byteAt tn) k (pos + k) (Nat.le_refl _)]; exact hd)
          have hfr : wr.frozen? ⟨gf, J.toNat, none⟩ = false := by
            have h' := HO.out
            unfold Own at h'
            rw [hlen] at h'
            exact World.ownsRow.frozenAt h' _
          have hxor : bits .xor .u8 (d.toNat : Int) (y % 256) = ((d ^^^ byteAt tn k).toNat : Int) := by rw [HW.out]; exact xor_u8 _ _
          have hor : bits .or .u8 (cB.toNat : Int) (y % 256) = ((cB ||| byteAt tn k).toNat : Int) := by rw [HW.out]; exact or_u8 _ _
          have HO1 : Hid (Own (wr.setCell ⟨gf, J.toNat, none⟩ (.int .u8 ((d ^^^ byteAt tn k).toNat : Int))) w.heap.size (.slice (some ⟨gf, 0, none⟩) F.length cf) (chg F pos (byteAt tn) (k + 1))) := hide (by
            have h' := HO.out
            unfold Own at h' ⊢
            rw [hlen] at h'
            have h2 := (World.ownsRow.stored h' (pos + k) (.int .u8 ((d ^^^ byteAt tn k).toNat : Int))).1
            rw [HJ.out, chg_len]
            have e : bv (chg F pos (byteAt tn) (k + 1)) = (bv (chg F pos (byteAt tn) k)).set (pos + k) (.int .u8 ((d ^^^ byteAt tn k).toNat : Int)) := by
              show bv ((chg F pos (byteAt tn) k).set (pos + k) (F.getD (pos + k) 0 ^^^ byteAt tn k)) = _
              have : F.getD (pos + k) 0 = d := by rw [List.getD_eq_getElem?_getD, hd]; rfl
              rw [this]
              unfold bv; rw [List.map_set]
            rw [e]; exact h2)
          have HB1 := hide (HB.out.setCell (p := ⟨gf, J.toNat, none⟩) hgf (.int .u8 ((d ^^^ byteAt tn k).toNat : Int)))
          have HZ1 : Hid ((∀ j, j < k + 1 → byteAt tn j = 0) → (cB ||| byteAt tn k) = 0) := hide (by
            intro hall
            rw [HZC.out (fun j hj => hall j (by omega)), hall k (by omega)]; rfl)
          generalize d ^^^ byteAt tn k = dd at *
          generalize cB ||| byteAt tn k = cc at *
          clear hlen hd HO HB HZC HW HS HJ
          go_wp2_with fail
          go_roundw
          case rel => exact ⟨k + 1, _, by omega, by go_num, rfl, HO1, HZ1, HB1⟩
          case measure => simp [intOf]; omega
        · have hkN : k = N := by omega
          subst hkN
          by_cases hz : cB = 0
          · subst hz
            by_cases h4 : k < 4
            · have d4 : decide ((k : Int) < 4) = true := by rw [decide_eq_true_eq]; omega
              have dA : decide (A + (k : Int) < (l.length : Int)) = false := by
                rw [decide_eq_false_iff_not]; intro h; have := (HIN.out k h4).1 h; omega
              go_wp2_with fail
              go_ret
              exact ⟨rfl, HB.out⟩
            · have d4 : decide ((k : Int) < 4) = false := by rw [decide_eq_false_iff_not]; omega
              go_wp2_with fail
              go_ret
              exact ⟨rfl, HB.out⟩
          · have hne : ((cB.toNat : Int) == 0) = false := by
              simp only [beq_eq_false_iff_ne, ne_eq]
              intro e
              exact hz (UInt8.toNat_inj.1 (by show cB.toNat = 0; omega))
            have hE7 := HFN.out (fun hall => hz (HZC.out hall))
            have hlen : (chg F pos (byteAt tn) k).length = F.length := chg_len _ _ _ _
            have HUF := hide (unframe_any (.slice (some ⟨gf, 0, none⟩) F.length cf) (chg F pos (byteAt tn) k) wr HO.out.rb (HT.out.below HB.out) (by rw [hlen]; omega))
            rw [hE7] at HUF
            clear hz hE7 hlen HO HZC HFN
            simp only [show ¬ ((7 : Int) = 0) by decide, if_false] at HUF
            by_cases h4 : k < 4
            · have d4 : decide ((k : Int) < 4) = true := by rw [decide_eq_true_eq]; omega
              have dA : decide (A + (k : Int) < (l.length : Int)) = false := by
                rw [decide_eq_false_iff_not]; intro h; have := (HIN.out k h4).1 h; omega
              go_wp2_with fail
              refine HUF.out.mono ?_
              rintro e w5 ⟨⟨u, rfl, hu⟩, hb5⟩
              have HB5 := hide (HB.out.trans (hb5.mono HB.out.size))
              have HPL := hide (plain_errV 7 7 w5 (by decide) (by decide) (HET.out.below HB5.out))
              rw [show ((7 : Int) == 7) = true by decide] at HPL
              obtain ⟨au, cu, hu'⟩ := hu.slice
              have hu2 : u = .slice au 0 cu := hu'
              subst hu2
              rw [errV_pos (by decide)] at HPL ⊢
              clear hu hu' hb5 HUF
              go_wp2_with fail
              refine HPL.out.mono ?_
              rintro e w6 ⟨rfl, hb6⟩
              have HB6 := hide (HB5.out.trans (hb6.mono HB5.out.size))
              clear hb6
              go_wp2_with fail
              go_ret
              exact ⟨rfl, HB6.out⟩
            · have d4 : decide ((k : Int) < 4) = false := by rw [decide_eq_false_iff_not]; omega
              go_wp2_with fail
              refine HUF.out.mono ?_
              rintro e w5 ⟨⟨u, rfl, hu⟩, hb5⟩
              have HB5 := hide (HB.out.trans (hb5.mono HB.out.size))
              have HPL := hide (plain_errV 7 7 w5 (by decide) (by decide) (HET.out.below HB5.out))
              rw [show ((7 : Int) == 7) = true by decide] at HPL
              obtain ⟨au, cu, hu'⟩ := hu.slice
              have hu2 : u = .slice au 0 cu := hu'
              subst hu2
              rw [errV_pos (by decide)] at HPL ⊢
              clear hu hu' hb5 HUF
              go_wp2_with fail
              refine HPL.out.mono ?_
              rintro e w6 ⟨rfl, hb6⟩
              have HB6 := hide (HB5.out.trans (hb6.mono HB5.out.size))
              clear hb6
              go_wp2_with fail
              go_ret
              exact ⟨rfl, HB6.out⟩
end Go.Proofs.YtbkgegiglegnjabDoor
