/-
  My own text: the law that a frame is found again.
-/
import Derived.Test.YtbkgegiglegnjabDoorWFm
namespace Go.Proofs.YtbkgegiglegnjabDoor
open Go.RowKit Go.Extern

set_option maxRecDepth 100000 in
set_option maxHeartbeats 1000000 in
theorem copyBytes_any (v : Value) (l : List UInt8) (w : World) (hv : RB w v l) (hl : l.length ≤ 140737488355300) :
    Calls Tryd.prog 7 #[v] w fun e w' => ∃ v', e = .returned v' ∧ Own w' w.heap.size v' l ∧ Below w.heap.size w w' := by
  obtain ⟨b, a, cap, rfl, hcap, hr⟩ := hv
  obtain ⟨i0, hi, hz0, hz1, hz2⟩ := info_parts Tryd.infoB
  go_enter Tryd.func7, Tryd.ntmps7
  go_wp2
  go_loopw [3, 4] (fun o i wr => ∃ k : Nat, k ≤ l.length ∧ i = .int .i64 k ∧ wr.ownsRow w.heap.size 5 1 o k (bv (l.take k)) ∧ Below w.heap.size w wr) (fun _ i _ => l.length - (intOf i).toNat)
  case atStart => exact ⟨0, Nat.zero_le _, rfl, World.ownsRow_nil w w.heap.size 5 1, Below.refl _ _⟩
  case round =>
    obtain ⟨k, hk, rfl, hown, hB⟩ := hrel
    by_cases hlt : k < l.length
    · obtain ⟨x, hx⟩ := some_at hlt
      rcases hr with h0 | ⟨off, rfl, hbl, hc⟩
      · rw [h0] at hlt; simp at hlt
      have hcell := (hB.cell (p := ⟨b, off + k, none⟩) hbl).trans (hc k x hx)
      have HT : Hid (bv (l.take (k + 1)) = bv (l.take k) ++ [.int .u8 (x.toNat : Int)]) := hide (by rw [List.take_add_one, hx]; exact bv_snoc _ _)
      clear hc hx
      go_wp2_with (first
        | (at_builtin; refine wpList_append_own _ rfl _ _ 23 rfl w.heap.size 5 i0 (.int .u8 0) 1 1 Tryd.underlying23 hi hz0 hz1 hz2 rfl (by decide) _ _ _ rfl (hown.alloc _) ⟨_, 0, none⟩ 1 1 [.int .u8 (x.toNat : Int)] rfl rfl ?c1 ?c2 ?c3 ?c4 ?c5 ?_)
        | go_in)
      case c1 =>
        intro j u hj
        match j, hj with
        | 0, hj => simp at hj; subst hj; simp [Addr.add]
      case c2 => intro u hu; simp at hu; subst hu; rfl
      case c3 => unfold maxLen; omega
      case c4 => omega
      case c5 => have := hB.size; simp; omega
      intro v' w1 hown' hgrow _
      have hB1 : Below w.heap.size w w1 := (hB.alloc hB.size _).grown hgrow (by have := hB.size; simp; omega) (fun k hk => (hown.lt k hk).1)
      clear hown hgrow
      go_wp2
      go_roundw
      case rel => exact ⟨k + 1, by omega, by go_num, by rw [HT.out]; exact hown', hB1⟩
      case measure => simp [intOf]; omega
    · have hk' : k = l.length := by omega
      subst hk'
      rw [List.take_length] at hown
      go_wp2
      go_ret
      exact ⟨_, rfl, hown, hB⟩

/-- One row behind an own one, as the walk meets it: a source of any kind. -/
theorem bytes_src {w w4 : World} {v : Value} {l : List UInt8} (hv : RB w v l) (hb : Below w.heap.size w w4) : (∃ c, v = .slice none 0 c ∧ l = []) ∨ ∃ ad c, v = .slice (some ad) l.length c ∧ ∀ (j : Nat) (u : Value), (bv l)[j]? = some u → w4.cell? (ad.add j) = some u := by
  obtain ⟨g, a, cap, rfl, _, hr⟩ := hv
  cases a with
  | none =>
    left
    rcases hr with h | ⟨off, h, _⟩
    · subst h; exact ⟨cap, rfl, rfl⟩
    · cases h
  | some ad =>
    right
    refine ⟨ad, cap, rfl, fun j u hj => ?_⟩
    rcases hr with h | ⟨off, h, hlt, hc⟩
    · rw [h] at hj; simp [bv] at hj
    · cases h
      have hjl : j < l.length := by have := (List.getElem?_eq_some_iff.1 hj).1; rwa [bv_len] at this
      obtain ⟨c, hc2⟩ := some_at hjl
      rw [bv_at hc2] at hj
      cases hj
      have e1 : (⟨g, off, none⟩ : Addr).add j = ⟨g, off + j, none⟩ := by simp [Addr.add]
      rw [e1, hb.cell (p := ⟨g, off + j, none⟩) hlt]
      exact hc j c hc2

set_option maxRecDepth 100000 in
set_option maxHeartbeats 4000000 in
theorem framed_law (x : Int) (v u : Value) (l r : List UInt8) (w : World) (x0 : 0 ≤ x) (x1 : x < 18446744073709551616) (hv : RB w v l) (hu : RB w u r) (hT : Tab w) (hE : ErrType w) (hl : l.length ≤ 140737488355328) (hr2 : r.length ≤ 140737488000000) :
    Calls Tryd.prog 3 #[.int .u64 x, v, u] w fun e w' => e = .returned (.bool true) ∧ Below w.heap.size w w' := by
  have nG := Tryd.nilNeqG
  have nN := Tryd.nilNeq
  have eG := Tryd.nilEqlG
  have eE := Tryd.nilEql
  by_cases hbig : 65536 < l.length
  · have HF := hide (frame_many x v l w hv hbig)
    rw [errV_pos (by decide)] at HF
    obtain ⟨gv, av, cv, rfl, _, _⟩ := hv
    obtain ⟨gu, au, cu, rfl, _, _⟩ := hu
    go_enter Tryd.func3, Tryd.ntmps3
    go_wp2_with fail
    refine HF.out.mono ?_
    rintro e w1 ⟨rfl, hw⟩
    obtain rfl := hw.symm
    go_wp2_with fail
    go_ret
    exact ⟨rfl, Below.refl _ _⟩
  · have hl6 : l.length ≤ 65536 := by omega
    obtain ⟨i0, hi, hz0, hz1, hz2⟩ := info_parts Tryd.infoB
    have HF := hide (frame_ok x v l w x0 x1 hv hT hl6)
    have HT := hide hT
    have HET := hide hE
    have HV := hide hv
    have HU := hide hu
    obtain ⟨hd6, hd22⟩ := head_len x l
    have hFl : (frameL x l).length ≤ 65558 := by unfold frameL; rw [List.length_append]; omega
    have hF6 : 6 ≤ (frameL x l).length := by unfold frameL; rw [List.length_append]; omega
    have HFR := hide (unE_frame (r := r) x0 x1 hl6)
    have HPR : Hid (∀ i, i < (frameL x l).length → unE ((frameL x l).take i) = 2) := hide fun i hi => unE_prefix x0 x1 hl6 hi
    have HTK9 : Hid (r = [] → unE r = 2) := hide (by intro h; subst h; decide)
    have HTK : Hid (unE r = 0 → r = frameL (un2 r).1 (un4 r).1 ++ (un4 r).2.1 ∧ (un4 r).1.length ≤ 65536) := hide unE_taken
    obtain ⟨gv, av, cv, rfl, _, _⟩ := hv
    obtain ⟨F, hF⟩ : ∃ F, Hid (frameL x l = F) := ⟨_, hide rfl⟩
    rw [hF.out] at HF HFR HPR hFl hF6
    have hsrc := fun W hb => bytes_src (w4 := W) hu hb
    have HSRC := hide hsrc
    obtain ⟨gu, hgu⟩ := hu
    have HGU := hide hgu
    obtain ⟨au, cu, rfl, hcu, _⟩ := hgu
    clear hT hE hbig hl hF hd6 hd22 hsrc
    go_enter Tryd.func3, Tryd.ntmps3
    go_wp2_with fail
    refine HF.out.mono ?_
    rintro e w1 ⟨af, cf, rfl, ho1, hb1⟩
    have HO1 := hide ho1
    have HB1 := hide hb1
    have HCP := hide (copyBytes_any _ F w1 ho1.rb (by omega))
    clear ho1 hb1 HF
    go_wp2_with fail
    refine HCP.out.mono ?_
    rintro e w2 ⟨v2, rfl, ho2, hb2⟩
    have HB2 := hide (HB1.out.trans (hb2.mono HB1.out.size))
    have HO2 := hide ho2
    obtain ⟨a2, c2, rfl⟩ := ho2.slice
    have hb12 := hb2
    have HO1' := HO1
    rcases HSRC.out w2 HB2.out with ⟨cn, hnil, hr0⟩ | ⟨ad, cn, hsome, hcell⟩
    · rw [Value.slice.injEq] at hnil
      obtain ⟨rfl, hrl, rfl⟩ := hnil
      have hr00 := hide hr0
      rw [hrl] at HU ⊢
      go_wp2_with (first
        | (at_builtin; refine wpList_append_own_none' rfl _ _ 23 rfl w1.heap.size 5 i0 1 Tryd.underlying23 hi _ _ _ rfl HO2.out cu rfl ?_)
        | fail)
      have HZL : Hid ((F ++ r).length = F.length + r.length) := hide (by rw [List.length_append])
      have HB3 := HB2
      have HOF := hide (HO1'.out.later hb12)
      have HZ3 : Hid (RB w2 (.slice a2 F.length c2) (F ++ r)) := hide (by rw [hr0, List.append_nil]; exact HO2.out.rb)
      obtain ⟨Z, hZ⟩ : ∃ Z, Hid (F ++ r = Z) := ⟨_, hide rfl⟩
      rw [hZ.out] at HZ3 HZL
      clear hb12 hb2 HO2 HB2 HO1' HO1 HSRC HCP HGU
      have HUN := hide (unframe_any _ Z w2 HZ3.out (HT.out.below HB3.out) (by have := HZL.out; omega))
      rw [← hZ.out, HFR.out.1, HFR.out.2.1, HFR.out.2.2] at HUN
      simp only [if_true] at HUN
      rw [hZ.out, errV_zero] at HUN
      have hzl : (Z.length : Int) - (r.length : Int) = (F.length : Int) := by have := HZL.out; omega
      rw [hzl] at HUN
      have hxx : (x != x) = false := by simp
      have hkk : ((F.length : Int) != (F.length : Int)) = false := by simp
      clear hzl HZ3
      go_wp2_with fail
      refine HUN.out.mono ?_
      rintro e w4 ⟨⟨u4, rfl, hu4⟩, hb4⟩
      have HB4 := hide (HB3.out.trans (hb4.mono HB3.out.size))
      have HOF4 := hide (HOF.out.later hb4)
      have HSB := hide (sameBytes_any u4 _ l l w4 hu4.rb (HV.out.later HB4.out) (by omega))
      rw [show decide (l = l) = true by simp] at HSB
      obtain ⟨a4, c4, rfl⟩ := hu4.slice
      clear hu4 hb4 HUN HB3 HOF
      go_wp2_with fail
      refine HSB.out.mono ?_
      rintro e w5 ⟨rfl, hb5⟩
      have HB5 := hide (HB4.out.trans (hb5.mono HB4.out.size))
      have HOF5 := hide (HOF4.out.later hb5)
      clear hb5 HSB HB4 HOF4 hxx hkk
      have hform : ∃ gf, af = some ⟨gf, 0, none⟩ := by
        obtain ⟨gf, cap, hv', hbb, _⟩ := World.ownsRow.form HOF5.out (by omega)
        cases hv'
        exact ⟨gf, rfl⟩
      obtain ⟨gf, rfl⟩ := hform
      have HCF : Hid (F.length ≤ cf) := hide (by
        rcases HOF5.out.2 with ⟨h, _⟩ | ⟨g', cap', cur, hv', _, _, hn, _⟩
        · cases h
        · cases hv'; exact hn)
      have hcf : (F.length : Int) ≤ (cf : Int) := by have := HCF.out; omega
      go_wp2_with fail
      go_loopw [13] (fun i wr => ∃ k : Nat, k ≤ F.length ∧ i = .int .i64 k ∧ Hid (Own wr w.heap.size (.slice (some ⟨gf, 0, none⟩) F.length cf) F) ∧ Hid (Below w.heap.size w wr)) (fun i _ => F.length - (intOf i).toNat)
      case atStart => exact ⟨0, Nat.zero_le _, rfl, HOF5, HB5⟩
      case round =>
        clear HOF5 HB5
        obtain ⟨k, hk, rfl, HOF, HB⟩ := hrel
        by_cases hlt : k < F.length
        · by_cases hmid : 40 < k ∧ (k : Int) < (F.length : Int) - 40
          · have dk : decide (40 < (k : Int)) = true := by rw [decide_eq_true_eq]; omega
            have dm : decide ((k : Int) < (F.length : Int) - 40) = true := by rw [decide_eq_true_eq]; exact hmid.2
            clear hmid
            go_wp2_with fail
            go_roundw
            case rel => exact ⟨k + 1, by omega, by go_num, HOF, HB⟩
            case measure => simp [intOf]; omega
          · have HRG : Hid (RB wr (.slice (some ⟨gf, 0, none⟩) k cf) (F.take k)) := hide (by
              obtain ⟨g9, hg9, hgo⟩ := HOF.out.rg
              have hgg : g9 = gf := by
                have := hgo (fun h => by rw [h] at hlt; simp at hlt)
                simpa [Value.ownBlock] using this.symm
              subst hgg
              exact ⟨g9, rg_take hg9 (by omega)⟩)
            have HUN := hide (unframe_any _ (F.take k) wr HRG.out (HT.out.below HB.out) (by rw [List.length_take]; omega))
            rw [HPR.out k hlt] at HUN
            simp only [show ¬ ((2 : Int) = 0) by decide, if_false] at HUN
            rw [errV_pos (by decide)] at HUN
            have hkc : (k : Int) ≤ (cf : Int) := by omega
            by_cases h40 : 40 < k
            · have dk : decide (40 < (k : Int)) = true := by rw [decide_eq_true_eq]; omega
              have dm : decide ((k : Int) < (F.length : Int) - 40) = false := by rw [decide_eq_false_iff_not]; intro h; exact hmid ⟨h40, h⟩
              clear hmid HRG
              go_wp2_with fail
              refine HUN.out.mono ?_
              rintro e w7 ⟨⟨u7, rfl, hu7⟩, hb7⟩
              have HB7 := hide (HB.out.trans (hb7.mono HB.out.size))
              have HOF7 := hide (HOF.out.later hb7)
              have HPL := hide (plain_errV 2 2 w7 (by decide) (by decide) (HET.out.below HB7.out))
              rw [show ((2 : Int) == 2) = true by decide, errV_pos (by decide)] at HPL
              obtain ⟨a7, c7, hu'⟩ := hu7.slice
              have hu2 : u7 = .slice a7 0 c7 := hu'
              subst hu2
              clear hu7 hu' hb7 HUN HB HOF
              go_wp2_with fail
              refine HPL.out.mono ?_
              rintro e w8 ⟨rfl, hb8⟩
              have HB8 := hide (HB7.out.trans (hb8.mono HB7.out.size))
              have HOF8 := hide (HOF7.out.later hb8)
              clear hb8 HPL HB7 HOF7
              go_wp2_with fail
              go_roundw
              case rel => exact ⟨k + 1, by omega, by go_num, HOF8, HB8⟩
              case measure => simp [intOf]; omega
            · have dk : decide (40 < (k : Int)) = false := by rw [decide_eq_false_iff_not]; omega
              clear hmid HRG
              go_wp2_with fail
              refine HUN.out.mono ?_
              rintro e w7 ⟨⟨u7, rfl, hu7⟩, hb7⟩
              have HB7 := hide (HB.out.trans (hb7.mono HB.out.size))
              have HOF7 := hide (HOF.out.later hb7)
              have HPL := hide (plain_errV 2 2 w7 (by decide) (by decide) (HET.out.below HB7.out))
              rw [show ((2 : Int) == 2) = true by decide, errV_pos (by decide)] at HPL
              obtain ⟨a7, c7, hu'⟩ := hu7.slice
              have hu2 : u7 = .slice a7 0 c7 := hu'
              subst hu2
              clear hu7 hu' hb7 HUN HB HOF
              go_wp2_with fail
              refine HPL.out.mono ?_
              rintro e w8 ⟨rfl, hb8⟩
              have HB8 := hide (HB7.out.trans (hb8.mono HB7.out.size))
              have HOF8 := hide (HOF7.out.later hb8)
              clear hb8 HPL HB7 HOF7
              go_wp2_with fail
              go_roundw
              case rel => exact ⟨k + 1, by omega, by go_num, HOF8, HB8⟩
              case measure => simp [intOf]; omega
        · have HUB := hide (unframe_any _ r wr (HU.out.later HB.out) (HT.out.below HB.out) (by omega))
          by_cases h0 : unE r = 0
          · exact absurd (HTK9.out hr00.out) (by rw [h0]; decide)
          · have h1 : 1 ≤ unE r := by
              have : 0 ≤ unE r := by
                obtain ⟨_, _, _, ⟨d0, _, _⟩⟩ := un_rng r
                unfold unE; split
                · exact d0
                · split <;> decide
              omega
            simp only [h0, if_false] at HUB
            rw [errV_pos h1] at HUB
            clear h0 h1
            go_wp2_with fail
            refine HUB.out.mono ?_
            rintro e w7 ⟨⟨u7, rfl, hu7⟩, hb7⟩
            have HB7 := hide (HB.out.trans (hb7.mono HB.out.size))
            obtain ⟨a7, c7, hu'⟩ := hu7.slice
            have hu2 : u7 = .slice a7 0 c7 := hu'
            subst hu2
            clear hu7 hu' hb7 HUB HB
            go_wp2_with fail
            go_ret
            exact ⟨rfl, HB7.out⟩
    · cases hsome
      go_wp2_with (first
        | (at_builtin; refine wpList_append_own_at _ rfl _ _ 23 rfl w1.heap.size 5 i0 (.int .u8 0) 1 1 Tryd.underlying23 hi hz0 hz1 hz2 rfl (by decide) _ _ _ rfl HO2.out ad r.length cu (bv r) rfl (by rw [bv_len]; omega) hcell (bv_one r) ?c3 ?c4 ?c5 ?_)
        | go_in)
      case c3 => unfold maxLen; omega
      case c4 => omega
      case c5 => exact hb12.size
      intro v3 w3 hown hgrow _ _
      have hb23 : Below w1.heap.size w2 w3 := (Below.refl w1.heap.size w2).grown hgrow hb12.size (fun g h => HO2.out.at g h)
      have HO3 : Hid (Own w3 w1.heap.size v3 (F ++ r)) := hide (by unfold Own; rw [bv_app, List.length_append]; exact hown)
      have HB3 := hide (HB1.out.trans ((hb12.trans hb23).mono HB1.out.size))
      have HOF := hide (HO1'.out.later (hb12.trans hb23))
      have HZL : Hid ((F ++ r).length = F.length + r.length) := hide (by rw [List.length_append])
      have HZ3 := hide HO3.out.rb
      obtain ⟨a3, c3, rfl⟩ := HO3.out.slice
      obtain ⟨Z, hZ⟩ : ∃ Z, Hid (F ++ r = Z) := ⟨_, hide rfl⟩
      rw [hZ.out] at HZ3 HZL ⊢
      clear hown hgrow hb23 hb12 hb2 HO2 HB2 HO3 HO1' HO1 hcell HSRC HCP
      have HUN := hide (unframe_any _ Z w3 HZ3.out (HT.out.below HB3.out) (by have := HZL.out; omega))
      rw [← hZ.out, HFR.out.1, HFR.out.2.1, HFR.out.2.2] at HUN
      simp only [if_true] at HUN
      rw [hZ.out, errV_zero] at HUN
      have hzl : (Z.length : Int) - (r.length : Int) = (F.length : Int) := by have := HZL.out; omega
      rw [hzl] at HUN
      have hxx : (x != x) = false := by simp
      have hkk : ((F.length : Int) != (F.length : Int)) = false := by simp
      clear hzl HZ3
      go_wp2_with fail
      refine HUN.out.mono ?_
      rintro e w4 ⟨⟨u4, rfl, hu4⟩, hb4⟩
      have HB4 := hide (HB3.out.trans (hb4.mono HB3.out.size))
      have HOF4 := hide (HOF.out.later hb4)
      have HSB := hide (sameBytes_any u4 _ l l w4 hu4.rb (HV.out.later HB4.out) (by omega))
      rw [show decide (l = l) = true by simp] at HSB
      obtain ⟨a4, c4, rfl⟩ := hu4.slice
      clear hu4 hb4 HUN HB3 HOF
      go_wp2_with fail
      refine HSB.out.mono ?_
      rintro e w5 ⟨rfl, hb5⟩
      have HB5 := hide (HB4.out.trans (hb5.mono HB4.out.size))
      have HOF5 := hide (HOF4.out.later hb5)
      clear hb5 HSB HB4 HOF4 hxx hkk
      have hform : ∃ gf, af = some ⟨gf, 0, none⟩ := by
        obtain ⟨gf, cap, hv', hbb, _⟩ := World.ownsRow.form HOF5.out (by omega)
        cases hv'
        exact ⟨gf, rfl⟩
      obtain ⟨gf, rfl⟩ := hform
      have HCF : Hid (F.length ≤ cf) := hide (by
        rcases HOF5.out.2 with ⟨h, _⟩ | ⟨g', cap', cur, hv', _, _, hn, _⟩
        · cases h
        · cases hv'; exact hn)
      have hcf : (F.length : Int) ≤ (cf : Int) := by have := HCF.out; omega
      go_wp2_with fail
      go_loopw [13] (fun i wr => ∃ k : Nat, k ≤ F.length ∧ i = .int .i64 k ∧ Hid (Own wr w.heap.size (.slice (some ⟨gf, 0, none⟩) F.length cf) F) ∧ Hid (Below w.heap.size w wr)) (fun i _ => F.length - (intOf i).toNat)
      case atStart => exact ⟨0, Nat.zero_le _, rfl, HOF5, HB5⟩
      case round =>
        clear HOF5 HB5
        obtain ⟨k, hk, rfl, HOF, HB⟩ := hrel
        by_cases hlt : k < F.length
        · by_cases hmid : 40 < k ∧ (k : Int) < (F.length : Int) - 40
          · have dk : decide (40 < (k : Int)) = true := by rw [decide_eq_true_eq]; omega
            have dm : decide ((k : Int) < (F.length : Int) - 40) = true := by rw [decide_eq_true_eq]; exact hmid.2
            clear hmid
            go_wp2_with fail
            go_roundw
            case rel => exact ⟨k + 1, by omega, by go_num, HOF, HB⟩
            case measure => simp [intOf]; omega
          · have HRG : Hid (RB wr (.slice (some ⟨gf, 0, none⟩) k cf) (F.take k)) := hide (by
              obtain ⟨g9, hg9, hgo⟩ := HOF.out.rg
              have hgg : g9 = gf := by
                have := hgo (fun h => by rw [h] at hlt; simp at hlt)
                simpa [Value.ownBlock] using this.symm
              subst hgg
              exact ⟨g9, rg_take hg9 (by omega)⟩)
            have HUN := hide (unframe_any _ (F.take k) wr HRG.out (HT.out.below HB.out) (by rw [List.length_take]; omega))
            rw [HPR.out k hlt] at HUN
            simp only [show ¬ ((2 : Int) = 0) by decide, if_false] at HUN
            rw [errV_pos (by decide)] at HUN
            have hkc : (k : Int) ≤ (cf : Int) := by omega
            by_cases h40 : 40 < k
            · have dk : decide (40 < (k : Int)) = true := by rw [decide_eq_true_eq]; omega
              have dm : decide ((k : Int) < (F.length : Int) - 40) = false := by rw [decide_eq_false_iff_not]; intro h; exact hmid ⟨h40, h⟩
              clear hmid HRG
              go_wp2_with fail
              refine HUN.out.mono ?_
              rintro e w7 ⟨⟨u7, rfl, hu7⟩, hb7⟩
              have HB7 := hide (HB.out.trans (hb7.mono HB.out.size))
              have HOF7 := hide (HOF.out.later hb7)
              have HPL := hide (plain_errV 2 2 w7 (by decide) (by decide) (HET.out.below HB7.out))
              rw [show ((2 : Int) == 2) = true by decide, errV_pos (by decide)] at HPL
              obtain ⟨a7, c7, hu'⟩ := hu7.slice
              have hu2 : u7 = .slice a7 0 c7 := hu'
              subst hu2
              clear hu7 hu' hb7 HUN HB HOF
              go_wp2_with fail
              refine HPL.out.mono ?_
              rintro e w8 ⟨rfl, hb8⟩
              have HB8 := hide (HB7.out.trans (hb8.mono HB7.out.size))
              have HOF8 := hide (HOF7.out.later hb8)
              clear hb8 HPL HB7 HOF7
              go_wp2_with fail
              go_roundw
              case rel => exact ⟨k + 1, by omega, by go_num, HOF8, HB8⟩
              case measure => simp [intOf]; omega
            · have dk : decide (40 < (k : Int)) = false := by rw [decide_eq_false_iff_not]; omega
              clear hmid HRG
              go_wp2_with fail
              refine HUN.out.mono ?_
              rintro e w7 ⟨⟨u7, rfl, hu7⟩, hb7⟩
              have HB7 := hide (HB.out.trans (hb7.mono HB.out.size))
              have HOF7 := hide (HOF.out.later hb7)
              have HPL := hide (plain_errV 2 2 w7 (by decide) (by decide) (HET.out.below HB7.out))
              rw [show ((2 : Int) == 2) = true by decide, errV_pos (by decide)] at HPL
              obtain ⟨a7, c7, hu'⟩ := hu7.slice
              have hu2 : u7 = .slice a7 0 c7 := hu'
              subst hu2
              clear hu7 hu' hb7 HUN HB HOF
              go_wp2_with fail
              refine HPL.out.mono ?_
              rintro e w8 ⟨rfl, hb8⟩
              have HB8 := hide (HB7.out.trans (hb8.mono HB7.out.size))
              have HOF8 := hide (HOF7.out.later hb8)
              clear hb8 HPL HB7 HOF7
              go_wp2_with fail
              go_roundw
              case rel => exact ⟨k + 1, by omega, by go_num, HOF8, HB8⟩
              case measure => simp [intOf]; omega
        · have HUB := hide (unframe_any _ r wr (HU.out.later HB.out) (HT.out.below HB.out) (by omega))
          by_cases h0 : unE r = 0
          · obtain ⟨hrr, hr6⟩ := HTK.out h0
            obtain ⟨⟨_, _, _, _, _⟩, ⟨y0, y1, _, _, _⟩, _, ⟨_, _, l4⟩⟩ := un_rng r
            rw [h0] at HUB
            simp only [if_true] at HUB
            rw [errV_zero] at HUB
            generalize (un2 r).1 = Y at *
            generalize (un4 r).1 = q at *
            generalize (un4 r).2.1 = z at *
            have hK : (r.length : Int) - (z.length : Int) = ((frameL Y q).length : Int) := by
              have := congrArg List.length hrr
              rw [List.length_append] at this; omega
            rw [hK] at HUB
            have HTR : Hid (r.take (frameL Y q).length = frameL Y q) := hide (by rw [hrr]; exact List.take_left)
            have hkr : (frameL Y q).length ≤ r.length := by omega
            have HFO := hide (fun (W : World) (vq : Value) (h : RB W vq q) (hT : Tab W) => frame_ok Y vq q W y0 y1 h hT hr6)
            obtain ⟨G, hG⟩ : ∃ G, Hid (frameL Y q = G) := ⟨_, hide rfl⟩
            rw [hG.out] at HUB HTR hkr HFO
            have h00 := hide h0
            clear h0 hrr hK
            have HRT : Hid (∀ W, Below w.heap.size w W → RB W (.slice (some ad) G.length cu) G) := hide (fun W hb => by
              obtain ⟨a9, c9, hv9, _, h9 | ⟨off9, h9, _⟩⟩ := HGU.out
              · exact absurd (HTK9.out h9) (by rw [h00.out]; decide)
              · cases hv9; cases h9
                have h := rg_take HGU.out hkr
                rw [HTR.out] at h
                exact ⟨gu, h.later hb⟩)
            have dkk : decide ((G.length : Int) ≤ (r.length : Int)) = true := by rw [decide_eq_true_eq]; omega
            have hGc : (G.length : Int) ≤ (cu : Int) := by omega
            have hGr : (G.length : Int) ≤ (r.length : Int) := by omega
            go_wp2_with fail
            refine HUB.out.mono ?_
            rintro e w7 ⟨⟨u7, rfl, hu7⟩, hb7⟩
            have HB7 := hide (HB.out.trans (hb7.mono HB.out.size))
            have HFO7 := hide (HFO.out w7 u7 hu7.rb (HT.out.below HB7.out))
            obtain ⟨a7, c7, rfl⟩ := hu7.slice
            clear hu7 hb7 HUB HB HOF HFO
            go_wp2_with fail
            refine HFO7.out.mono ?_
            rintro e w8 ⟨a8, c8, rfl, ho8, hb8⟩
            have HB8 := hide (HB7.out.trans (hb8.mono HB7.out.size))
            have HSB := hide (sameBytes_any _ _ G G w8 ho8.rb (HRT.out w8 HB8.out) (by omega))
            rw [show decide (G = G) = true by simp] at HSB
            clear ho8 hb8 HFO7 HB7
            go_wp2_with fail
            refine HSB.out.mono ?_
            rintro e w9 ⟨rfl, hb9⟩
            have HB9 := hide (HB8.out.trans (hb9.mono HB8.out.size))
            clear hb9 HSB
            go_wp2_with fail
            go_ret
            exact ⟨rfl, HB9.out⟩
          · have h1 : 1 ≤ unE r := by
              have : 0 ≤ unE r := by
                obtain ⟨_, _, _, ⟨d0, _, _⟩⟩ := un_rng r
                unfold unE; split
                · exact d0
                · split <;> decide
              omega
            simp only [h0, if_false] at HUB
            rw [errV_pos h1] at HUB
            clear h0 h1
            go_wp2_with fail
            refine HUB.out.mono ?_
            rintro e w7 ⟨⟨u7, rfl, hu7⟩, hb7⟩
            have HB7 := hide (HB.out.trans (hb7.mono HB.out.size))
            obtain ⟨a7, c7, hu'⟩ := hu7.slice
            have hu2 : u7 = .slice a7 0 c7 := hu'
            subst hu2
            clear hu7 hu' hb7 HUB HB
            go_wp2_with fail
            go_ret
            exact ⟨rfl, HB7.out⟩
end Go.Proofs.YtbkgegiglegnjabDoor
