/-
  My own text: the law on frames that are taken.
-/
import Derived.Test.YthalmfbcdkihgaaDoorWR2
import Derived.Test.YthalmfbcdkihgaaDoorWF2
import Derived.Test.YthalmfbcdkihgaaDoorWApart2
namespace Go.Proofs.YthalmfbcdkihgaaDoor
open Go.RowKit Go.Extern

theorem allB_two {w : World} {B L m : Nat} {a b : Option Addr} {x y : Nat} {P : List UInt8} (hL : L < w.heap.size) (h0 : w.cell? ⟨L, 0, none⟩ = some (.slice a P.length x)) (h1 : w.cell? ⟨L, 1, none⟩ = some (.slice b P.length y))
    (o0 : Own w B (.slice a P.length x) P) (o1 : Own w B (.slice b P.length y) P) (l0 : ∀ g, (Value.slice a P.length x).ownBlock = some g → g < m) (l1 : ∀ g, (Value.slice b P.length y).ownBlock = some g → m ≤ g ∧ g < L) (hm : m ≤ L) :
    AllB w B L 2 (fun k => if k = 0 then a else b) (fun _ => P.length) (fun k => if k = 0 then x else y) (fun _ => P) := by
  refine ⟨hL, fun k hk => ?_, fun k hk => ?_, fun k hk => ?_, fun j k g hj hk hg1 hg2 => ?_⟩
  · match k, hk with
    | 0, _ => exact h0
    | 1, _ => exact h1
  · match k, hk with
    | 0, _ => exact o0
    | 1, _ => exact o1
  · match k, hk with
    | 0, _ => exact fun e => by have := l0 L e; omega
    | 1, _ => exact fun e => by have := (l1 L e).2; omega
  · match j, k, hj, hk, hg1, hg2 with
    | 0, 0, _, _, _, _ => rfl
    | 1, 1, _, _, _, _ => rfl
    | 0, 1, _, _, g1, g2 => have := l0 g g1; have := (l1 g g2).1; omega
    | 1, 0, _, _, g1, g2 => have := l0 g g2; have := (l1 g g1).1; omega
theorem own_lits {w : World} {B : Nat} {v : Value} {l : List UInt8} (h : Own w B v l) : ∀ g, v.ownBlock = some g → B ≤ g ∧ g < w.heap.size := World.ownsRow.lt h

theorem LentB.laterB {w w' : World} {B g cap m : Nat} {l : List UInt8} (h : LentB w B g cap l) (hb : Below m w w') (hg : g < m) : LentB w' B g cap l := by
  refine ⟨h.base, h.own.1, ?_⟩
  rcases h.own.2 with ⟨e, h2⟩ | ⟨g', cap', cur, hv, h3, hh, h4⟩
  · exact .inl ⟨e, h2⟩
  · refine .inr ⟨g', cap', cur, hv, h3, ?_, h4⟩
    injection hv with e1
    injection e1 with e2
    injection e2 with e3
    rw [hb.block g' (by rw [← e3]; exact hg)]
    exact hh
theorem un_facts (l : List UInt8) : 0 ≤ unE l ∧ unE l ≤ 24 ∧ (if unE l = 0 then (un4 l).1 else []).length ≤ l.length := by
  obtain ⟨⟨x0, x1, a0, a24, al⟩, ⟨y0, y1, b0, b24, bl⟩, ⟨c0, c24, cl⟩, ⟨d0, d24, dl⟩⟩ := un_rng l
  have pl : (un4 l).1.length ≤ l.length := Nat.le_trans (rdT_len _ _ _) cl
  refine ⟨?_, ?_, ?_⟩
  · unfold unE; split
    · exact d0
    · split <;> decide
  · unfold unE; split
    · exact d24
    · split <;> decide
  · split
    · exact pl
    · simp

set_option maxRecDepth 100000 in
set_option maxHeartbeats 2000000 in
theorem unframes_law (v : Value) (l : List UInt8) (w : World) (hv : RB w v l) (hT : Tab w) (hE : ErrType w) (hl : l.length ≤ 140737488355000) :
    Calls Tryd.prog 26 #[v] w fun e w' => e = .returned (.bool true) ∧ Below w.heap.size w w' := by
  obtain ⟨e0, e24, hpl⟩ := un_facts l
  have HR := hide (refUnframe_any v l w hv hl)
  have HU := hide (fun (W : World) (u : Value) (h : RB W u l) (h2 : Tab W) => unframe_any u l W h h2 (by omega))
  generalize (if unE l = 0 then (un2 l).1 else 0) = X at HR HU
  generalize (if unE l = 0 then (un4 l).1 else []) = P at HR HU hpl
  generalize (if unE l = 0 then (l.length : Int) - ((un4 l).2.1.length : Int) else 0) = Z at HR HU
  generalize unE l = E at HR HU e0 e24
  have hX : (X != X) = false := by simp
  have hZ : (Z != Z) = false := by simp
  have HV := hide hv
  have HT := hide hT
  have HE := hide hE
  obtain ⟨gv, av, cv, rfl, _, _⟩ := hv
  clear hT hE
  go_enter Tryd.func26, Tryd.ntmps26
  go_wp2_with fail
  refine HR.out.mono ?_
  rintro e w1 ⟨⟨u1, rfl, ho1⟩, hb1⟩
  have HO1 := hide ho1
  obtain ⟨a1, c1, rfl⟩ := ho1.slice
  have HB1 := hide hb1
  have HL := hide (lentBytes_any _ l w1 (HV.out.later hb1) (by omega))
  clear ho1 hb1 HR
  go_wp2_with fail
  refine HL.out.mono ?_
  rintro e w2 ⟨g, cap, rfl, hL, hb⟩
  have HB2 := hide (HB1.out.trans (hb.mono HB1.out.size))
  have HB2s : Hid (w.heap.size ≤ w2.heap.size) := hide HB2.out.size
  have HO2 := hide (HO1.out.later hb)
  have hg2 : g < w2.heap.size := hL.parts.1
  have HLt := hide hL
  have HU2 := hide (HU.out w2 _ ⟨g, hL.rg⟩ (HT.out.below HB2.out))
  clear hL hb HL HB1 HO1
  go_wp2_with fail
  refine HU2.out.mono ?_
  rintro e w3 ⟨⟨u3, rfl, ho3⟩, hb3⟩
  have HB3 := hide (HB2.out.trans (hb3.mono HB2.out.size))
  have HD3 := hide hb3
  have HO3 := hide ho3
  obtain ⟨a3, c3, rfl⟩ := ho3.slice
  have HL3 := hide (HLt.out.later hb3)
  have HOr3 := hide (HO2.out.later hb3)
  have HU3 := hide (HU.out w3 _ ⟨g, HL3.out.rg⟩ (HT.out.below HB3.out))
  have hs3 := hb3.size
  clear ho3 hb3 HU2 HLt HO2 HU
  go_wp2_with fail
  refine HU3.out.mono ?_
  rintro e w4 ⟨⟨u4, rfl, ho4⟩, hb4⟩
  have HB4 := hide (HB3.out.trans (hb4.mono HB3.out.size))
  have HD4 := hide (HD3.out.trans (hb4.mono hs3))
  have HO4 := hide ho4
  obtain ⟨a4, c4, rfl⟩ := ho4.slice
  have HL4 := hide (HL3.out.later hb4)
  have HOr4 := hide (HOr3.out.later hb4)
  have HO34 := hide (HO3.out.later hb4)
  have HP3 := hide (own_lits HO3.out)
  have hs4 := hb4.size
  have HPl := hide (fun (W : World) (h : ErrType W) => plain_errV E E W e0 e24 h)
  rw [show (E == E) = true by simp] at HPl
  obtain ⟨EV, hEV⟩ : ∃ EV, Hid (errV E = EV) := ⟨_, hide rfl⟩
  rw [hEV.out] at HPl
  rw [hEV.out]
  have HPa := hide (HPl.out w4 (HE.out.below HB4.out))
  clear ho4 hb4 HU3 HL3 HOr3 HO3 HB2 HB3 HD3
  go_wp2_with fail
  refine HPa.out.mono ?_
  rintro e w5 ⟨rfl, hb5⟩
  have HB5 := hide (HB4.out.trans (hb5.mono HB4.out.size))
  have HD5 := hide (HD4.out.trans (hb5.mono HD4.out.size))
  have HPb := hide (HPl.out w5 (HE.out.below HB5.out))
  have HL5 := hide (HL4.out.later hb5)
  have HOr5 := hide (HOr4.out.later hb5)
  have HOa5 := hide (HO34.out.later hb5)
  have HOb5 := hide (HO4.out.later hb5)
  have HP4 := hide (own_lits HO4.out)
  have hs5 := hb5.size
  clear hb5 HPa HPl HL4 HOr4 HO34 HO4 HB4 HD4
  go_wp2_with fail
  refine HPb.out.mono ?_
  rintro e w6 ⟨rfl, hb6⟩
  have HB6 := hide (HB5.out.trans (hb6.mono HB5.out.size))
  have HD6 := hide (HD5.out.trans (hb6.mono HD5.out.size))
  have HL6 := hide (HL5.out.later hb6)
  have HOr6 := hide (HOr5.out.later hb6)
  have HOa6 := hide (HOa5.out.later hb6)
  have HOb6 := hide (HOb5.out.later hb6)
  have HW6 := hide (works_any w6)
  have hs6 := hb6.size
  clear hb6 HPb HL5 HOr5 HOa5 HOb5 HB5 HD5
  go_wp2_with fail
  refine HW6.out.mono ?_
  rintro e w7 ⟨rfl, hb7⟩
  have HB7 := hide (HB6.out.trans (hb7.mono HB6.out.size))
  have HD7 := hide (HD6.out.trans (hb7.mono HD6.out.size))
  have HL7 := hide (HL6.out.later hb7)
  have HOr7 := hide (HOr6.out.later hb7)
  have HOa7 := hide (HOa6.out.later hb7)
  have HOb7 := hide (HOb6.out.later hb7)
  have HS7 := hide (sameBytes_any _ _ P P w7 HOa7.out.rb HOr7.out.rb (by omega))
  rw [show decide (P = P) = true by simp] at HS7
  have hs7 := hb7.size
  clear hb7 HW6 HL6 HOr6 HOa6 HOb6 HB6 HD6
  go_wp2_with fail
  refine HS7.out.mono ?_
  rintro e w8 ⟨rfl, hb8⟩
  have HB8 := hide (HB7.out.trans (hb8.mono HB7.out.size))
  have HD8 := hide (HD7.out.trans (hb8.mono HD7.out.size))
  have HL8 := hide (HL7.out.later hb8)
  have HOr8 := hide (HOr7.out.later hb8)
  have HOa8 := hide (HOa7.out.later hb8)
  have HOb8 := hide (HOb7.out.later hb8)
  have HS8 := hide (sameBytes_any _ _ P P w8 HOb8.out.rb HOr8.out.rb (by omega))
  rw [show decide (P = P) = true by simp] at HS8
  have hs8 := hb8.size
  clear hb8 HS7 HL7 HOr7 HOa7 HOb7 HB7 HD7
  go_wp2_with fail
  refine HS8.out.mono ?_
  rintro e w9 ⟨rfl, hb9⟩
  have HB9 := hide (HB8.out.trans (hb9.mono HB8.out.size))
  have HD9 := hide (HD8.out.trans (hb9.mono HD8.out.size))
  have HL9 := hide (HL8.out.later hb9)
  have HOa9 := hide (HOa8.out.later hb9)
  have HOb9 := hide (HOb8.out.later hb9)
  have HK9 := hide (keptBytes_any g cap _ _ l w9 HL9.out (HV.out.later HB9.out) (by omega))
  have hs9 := hb9.size
  clear hb9 HS8 HL8 HOr8 HOa8 HOb8 HB8 HD8
  go_wp2_with fail
  refine HK9.out.mono ?_
  rintro e w10 ⟨rfl, hw⟩
  obtain rfl := hw.symm
  have HOx := hide (Own.base HOb9.out (B' := w2.heap.size) (fun g hg => Nat.le_trans hs3 (HP4.out g hg).1))
  clear HK9
  go_wp2_with fail
  refine (apartBytes_any w2.heap.size w9.heap.size 2 2 (fun k => if k = 0 then a3 else a4) (fun _ => P.length) (fun k => if k = 0 then c3 else c4) (fun _ => P) _ ?hA (fun _ => by omega) (by decide) (by decide) ?hB).mono ?_
  case hA =>
    refine allB_two (m := w3.heap.size) (by simp) (by simp) (by simp) (World.ownsRow.alloc HOa9.out _) (World.ownsRow.alloc HOx.out _) (fun g hg => (HP3.out g hg).2) (fun g hg => ?_) (by omega)
    have := HP4.out g hg
    omega
  case hB => simp; omega
  rintro e w11 ⟨rfl, hb11⟩
  have hb10 : Below w2.heap.size w9 w11 := ((Below.refl w2.heap.size w9).alloc (by omega) _).trans hb11
  have HB11 := hide (HB9.out.trans (hb10.mono (Nat.le_trans HB2s.out (Nat.le_refl _))))
  have HK11 := hide (keptBytes_any g cap _ _ l w11 (HL9.out.laterB hb10 hg2) (HV.out.later HB11.out) (by omega))
  clear hb11 hb10 HL9 HOa9 HOb9 HOx HP3 HP4 HB9 HD9
  go_wp2_with fail
  refine HK11.out.mono ?_
  rintro e w12 ⟨rfl, hw⟩
  obtain rfl := hw.symm
  go_wp2_with fail
  go_ret
  exact ⟨rfl, HB11.out⟩
end Go.Proofs.YthalmfbcdkihgaaDoor
