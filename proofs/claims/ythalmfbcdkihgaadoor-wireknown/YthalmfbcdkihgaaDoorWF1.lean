/-
  My own text: frames, made.
-/
import Derived.Test.YthalmfbcdkihgaaDoorW10
import Derived.Test.YthalmfbcdkihgaaDoorWS1
import Derived.Laws.AppendOwnNone
namespace Go
theorem run_append_owned_none' {P : Program} {w : World} (base : Nat) (t ty e : TypeId) (i : TypeInfo) (size : Nat) (ht : P.underlying t = some (.slice e)) (hi : P.info? e = some i)
    (v : Value) (n : Nat) (xs : List Value) (hown : w.ownsRow base e size v n xs) (c : Nat) : (Builtin.append_ #[t, t] ty #[v, .slice none 0 c]).run P w = .ok v w := by
  rcases hown.2 with ⟨rfl, rfl⟩ | ⟨g, cap, cur, rfl, hb, hg, hnc, hrest⟩
  · simp [Builtin.append_, run_underlying ht, sizeOf, typeInfo, hi, Builtin.lenOf, Builtin.firstCells]
  · simp [Builtin.append_, run_underlying ht, sizeOf, typeInfo, hi, Builtin.lenOf, Builtin.firstCells, hnc, storeCells]
theorem wpList_append_own_none' {P : Program} {w : World} {ops : Array Oper} {rest : List Oper} {o : Oper} {a : Act} {Q : Exit → Act → World → Prop} (hgd : o.guard = none) (s x : Operand) (t : TypeId)
    (ho : o.op = .call { callee := .builtin .append, args := #[s, x], argTypes := #[t, t] })
    (base : Nat) (e : TypeId) (i : TypeInfo) (size : Nat) (ht : P.underlying t = some (.slice e)) (hi : P.info? e = some i)
    (v : Value) (n : Nat) (xs : List Value) (hs : a.eval s = v) (hown : w.ownsRow base e size v n xs) (c : Nat) (hx : a.eval x = .slice none 0 c)
    (h : wpList P ops Q rest (a.put o.dst v) w) : wpList P ops Q (o :: rest) a w := by
  refine wpList_plain hgd fun K hK => ?_
  have hrun := run_append_owned_none' (P := P) (w := w) base t o.type e i size ht hi v n xs hown c
  unfold Oper.wp
  simp [execOp, ho, resolve, invoke, builtin, hs, hx, hrun, Result.andThen]
  exact hK _ _ h
end Go
namespace Go.Proofs.YthalmfbcdkihgaaDoor
open Go.RowKit Go.Extern

/-- The sum that a frame bears. -/
def fsum (x : Int) (l : List UInt8) : BitVec 32 := sumB (form x ++ l)
/-- What stands ahead of the payload; the frame. -/
def headL (x : Int) (l : List UInt8) : List UInt8 := form (l.length : Int) ++ form x ++ be 4 ((fsum x l).toNat : Int)
def frameL (x : Int) (l : List UInt8) : List UInt8 := headL x l ++ l
theorem head_len (x : Int) (l : List UInt8) : 6 ≤ (headL x l).length ∧ (headL x l).length ≤ 22 := by
  unfold headL
  rw [List.length_append, List.length_append, be_len]
  have h1 := form_le x
  have h2 := form_ge x
  have h3 := form_le (l.length : Int)
  have h4 := form_ge (l.length : Int)
  omega

set_option maxRecDepth 100000 in
set_option maxHeartbeats 1000000 in
theorem frameSum_any (x : Int) (v : Value) (l : List UInt8) (w : World) (h0 : 0 ≤ x) (h1 : x < 18446744073709551616) (hv : RB w v l) (hT : Tab w) (hl : l.length ≤ 140737488355328) :
    Calls Tryd.prog 37 #[.int .u64 x, v] w fun e w' => e = .returned (.int .u32 ((fsum x l).toNat : Int)) ∧ Below w.heap.size w w' := by
  have HF := hide (appendForm_any x w.heap.size (.slice none 0 0) [] w h0 h1 (Own.nil _ _) (Nat.le_refl _) (by simp))
  have HV := hide hv
  have HT := hide hT
  obtain ⟨gv, av, cv, rfl, _, _⟩ := hv
  clear hT
  have HN : Hid (bits .xor .u32 IntKind.u32.max ((crc ones (form x ++ l)).toNat : Int) = ((fsum x l).toNat : Int)) := hide (not_bv (crc ones (form x ++ l)))
  go_enter Tryd.func37, Tryd.ntmps37
  go_wp2_with fail
  refine HF.out.mono ?_
  rintro e w1 ⟨v1, rfl, ho, hg⟩
  rw [List.nil_append] at ho
  have hb : Below w.heap.size w w1 := hg.toBelow (Below.refl _ _) (Nat.le_refl _) (fun g h => by cases h)
  have HB := hide hb
  obtain ⟨g1, hg1⟩ := ho.rb
  have H1 := hide (turned_any ones g1 v1 (form x) w1 hg1 (HT.out.below hb) (by have := form_le x; omega))
  rw [ones_nat] at H1
  have HV1 := hide (HV.out.later hb)
  obtain ⟨g2, hg2⟩ := HV1.out
  have H2 := hide (turned_any (crc ones (form x)) g2 _ l w1 hg2 (HT.out.below hb) hl)
  rw [← crc_app] at H2
  obtain ⟨a1, c1, rfl⟩ := ho.slice
  clear ho hg hb hg1 hg2
  generalize crc ones (form x) = q1 at H1 H2
  generalize crc ones (form x ++ l) = q2 at H2 HN
  go_wp2_with fail
  refine H1.out.mono ?_
  rintro e w2 ⟨rfl, hw⟩
  obtain rfl := hw.symm
  go_wp2_with fail
  refine H2.out.mono ?_
  rintro e w2 ⟨rfl, hw⟩
  obtain rfl := hw.symm
  go_wp2_with fail
  go_ret
  exact ⟨ret_i HN.out, HB.out⟩

set_option maxRecDepth 100000 in
theorem frame_many (x : Int) (v : Value) (l : List UInt8) (w : World) (hv : RB w v l) (hl : 65536 < l.length) :
    Calls Tryd.prog 20 #[.int .u64 x, v] w fun e w' => e = .returned (.tuple #[.slice none 0 0, errV 5]) ∧ w' = w := by
  obtain ⟨gv, av, cv, rfl, _, _⟩ := hv
  rw [errV_pos (by decide)]
  go_enter Tryd.func20, Tryd.ntmps20
  go_wp2
  go_ret2
  exact ⟨rfl, rfl⟩

theorem ret_fr {a : Option Addr} {c n m : Nat} (h : n = m) : Ending.returned (.tuple #[.slice a n c, .nilIface]) = .returned (.tuple #[.slice a m c, .nilIface]) := by rw [h]
set_option maxRecDepth 100000 in
set_option maxHeartbeats 2000000 in
theorem frame_ok (x : Int) (v : Value) (l : List UInt8) (w : World) (h0 : 0 ≤ x) (h1 : x < 18446744073709551616) (hv : RB w v l) (hT : Tab w) (hl : l.length ≤ 65536) :
    Calls Tryd.prog 20 #[.int .u64 x, v] w fun e w' => ∃ a c, e = .returned (.tuple #[.slice a (frameL x l).length c, .nilIface]) ∧ Own w' w.heap.size (.slice a (frameL x l).length c) (frameL x l) ∧ Below w.heap.size w w' := by
  obtain ⟨i0, hi, hz0, hz1, hz2⟩ := info_parts Tryd.infoB
  have HF := hide (appendForm_any (l.length : Int) w.heap.size (.slice none 0 0) [] w (by omega) (by omega) (Own.nil _ _) (Nat.le_refl _) (by simp))
  have HFS := hide (fun (W : World) (hb : Below w.heap.size w W) => frameSum_any x v l W h0 h1 (hv.later hb) (hT.below hb) (by omega))
  have HV := hide hv
  have HX : Hid (0 ≤ x ∧ x < 18446744073709551616) := hide ⟨h0, h1⟩
  have L1 := form_le (l.length : Int)
  have L2 := form_le x
  have s0 : (0 : Int) ≤ ((fsum x l).toNat : Int) := by omega
  have s1 := bv_lt (fsum x l)
  obtain ⟨R, hR⟩ : ∃ R, Hid (frameL x l = R) := ⟨_, hide rfl⟩
  have HFR : Hid (R = form (l.length : Int) ++ form x ++ be 4 ((fsum x l).toNat : Int) ++ l) := hide hR.out.symm
  rw [hR.out]
  obtain ⟨sm, hsm⟩ : ∃ sm : Int, Hid (((fsum x l).toNat : Int) = sm) := ⟨_, hide rfl⟩
  rw [hsm.out] at HFS s0 s1 HFR
  obtain ⟨gv, av, cv, rfl, _, hr⟩ := hv
  clear hT h0 h1
  go_enter Tryd.func20, Tryd.ntmps20
  go_wp2_with fail
  refine HF.out.mono ?_
  rintro e w1 ⟨v1, rfl, ho1, hg1⟩
  rw [List.nil_append] at ho1
  have hb1 : Below w.heap.size w w1 := hg1.toBelow (Below.refl _ _) (Nat.le_refl _) (fun g h => by cases h)
  have HB1 := hide hb1
  have HF2 := hide (appendForm_any x w.heap.size v1 _ w1 HX.out.1 HX.out.2 ho1 hb1.size (by omega))
  have HO1 := hide ho1
  obtain ⟨a1, c1, rfl⟩ := ho1.slice
  obtain ⟨m1, hm1⟩ : ∃ m1, Hid (form (l.length : Int) = m1) := ⟨_, hide rfl⟩
  rw [hm1.out] at HF2 HO1 L1 HFR ⊢
  clear ho1 hg1 hb1 HF
  go_wp2_with fail
  refine HF2.out.mono ?_
  rintro e w2 ⟨v2, rfl, ho2, hg2⟩
  have hb2 : Below w.heap.size w w2 := hg2.toBelow HB1.out HB1.out.size (fun g h => HO1.out.at g h)
  have HB2 := hide hb2
  have HO2 := hide ho2
  have HFS2 := hide (HFS.out w2 hb2)
  obtain ⟨a2, c2, rfl⟩ := ho2.slice
  have L3 : (m1 ++ form x).length ≤ 18 := by rw [List.length_append]; omega
  obtain ⟨m2, hm2⟩ : ∃ m2, Hid (m1 ++ form x = m2) := ⟨_, hide rfl⟩
  rw [hm2.out] at HO2 HFR L3 ⊢
  clear ho2 hg2 hb2 HF2 HFS HO1 HB1 L1 L2
  go_wp2_with fail
  refine HFS2.out.mono ?_
  rintro e w3 ⟨rfl, hb3⟩
  have HB3 := hide (HB2.out.trans (hb3.mono HB2.out.size))
  have HO3 := hide (HO2.out.later hb3)
  have HAB := hide (appendBytes_any sm 4 w.heap.size _ m2 w3 s0 (by omega) (by decide) HO3.out HB3.out.size (by omega))
  clear hb3 HO2 HB2 HFS2
  go_wp2_with fail
  refine HAB.out.mono ?_
  rintro e w4 ⟨v4, rfl, ho4, hg4⟩
  have HB4 := hide (hg4.toBelow HB3.out HB3.out.size (fun g h => HO3.out.at g h))
  have HO4 := hide ho4
  obtain ⟨a4, c4, rfl⟩ := ho4.slice
  have L5 : (m2 ++ be 4 sm).length ≤ 22 := by rw [List.length_append, be_len]; omega
  obtain ⟨m4, hm4⟩ : ∃ m4, Hid (m2 ++ be 4 sm = m4) := ⟨_, hide rfl⟩
  rw [hm4.out] at HO4 HFR L5 ⊢
  clear ho4 hg4 HAB HO3 HB3 L3
  cases av with
  | none =>
    have hl0 : l = [] := by
      rcases hr with h | ⟨off, h, _⟩
      · exact h
      · cases h
    subst hl0
    rw [List.append_nil] at HFR
    rw [← HFR.out] at HO4
    have hlen : m4.length = R.length := by rw [HFR.out]
    rw [hlen]
    clear hr hlen
    go_wp2_with (first
      | (at_builtin; refine wpList_append_own_none' rfl _ _ 29 rfl w.heap.size 5 i0 1 Tryd.underlying29 hi _ _ _ rfl HO4.out cv rfl ?_)
      | go_in)
    go_wp2_with fail
    go_ret2
    exact ⟨a4, c4, rfl, HO4.out, HB4.out⟩
  | some ad =>
    have hcell : ∀ (j : Nat) (u : Value), (bv l)[j]? = some u → w4.cell? (ad.add j) = some u := by
      intro j u hj
      rcases hr with h | ⟨off, h, hb, hc⟩
      · rw [h] at hj; simp [bv] at hj
      · cases h
        have hjl : j < l.length := by have := (List.getElem?_eq_some_iff.1 hj).1; rwa [bv_len] at this
        obtain ⟨c, hc2⟩ := some_at hjl
        rw [bv_at hc2] at hj
        cases hj
        have e1 : (⟨gv, off, none⟩ : Addr).add j = ⟨gv, off + j, none⟩ := by simp [Addr.add]
        rw [e1, HB4.out.cell (p := ⟨gv, off + j, none⟩) hb]
        exact hc j c hc2
    have HC := hide hcell
    clear hcell hr
    go_wp2_with (first
      | (at_builtin; refine wpList_append_own_at _ rfl _ _ 29 rfl w.heap.size 5 i0 (.int .u8 0) 1 1 Tryd.underlying29 hi hz0 hz1 hz2 rfl (by decide) _ _ _ rfl HO4.out ad l.length cv (bv l) rfl (by rw [bv_len]; omega) HC.out (bv_one l) ?c3 ?c4 ?c5 ?_)
      | go_in)
    case c3 => unfold maxLen; omega
    case c4 => omega
    case c5 => exact HB4.out.size
    intro v5 w5 hown hgrow _ _
    have HO5 : Hid (Own w5 w.heap.size v5 (m4 ++ l)) := hide (by unfold Own; rw [bv_app, List.length_append]; exact hown)
    have HB5 := hide (HB4.out.grown hgrow HB4.out.size (fun g h => HO4.out.at g h))
    obtain ⟨a5, c5, rfl⟩ := HO5.out.slice
    rw [← HFR.out] at HO5
    have hlen : (m4 ++ l).length = R.length := by rw [HFR.out]
    rw [hlen]
    clear hown hgrow hlen
    go_wp2_with fail
    go_ret2
    exact ⟨a5, c5, rfl, HO5.out, HB5.out⟩
end Go.Proofs.YthalmfbcdkihgaaDoor
