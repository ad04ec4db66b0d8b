/-
  My own text: operations written as rows, by the program (printed by mkg20.py).
-/
import Derived.Test.YtdiamlajmcikhaaGreatDoorG12
namespace Go.Proofs.YtdiamlajmcikhaaGreatDoor
open Go.RowKit

theorem grown_ofBelow {w w1 w2 : World} {row : Option Nat} (hb : Below w.heap.size w w1) (h : w1.grownBy w2 row) : w.grownBy w2 row :=
  ⟨h.os.trans hb.os, h.tape.trans hb.tape, h.output.trans hb.output, Nat.le_trans hb.size h.size, fun j hj hne => (h.block j (Nat.lt_of_lt_of_le hj hb.size) hne).trans (hb.block j hj)⟩
theorem om_app {w : World} {B n : Nat} {v : Value} {R X : List Int} (h : w.ownsRow B 2 1 v (R.length + n) (LN.mc R ++ LN.mc X)) (hn : X.length = n) : LN.OM w B v (R ++ X) := by
  unfold LN.OM
  rw [List.length_append, hn, LN.mc_app]; exact h
set_option maxRecDepth 100000 in
set_option maxHeartbeats 4000000 in
theorem withHeld_any (cd ac as_ qt nm id : Int) (lv pv v : Value) (R : List Int) (w0 w : World) (hB : Below w0.heap.size w0 w) (hO : LN.OM w w0.heap.size v R) (hn : R.length + 3 ≤ 17592186044416) :
    Calls Tryz.prog 64 #[v, .agg #[.int .i64 cd, .int .i64 ac, .int .i64 as_, .int .i64 qt, .int .i64 nm, .int .i64 id, lv, pv]] w fun e w' => ∃ g cap, e = .returned (.slice (some ⟨g, 0, none⟩) (R.length + 3) cap) ∧ LN.OM w' w0.heap.size (.slice (some ⟨g, 0, none⟩) (R.length + 3) cap) (R ++ [ac, as_, qt]) ∧ w.grownBy w' v.ownBlock ∧ Below w0.heap.size w0 w' := by
  obtain ⟨i0, hi, hz0, hz1, hz2⟩ := info_parts LN.Tryz.infoB
  obtain ⟨ra, rc, hv⟩ := LN.OM.slice hO
  subst hv
  have hO' : w.ownsRow w0.heap.size 2 1 (.slice ra R.length rc) R.length (LN.mc R) := hO
  have HO := hide hO
  have hb1 := (Below.refl w.heap.size w).alloc (Nat.le_refl _) (.cells #[.int .i64 cd, .int .i64 ac, .int .i64 as_, .int .i64 qt, .int .i64 nm, .int .i64 id, lv, pv] 26)
  have hb2 := hb1.alloc hb1.size (.cells #[.int .i64 ac, .int .i64 as_, .int .i64 qt] 2)
  have HB2 := hide hb2
  have HBB := hide hB
  obtain ⟨y0, y1, y2, y3, y4, y5, y6, y7⟩ := eight_cells (alloc_new w (.cells #[.int .i64 cd, .int .i64 ac, .int .i64 as_, .int .i64 qt, .int .i64 nm, .int .i64 id, lv, pv] 26)) rfl
  clear hO hb1 hb2
  go_enter Tryz.func64, Tryz.ntmps64
  go_wp2_with (first
    | (at_builtin; refine wpList_append_lies _ rfl _ _ 51 rfl w0.heap.size 2 i0 (.int .i64 0) 1 8 Tryz.underlying51 hi hz0 hz1 hz2 rfl (by decide) _ _ _ rfl (World.ownsRow.alloc (World.ownsRow.alloc hO' _) _) ⟨_, 0, none⟩ 3 3 [.int .i64 ac, .int .i64 as_, .int .i64 qt] rfl rfl ?c1 ?c2 (by decide) ?c3 ?c4 ?c5 _ rfl ?_)
    | go_in)
  case c1 =>
    intro j u hj
    match j, hj with
    | 0, hj => simp at hj; subst hj; simp [Addr.add]
    | 1, hj => simp at hj; subst hj; simp [Addr.add]
    | 2, hj => simp at hj; subst hj; simp [Addr.add]
  case c2 => intro u hu; simp at hu; rcases hu with rfl | rfl | rfl <;> rfl
  case c3 => unfold maxLen; omega
  case c4 => omega
  case c5 => have := hB.size; simp; omega
  intro g cap w' hown hg hlies hlt
  have HOW := hide (om_app (X := [ac, as_, qt]) hown rfl)
  have HGR := hide (grown_ofBelow HB2.out hg)
  have HLW := hide (HBB.out.grown HGR.out HBB.out.size (fun k hk => (World.ownsRow.lt HO.out k hk).1))
  clear hown hg hlies hlt
  go_wp2_with fail
  go_ret
  exact ⟨g, cap, rfl, HOW.out, HGR.out, HLW.out⟩
set_option maxRecDepth 100000 in
set_option maxHeartbeats 4000000 in
theorem withIdent_any (cd ac as_ qt nm id : Int) (lv pv v : Value) (R : List Int) (w0 w : World) (hB : Below w0.heap.size w0 w) (hO : LN.OM w w0.heap.size v R) (hn : R.length + 1 ≤ 17592186044416) :
    Calls Tryz.prog 73 #[v, .agg #[.int .i64 cd, .int .i64 ac, .int .i64 as_, .int .i64 qt, .int .i64 nm, .int .i64 id, lv, pv]] w fun e w' => ∃ g cap, e = .returned (.slice (some ⟨g, 0, none⟩) (R.length + 1) cap) ∧ LN.OM w' w0.heap.size (.slice (some ⟨g, 0, none⟩) (R.length + 1) cap) (R ++ [id]) ∧ w.grownBy w' v.ownBlock ∧ Below w0.heap.size w0 w' := by
  obtain ⟨i0, hi, hz0, hz1, hz2⟩ := info_parts LN.Tryz.infoB
  obtain ⟨ra, rc, hv⟩ := LN.OM.slice hO
  subst hv
  have hO' : w.ownsRow w0.heap.size 2 1 (.slice ra R.length rc) R.length (LN.mc R) := hO
  have HO := hide hO
  have hb1 := (Below.refl w.heap.size w).alloc (Nat.le_refl _) (.cells #[.int .i64 cd, .int .i64 ac, .int .i64 as_, .int .i64 qt, .int .i64 nm, .int .i64 id, lv, pv] 26)
  have hb2 := hb1.alloc hb1.size (.cells #[.int .i64 id] 2)
  have HB2 := hide hb2
  have HBB := hide hB
  obtain ⟨y0, y1, y2, y3, y4, y5, y6, y7⟩ := eight_cells (alloc_new w (.cells #[.int .i64 cd, .int .i64 ac, .int .i64 as_, .int .i64 qt, .int .i64 nm, .int .i64 id, lv, pv] 26)) rfl
  clear hO hb1 hb2
  go_enter Tryz.func73, Tryz.ntmps73
  go_wp2_with (first
    | (at_builtin; refine wpList_append_lies _ rfl _ _ 51 rfl w0.heap.size 2 i0 (.int .i64 0) 1 8 Tryz.underlying51 hi hz0 hz1 hz2 rfl (by decide) _ _ _ rfl (World.ownsRow.alloc (World.ownsRow.alloc hO' _) _) ⟨_, 0, none⟩ 1 1 [.int .i64 id] rfl rfl ?c1 ?c2 (by decide) ?c3 ?c4 ?c5 _ rfl ?_)
    | go_in)
  case c1 =>
    intro j u hj
    match j, hj with
    | 0, hj => simp at hj; subst hj; simp [Addr.add]
  case c2 => intro u hu; simp at hu; subst hu; rfl
  case c3 => unfold maxLen; omega
  case c4 => omega
  case c5 => have := hB.size; simp; omega
  intro g cap w' hown hg hlies hlt
  have HOW := hide (om_app (X := [id]) hown rfl)
  have HGR := hide (grown_ofBelow HB2.out hg)
  have HLW := hide (HBB.out.grown HGR.out HBB.out.size (fun k hk => (World.ownsRow.lt HO.out k hk).1))
  clear hown hg hlies hlt
  go_wp2_with fail
  go_ret
  exact ⟨g, cap, rfl, HOW.out, HGR.out, HLW.out⟩
theorem cells_KY {w : World} {o : Obj} {a b : Value} {t : TypeId} {g : Nat} (h : w.heap[g]? = some o) (ho : o = .cells #[a, b] t (0, 0)) : w.cell? ⟨g, 0, none⟩ = some a ∧ w.cell? ⟨g, 1, none⟩ = some b := pair_cells h ho
theorem cells_LG {w : World} {o : Obj} {a b c d e : Value} {t : TypeId} {g : Nat} (h : w.heap[g]? = some o) (ho : o = .cells #[a, b, c, d, e] t (0, 0)) : w.cell? ⟨g, 0, none⟩ = some a ∧ w.cell? ⟨g, 1, none⟩ = some b ∧ w.cell? ⟨g, 2, none⟩ = some c ∧ w.cell? ⟨g, 3, none⟩ = some d ∧ w.cell? ⟨g, 4, none⟩ = some e := five_cells h ho
/-- The numbers of a row of KY. -/
def rowKY (L : List KY.El) : List Int := L.flatMap fun p => [p.1, p.2]
theorem rowKY_len (L : List KY.El) : (rowKY L).length = L.length * 2 := by
  induction L with
  | nil => rfl
  | cons p t ih => show ([p.1, p.2] ++ rowKY t).length = _; rw [List.length_append, ih, List.length_cons]; simp; omega
theorem rowKY_take {L : List KY.El} {k : Nat} {p : KY.El} (h : L[k]? = some p) : rowKY (L.take (k + 1)) = rowKY (L.take k) ++ [p.1, p.2] := by
  rw [List.take_add_one, h]; unfold rowKY; rw [List.flatMap_append]; simp
set_option maxRecDepth 100000 in
set_option maxHeartbeats 4000000 in
theorem withPaired_any (cd ac as_ qt nm id : Int) (lv pv v : Value) (R : List Int) (L : List KY.El) (w0 w : World) (hB : Below w0.heap.size w0 w) (hO : LN.OM w w0.heap.size v R) (hL : KY.RM w0 pv L) (hn : R.length + 1 + L.length * 2 ≤ 17592186044416) :
    Calls Tryz.prog 76 #[v, .agg #[.int .i64 cd, .int .i64 ac, .int .i64 as_, .int .i64 qt, .int .i64 nm, .int .i64 id, lv, pv]] w fun e w' => ∃ v', e = .returned v' ∧ LN.OM w' w0.heap.size v' (R ++ rowKY L) ∧ Below w0.heap.size w0 w' := by
  obtain ⟨i0, hi, hz0, hz1, hz2⟩ := info_parts LN.Tryz.infoB
  obtain ⟨ra, rc, hv⟩ := LN.OM.slice hO
  subst hv
  obtain ⟨a, cap, rfl, _, hr⟩ := hL
  have HR := hide hr
  have HII := hide (And.intro hi (And.intro hz0 (And.intro hz1 hz2)))
  have HB1 := hide (hB.alloc hB.size (.cells #[.int .i64 cd, .int .i64 ac, .int .i64 as_, .int .i64 qt, .int .i64 nm, .int .i64 id, lv, .slice a L.length cap] 26))
  have hO1 : LN.OM (w.alloc (.cells #[.int .i64 cd, .int .i64 ac, .int .i64 as_, .int .i64 qt, .int .i64 nm, .int .i64 id, lv, .slice a L.length cap] 26)) w0.heap.size (.slice ra R.length rc) R := World.ownsRow.alloc hO _
  have HO1 := hide hO1
  have Z1 := hide (alloc_new w (.cells #[.int .i64 cd, .int .i64 ac, .int .i64 as_, .int .i64 qt, .int .i64 nm, .int .i64 id, lv, .slice a L.length cap] 26))
  obtain ⟨y0, y1, y2, y3, y4, y5, y6, y7⟩ := eight_cells Z1.out rfl
  clear hO hO1 hr hi hz0 hz1 hz2
  go_enter Tryz.func76, Tryz.ntmps76
  go_wp2_with fail
  have HO2 := HO1
  have HB2 := HB1
  obtain ⟨RR, hRR⟩ : ∃ x, R = x := ⟨_, rfl⟩
  have hRL : RR.length ≤ R.length + 1 := by rw [← hRR]; omega
  generalize w.alloc (.cells #[.int .i64 cd, .int .i64 ac, .int .i64 as_, .int .i64 qt, .int .i64 nm, .int .i64 id, lv, .slice a L.length cap] 26) = w2 at *
  clear y0 y1 y2 y3 y4 y5 y6 y7
  go_loopw [0, 10] (fun u i wr => ∃ j : Nat, j ≤ L.length ∧ i = .int .i64 (j : Int) ∧ Hid (LN.OM wr w0.heap.size u (RR ++ rowKY (L.take j))) ∧ Hid (Below w0.heap.size w0 wr)) (fun _ i _ => L.length - (intOf i).toNat)
  case atStart => exact ⟨0, Nat.zero_le _, rfl, hide (by rw [List.take_zero]; show LN.OM _ _ _ (RR ++ []); rw [List.append_nil]; first | exact HO2.out | (rw [← hRR]; exact HO2.out)), HB2⟩
  case round =>
    obtain ⟨j, hj, rfl, HOW, HBW⟩ := hrel
    by_cases hlt : j < L.length
    · obtain ⟨⟨q0, q1⟩, hp⟩ : ∃ p, L[j]? = some p := ⟨_, List.getElem?_eq_getElem hlt⟩
      obtain ⟨b, off, ha, hbl, hc⟩ := HR.out.resolve_left (fun h => by rw [h] at hlt; simp at hlt)
      subst ha
      have c0 : wr.cell? ⟨b, off + j * 2, none⟩ = some (.int .i64 q0) := (HBW.out.cell (p := ⟨b, _, none⟩) hbl).trans (hc j _ hp).1
      have c1 : wr.cell? ⟨b, off + j * 2 + 1, none⟩ = some (.int .i64 q1) := (HBW.out.cell (p := ⟨b, _, none⟩) hbl).trans (hc j _ hp).2
      have HTK := hide (rowKY_take hp)
      have hln : (RR ++ rowKY (L.take j)).length ≤ R.length + 1 + j * 2 := by rw [List.length_append, rowKY_len, List.length_take]; omega
      have hj5 : j * 2 + 2 ≤ L.length * 2 := by omega
      have hO' : wr.ownsRow w0.heap.size 2 1 u0 (RR ++ rowKY (L.take j)).length (LN.mc (RR ++ rowKY (L.take j))) := HOW.out
      generalize hX : RR ++ rowKY (L.take j) = X at *
      have HXX : Hid (RR ++ rowKY (L.take (j + 1)) = X ++ [q0, q1]) := hide (by rw [HTK.out, ← List.append_assoc, hX])
      obtain ⟨ua, uc, hu⟩ := LN.OM.slice HOW.out
      subst hu
      have hb1 := (Below.refl wr.heap.size wr).alloc (Nat.le_refl _) (.cells #[.int .i64 q0, .int .i64 q1] 40)
      have hb2 := hb1.alloc hb1.size (.cells #[.int .i64 q0, .int .i64 q1] 2)
      have HX2 := hide hb2
      have hwl := HBW.out.size
      have nn := cells_KY (alloc_new wr (.cells #[.int .i64 q0, .int .i64 q1] 40)) rfl
      obtain ⟨m0, m1⟩ := nn
      have hd : decide ((j : Int) < (L.length : Int)) = true := by rw [decide_eq_true_eq]; omega
      have HXL : Hid (X.length + 2 ≤ 17592186044416) := hide (by omega)
      have HI1 := HII.out.1
      have HI2 := HII.out.2.1
      have HI3 := HII.out.2.2.1
      have HI4 := HII.out.2.2.2
      clear hc hp hbl hb1 hb2 HTK hX hln hj5 hRR
      go_wp2_with (first
        | (at_builtin; refine wpList_append_lies _ rfl _ _ 51 rfl w0.heap.size 2 i0 (.int .i64 0) 1 8 Tryz.underlying51 HI1 HI2 HI3 HI4 rfl (by decide) _ _ _ rfl (World.ownsRow.alloc (World.ownsRow.alloc hO' _) _) ⟨_, 0, none⟩ 2 2 [.int .i64 q0, .int .i64 q1] rfl rfl ?c1 ?c2 (by decide) ?c3 ?c4 ?c5 _ rfl ?_)
        | go_in)
      case c1 =>
        intro j u hj
        match j, hj with
        | 0, hj => simp at hj; subst hj; simp [Addr.add]
        | 1, hj => simp at hj; subst hj; simp [Addr.add]
      case c2 => intro u hu; simp at hu; rcases hu with rfl | rfl <;> rfl
      case c3 => have := HXL.out; unfold maxLen; omega
      case c4 => have := HXL.out; omega
      case c5 => simp; omega
      intro g cap w' hown hg hlies hlt2
      have HOW2 := hide (om_app (X := [q0, q1]) hown rfl)
      have HBW2 := hide (HBW.out.grown (grown_ofBelow HX2.out hg) HBW.out.size (fun k hk => (World.ownsRow.lt HOW.out k hk).1))
      rw [← HXX.out] at HOW2
      clear hown hg hlies hlt2 hO'
      go_wp2_with fail
      go_roundw
      case rel => exact ⟨j + 1, by omega, by go_num, HOW2, HBW2⟩
      case measure => simp [intOf]; omega
    · have e : j = L.length := by omega
      have hd : decide ((j : Int) < (L.length : Int)) = false := by rw [decide_eq_false_iff_not]; omega
      rw [e, List.take_length] at HOW
      clear e
      go_wp2_with fail
      go_ret
      exact ⟨_, rfl, by rw [hRR]; exact HOW.out, HBW.out⟩
/-- The numbers of a row of LG. -/
def rowLG (L : List LG.El) : List Int := L.flatMap fun p => [p.1, p.2.1, p.2.2.1, p.2.2.2.1, p.2.2.2.2]
theorem rowLG_len (L : List LG.El) : (rowLG L).length = L.length * 5 := by
  induction L with
  | nil => rfl
  | cons p t ih => show ([p.1, p.2.1, p.2.2.1, p.2.2.2.1, p.2.2.2.2] ++ rowLG t).length = _; rw [List.length_append, ih, List.length_cons]; simp; omega
theorem rowLG_take {L : List LG.El} {k : Nat} {p : LG.El} (h : L[k]? = some p) : rowLG (L.take (k + 1)) = rowLG (L.take k) ++ [p.1, p.2.1, p.2.2.1, p.2.2.2.1, p.2.2.2.2] := by
  rw [List.take_add_one, h]; unfold rowLG; rw [List.flatMap_append]; simp
set_option maxRecDepth 100000 in
set_option maxHeartbeats 4000000 in
theorem withSubmit_any (cd ac as_ qt nm id : Int) (lv pv v : Value) (R : List Int) (L : List LG.El) (w0 w : World) (hB : Below w0.heap.size w0 w) (hO : LN.OM w w0.heap.size v R) (hL : LG.RM w0 lv L) (hll : L.length ≤ 3518437208800) (hn : R.length + 1 + L.length * 5 ≤ 17592186044416) :
    Calls Tryz.prog 70 #[v, .agg #[.int .i64 cd, .int .i64 ac, .int .i64 as_, .int .i64 qt, .int .i64 nm, .int .i64 id, lv, pv]] w fun e w' => ∃ v', e = .returned v' ∧ LN.OM w' w0.heap.size v' ((R ++ [id]) ++ rowLG L) ∧ Below w0.heap.size w0 w' := by
  obtain ⟨i0, hi, hz0, hz1, hz2⟩ := info_parts LN.Tryz.infoB
  obtain ⟨ra, rc, hv⟩ := LN.OM.slice hO
  subst hv
  obtain ⟨a, cap, rfl, _, hr⟩ := hL
  have HR := hide hr
  have HII := hide (And.intro hi (And.intro hz0 (And.intro hz1 hz2)))
  have HID := hide (fun (W : World) (hb : Below w0.heap.size w0 W) (ho : LN.OM W w0.heap.size (.slice ra R.length rc) R) => withIdent_any cd ac as_ qt nm id (.slice a L.length cap) pv (.slice ra R.length rc) R w0 W hb ho (by omega))
  have HB1 := hide (hB.alloc hB.size (.cells #[.int .i64 cd, .int .i64 ac, .int .i64 as_, .int .i64 qt, .int .i64 nm, .int .i64 id, .slice a L.length cap, pv] 26))
  have hO1 : LN.OM (w.alloc (.cells #[.int .i64 cd, .int .i64 ac, .int .i64 as_, .int .i64 qt, .int .i64 nm, .int .i64 id, .slice a L.length cap, pv] 26)) w0.heap.size (.slice ra R.length rc) R := World.ownsRow.alloc hO _
  have HO1 := hide hO1
  have Z1 := hide (alloc_new w (.cells #[.int .i64 cd, .int .i64 ac, .int .i64 as_, .int .i64 qt, .int .i64 nm, .int .i64 id, .slice a L.length cap, pv] 26))
  obtain ⟨y0, y1, y2, y3, y4, y5, y6, y7⟩ := eight_cells Z1.out rfl
  clear hO hO1 hr hi hz0 hz1 hz2
  go_enter Tryz.func70, Tryz.ntmps70
  go_wp2_with fail
  refine (HID.out _ HB1.out HO1.out).mono ?_
  rintro e w2 ⟨g1, cap1, rfl, hO2, hg2, hb2⟩
  have Z2 := hide ((hg2.block _ (Array.getElem?_eq_some_iff.1 Z1.out).1 (fun e => by
    obtain ⟨c2, fz, h2⟩ := ownsRow_kind HO1.out _ e.symm
    rw [Z1.out] at h2
    injection h2 with h2
    injection h2 with _ h2 _
    exact absurd h2 (by decide))).trans Z1.out)
  have HO2 := hide hO2
  have HB2 := hide hb2
  clear hO2 hg2 hb2 HID y0 y1 y2 y3 y4 y5 y6 y7
  obtain ⟨y0, y1, y2, y3, y4, y5, y6, y7⟩ := eight_cells Z2.out rfl
  obtain ⟨RR, hRR⟩ : ∃ x, R ++ [id] = x := ⟨_, rfl⟩
  have hRL : RR.length = R.length + 1 := by rw [← hRR]; simp
  rw [hRR] at HO2
  go_wp2_with fail
  clear y0 y1 y2 y3 y4 y5 y6 y7
  go_loopw [0, 13] (fun u i wr => ∃ j : Nat, j ≤ L.length ∧ i = .int .i64 (j : Int) ∧ Hid (LN.OM wr w0.heap.size u (RR ++ rowLG (L.take j))) ∧ Hid (Below w0.heap.size w0 wr)) (fun _ i _ => L.length - (intOf i).toNat)
  case atStart => exact ⟨0, Nat.zero_le _, rfl, hide (by rw [List.take_zero]; show LN.OM _ _ _ (RR ++ []); rw [List.append_nil]; first | exact HO2.out | (rw [← hRR]; exact HO2.out)), HB2⟩
  case round =>
    obtain ⟨j, hj, rfl, HOW, HBW⟩ := hrel
    by_cases hlt : j < L.length
    · obtain ⟨⟨q0, q1, q2, q3, q4⟩, hp⟩ : ∃ p, L[j]? = some p := ⟨_, List.getElem?_eq_getElem hlt⟩
      obtain ⟨b, off, ha, hbl, hc⟩ := HR.out.resolve_left (fun h => by rw [h] at hlt; simp at hlt)
      subst ha
      have c0 : wr.cell? ⟨b, off + j * 5, none⟩ = some (.int .i64 q0) := (HBW.out.cell (p := ⟨b, _, none⟩) hbl).trans (hc j _ hp).1
      have c1 : wr.cell? ⟨b, off + j * 5 + 1, none⟩ = some (.int .i64 q1) := (HBW.out.cell (p := ⟨b, _, none⟩) hbl).trans (hc j _ hp).2.1
      have c2 : wr.cell? ⟨b, off + j * 5 + 2, none⟩ = some (.int .i64 q2) := (HBW.out.cell (p := ⟨b, _, none⟩) hbl).trans (hc j _ hp).2.2.1
      have c3 : wr.cell? ⟨b, off + j * 5 + 3, none⟩ = some (.int .i64 q3) := (HBW.out.cell (p := ⟨b, _, none⟩) hbl).trans (hc j _ hp).2.2.2.1
      have c4 : wr.cell? ⟨b, off + j * 5 + 4, none⟩ = some (.int .i64 q4) := (HBW.out.cell (p := ⟨b, _, none⟩) hbl).trans (hc j _ hp).2.2.2.2
      have HTK := hide (rowLG_take hp)
      have hln : (RR ++ rowLG (L.take j)).length ≤ R.length + 1 + j * 5 := by rw [List.length_append, rowLG_len, List.length_take]; omega
      have hj5 : j * 5 + 5 ≤ L.length * 5 := by omega
      have hO' : wr.ownsRow w0.heap.size 2 1 u0 (RR ++ rowLG (L.take j)).length (LN.mc (RR ++ rowLG (L.take j))) := HOW.out
      generalize hX : RR ++ rowLG (L.take j) = X at *
      have HXX : Hid (RR ++ rowLG (L.take (j + 1)) = X ++ [q0, q1, q2, q3, q4]) := hide (by rw [HTK.out, ← List.append_assoc, hX])
      obtain ⟨ua, uc, hu⟩ := LN.OM.slice HOW.out
      subst hu
      have hb1 := (Below.refl wr.heap.size wr).alloc (Nat.le_refl _) (.cells #[.int .i64 q0, .int .i64 q1, .int .i64 q2, .int .i64 q3, .int .i64 q4] 38)
      have hb2 := hb1.alloc hb1.size (.cells #[.int .i64 q0, .int .i64 q1, .int .i64 q2, .int .i64 q3, .int .i64 q4] 2)
      have HX2 := hide hb2
      have hwl := HBW.out.size
      have nn := cells_LG (alloc_new wr (.cells #[.int .i64 q0, .int .i64 q1, .int .i64 q2, .int .i64 q3, .int .i64 q4] 38)) rfl
      obtain ⟨m0, m1, m2, m3, m4⟩ := nn
      have hd : decide ((j : Int) < (L.length : Int)) = true := by rw [decide_eq_true_eq]; omega
      have HXL : Hid (X.length + 5 ≤ 17592186044416) := hide (by omega)
      have HI1 := HII.out.1
      have HI2 := HII.out.2.1
      have HI3 := HII.out.2.2.1
      have HI4 := HII.out.2.2.2
      clear hc hp hbl hb1 hb2 HTK hX hln hj5 hRR
      go_wp2_with (first
        | (at_builtin; refine wpList_append_lies _ rfl _ _ 51 rfl w0.heap.size 2 i0 (.int .i64 0) 1 8 Tryz.underlying51 HI1 HI2 HI3 HI4 rfl (by decide) _ _ _ rfl (World.ownsRow.alloc (World.ownsRow.alloc hO' _) _) ⟨_, 0, none⟩ 5 5 [.int .i64 q0, .int .i64 q1, .int .i64 q2, .int .i64 q3, .int .i64 q4] rfl rfl ?c1 ?c2 (by decide) ?c3 ?c4 ?c5 _ rfl ?_)
        | go_in)
      case c1 =>
        intro j u hj
        match j, hj with
        | 0, hj => simp at hj; subst hj; simp [Addr.add]
        | 1, hj => simp at hj; subst hj; simp [Addr.add]
        | 2, hj => simp at hj; subst hj; simp [Addr.add]
        | 3, hj => simp at hj; subst hj; simp [Addr.add]
        | 4, hj => simp at hj; subst hj; simp [Addr.add]
      case c2 => intro u hu; simp at hu; rcases hu with rfl | rfl | rfl | rfl | rfl <;> rfl
      case c3 => have := HXL.out; unfold maxLen; omega
      case c4 => have := HXL.out; omega
      case c5 => simp; omega
      intro g cap w' hown hg hlies hlt2
      have HOW2 := hide (om_app (X := [q0, q1, q2, q3, q4]) hown rfl)
      have HBW2 := hide (HBW.out.grown (grown_ofBelow HX2.out hg) HBW.out.size (fun k hk => (World.ownsRow.lt HOW.out k hk).1))
      rw [← HXX.out] at HOW2
      clear hown hg hlies hlt2 hO'
      go_wp2_with fail
      go_roundw
      case rel => exact ⟨j + 1, by omega, by go_num, HOW2, HBW2⟩
      case measure => simp [intOf]; omega
    · have e : j = L.length := by omega
      have hd : decide ((j : Int) < (L.length : Int)) = false := by rw [decide_eq_false_iff_not]; omega
      rw [e, List.take_length] at HOW
      clear e
      go_wp2_with fail
      go_ret
      exact ⟨_, rfl, by rw [hRR]; exact HOW.out, HBW.out⟩
end Go.Proofs.YtdiamlajmcikhaaGreatDoor
