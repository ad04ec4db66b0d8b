/-
  My own text: the document's Encode (printed by mkg23.py).
-/
import Derived.Test.YtdiamlajmcikhaaGreatDoorG22
namespace Go.Proofs.YtdiamlajmcikhaaGreatDoor
open Go.RowKit

theorem new_at (W : World) (A : List Value) (t : TypeId) (n : Nat) (hn : W.heap.size = n) (j : Nat) (u : Value) (h : A[j]? = some u) : (W.alloc (.cells A.toArray t)).cell? ((⟨n, 0, none⟩ : Addr).add j) = some u := by
  subst hn
  rw [Addr.add_lit, cell_of_row _ W.heap.size _ _ _ _ (alloc_new W _), Nat.zero_add]
  simpa using h
theorem box_kept {W W' : World} {O : Nat} {c : Array Value} {row : Option Nat} {B n : Nat} {v : Value} {xs : List Value} (h : W.heap[O]? = some (.cells c 26 (0, 0))) (ho : W.ownsRow B 2 1 v n xs) (hr : row = v.ownBlock) (hg : W.grownBy W' row) : W'.heap[O]? = some (.cells c 26 (0, 0)) :=
  (hg.block O (Array.getElem?_eq_some_iff.1 h).1 (fun e => by
    obtain ⟨c2, fz, h2⟩ := ownsRow_kind ho O (by rw [← hr]; exact e.symm)
    rw [h] at h2
    injection h2 with h2
    injection h2 with _ h2 _
    exact absurd h2 (by decide))).trans h
set_option maxRecDepth 100000 in
set_option maxHeartbeats 4000000 in
theorem renc_1 (ac as_ qt nm id : Int) (lv pv : Value) (w : World) :
    Calls Tryz.prog 31 #[.agg #[.int .i64 1, .int .i64 ac, .int .i64 as_, .int .i64 qt, .int .i64 nm, .int .i64 id, lv, pv]] w fun e w' => ∃ v', e = .returned (.tuple #[v', .int .i64 0]) ∧ LN.OM w' w.heap.size v' [1, ac, as_, qt] ∧ Below w.heap.size w w' := by
  obtain ⟨i0, hi, hz0, hz1, hz2⟩ := info_parts LN.Tryz.infoB
  have Z0 := alloc_new w (.cells #[.int .i64 1, .int .i64 ac, .int .i64 as_, .int .i64 qt, .int .i64 nm, .int .i64 id, lv, pv] 26)
  have Z1 := hide (alloc_block (o := .cells #[.int .i64 1] 2) Z0)
  obtain ⟨x0, x1, x2, x3, x4, x5, x6, x7⟩ := eight_cells Z0 rfl
  obtain ⟨y0, y1, y2, y3, y4, y5, y6, y7⟩ := eight_cells Z1.out rfl
  have HB1 := hide (((Below.refl w.heap.size w).alloc (Nat.le_refl _) (.cells #[.int .i64 1, .int .i64 ac, .int .i64 as_, .int .i64 qt, .int .i64 nm, .int .i64 id, lv, pv] 26)).alloc (by simp) (.cells #[.int .i64 1] 2))
  have HOO := ln_one (w.alloc (.cells #[.int .i64 1, .int .i64 ac, .int .i64 as_, .int .i64 qt, .int .i64 nm, .int .i64 id, lv, pv] 26)) w.heap.size 1 (by simp)
  rw [show (w.alloc (.cells #[.int .i64 1, .int .i64 ac, .int .i64 as_, .int .i64 qt, .int .i64 nm, .int .i64 id, lv, pv] 26)).heap.size = w.heap.size + 1 by simp] at HOO
  have hO1 : _ := show World.ownsRow _ w.heap.size 2 1 (.slice (some ⟨w.heap.size + 1, 0, none⟩) 1 1) 1 (LN.mc [1]) from HOO
  have HO1 := hide hO1
  go_enter Tryz.func31, Tryz.ntmps31
  go_wp2_with (first
    | (at_builtin; refine wpList_append_lies _ rfl _ _ 31 rfl w.heap.size 2 i0 (.int .i64 0) 1 8 Tryz.underlying31 hi hz0 hz1 hz2 rfl (by decide) _ _ _ rfl (World.ownsRow.alloc hO1 _) ⟨_, 0, none⟩ 3 3 [.int .i64 ac, .int .i64 as_, .int .i64 qt] rfl rfl ?c1 ?c2 (by decide) ?c3 ?c4 ?c5 _ rfl ?_)
    | go_in)
  case c1 => exact fun j u hj => new_at _ [.int .i64 ac, .int .i64 as_, .int .i64 qt] _ _ (by simp) j u hj
  case c2 => intro u hu; simp at hu; rcases hu with rfl | rfl | rfl <;> rfl
  case c3 => unfold maxLen; omega
  case c4 => omega
  case c5 => simp; omega
  intro g cap w' hown hg hlies hlt
  have HOW := hide (om_app (R := [1]) (X := [ac, as_, qt]) hown rfl)
  have HBW := hide (HB1.out.grown (grown_ofBelow ((Below.refl _ _).alloc (Nat.le_refl _) _) hg) HB1.out.size (fun k hk => (World.ownsRow.lt HO1.out k hk).1))
  clear hown hg hlies hlt
  go_wp2_with fail
  go_ret2
  exact ⟨_, rfl, HOW.out, HBW.out⟩
set_option maxRecDepth 100000 in
set_option maxHeartbeats 4000000 in
theorem renc_2 (ac as_ qt nm id : Int) (lv pv : Value) (w : World) :
    Calls Tryz.prog 31 #[.agg #[.int .i64 2, .int .i64 ac, .int .i64 as_, .int .i64 qt, .int .i64 nm, .int .i64 id, lv, pv]] w fun e w' => ∃ v', e = .returned (.tuple #[v', .int .i64 0]) ∧ LN.OM w' w.heap.size v' [2, ac, as_, qt] ∧ Below w.heap.size w w' := by
  obtain ⟨i0, hi, hz0, hz1, hz2⟩ := info_parts LN.Tryz.infoB
  have Z0 := alloc_new w (.cells #[.int .i64 2, .int .i64 ac, .int .i64 as_, .int .i64 qt, .int .i64 nm, .int .i64 id, lv, pv] 26)
  have Z1 := hide (alloc_block (o := .cells #[.int .i64 2] 2) Z0)
  obtain ⟨x0, x1, x2, x3, x4, x5, x6, x7⟩ := eight_cells Z0 rfl
  obtain ⟨y0, y1, y2, y3, y4, y5, y6, y7⟩ := eight_cells Z1.out rfl
  have HB1 := hide (((Below.refl w.heap.size w).alloc (Nat.le_refl _) (.cells #[.int .i64 2, .int .i64 ac, .int .i64 as_, .int .i64 qt, .int .i64 nm, .int .i64 id, lv, pv] 26)).alloc (by simp) (.cells #[.int .i64 2] 2))
  have HOO := ln_one (w.alloc (.cells #[.int .i64 2, .int .i64 ac, .int .i64 as_, .int .i64 qt, .int .i64 nm, .int .i64 id, lv, pv] 26)) w.heap.size 2 (by simp)
  rw [show (w.alloc (.cells #[.int .i64 2, .int .i64 ac, .int .i64 as_, .int .i64 qt, .int .i64 nm, .int .i64 id, lv, pv] 26)).heap.size = w.heap.size + 1 by simp] at HOO
  have hO1 : _ := show World.ownsRow _ w.heap.size 2 1 (.slice (some ⟨w.heap.size + 1, 0, none⟩) 1 1) 1 (LN.mc [2]) from HOO
  have HO1 := hide hO1
  go_enter Tryz.func31, Tryz.ntmps31
  go_wp2_with (first
    | (at_builtin; refine wpList_append_lies _ rfl _ _ 31 rfl w.heap.size 2 i0 (.int .i64 0) 1 8 Tryz.underlying31 hi hz0 hz1 hz2 rfl (by decide) _ _ _ rfl (World.ownsRow.alloc hO1 _) ⟨_, 0, none⟩ 3 3 [.int .i64 ac, .int .i64 as_, .int .i64 qt] rfl rfl ?c1 ?c2 (by decide) ?c3 ?c4 ?c5 _ rfl ?_)
    | go_in)
  case c1 => exact fun j u hj => new_at _ [.int .i64 ac, .int .i64 as_, .int .i64 qt] _ _ (by simp) j u hj
  case c2 => intro u hu; simp at hu; rcases hu with rfl | rfl | rfl <;> rfl
  case c3 => unfold maxLen; omega
  case c4 => omega
  case c5 => simp; omega
  intro g cap w' hown hg hlies hlt
  have HOW := hide (om_app (R := [2]) (X := [ac, as_, qt]) hown rfl)
  have HBW := hide (HB1.out.grown (grown_ofBelow ((Below.refl _ _).alloc (Nat.le_refl _) _) hg) HB1.out.size (fun k hk => (World.ownsRow.lt HO1.out k hk).1))
  clear hown hg hlies hlt
  go_wp2_with fail
  go_ret2
  exact ⟨_, rfl, HOW.out, HBW.out⟩
set_option maxRecDepth 100000 in
set_option maxHeartbeats 4000000 in
theorem renc_3 (ac as_ qt nm id : Int) (lv pv : Value) (w : World) :
    Calls Tryz.prog 31 #[.agg #[.int .i64 3, .int .i64 ac, .int .i64 as_, .int .i64 qt, .int .i64 nm, .int .i64 id, lv, pv]] w fun e w' => ∃ v', e = .returned (.tuple #[v', .int .i64 0]) ∧ LN.OM w' w.heap.size v' [3, ac, as_, qt, nm] ∧ Below w.heap.size w w' := by
  obtain ⟨i0, hi, hz0, hz1, hz2⟩ := info_parts LN.Tryz.infoB
  have Z0 := alloc_new w (.cells #[.int .i64 3, .int .i64 ac, .int .i64 as_, .int .i64 qt, .int .i64 nm, .int .i64 id, lv, pv] 26)
  have Z1 := hide (alloc_block (o := .cells #[.int .i64 3] 2) Z0)
  obtain ⟨x0, x1, x2, x3, x4, x5, x6, x7⟩ := eight_cells Z0 rfl
  obtain ⟨y0, y1, y2, y3, y4, y5, y6, y7⟩ := eight_cells Z1.out rfl
  have HB1 := hide (((Below.refl w.heap.size w).alloc (Nat.le_refl _) (.cells #[.int .i64 3, .int .i64 ac, .int .i64 as_, .int .i64 qt, .int .i64 nm, .int .i64 id, lv, pv] 26)).alloc (by simp) (.cells #[.int .i64 3] 2))
  have HOO := ln_one (w.alloc (.cells #[.int .i64 3, .int .i64 ac, .int .i64 as_, .int .i64 qt, .int .i64 nm, .int .i64 id, lv, pv] 26)) w.heap.size 3 (by simp)
  rw [show (w.alloc (.cells #[.int .i64 3, .int .i64 ac, .int .i64 as_, .int .i64 qt, .int .i64 nm, .int .i64 id, lv, pv] 26)).heap.size = w.heap.size + 1 by simp] at HOO
  have hO1 : _ := show World.ownsRow _ w.heap.size 2 1 (.slice (some ⟨w.heap.size + 1, 0, none⟩) 1 1) 1 (LN.mc [3]) from HOO
  have HO1 := hide hO1
  go_enter Tryz.func31, Tryz.ntmps31
  go_wp2_with (first
    | (at_builtin; refine wpList_append_lies _ rfl _ _ 31 rfl w.heap.size 2 i0 (.int .i64 0) 1 8 Tryz.underlying31 hi hz0 hz1 hz2 rfl (by decide) _ _ _ rfl (World.ownsRow.alloc hO1 _) ⟨_, 0, none⟩ 4 4 [.int .i64 ac, .int .i64 as_, .int .i64 qt, .int .i64 nm] rfl rfl ?c1 ?c2 (by decide) ?c3 ?c4 ?c5 _ rfl ?_)
    | go_in)
  case c1 => exact fun j u hj => new_at _ [.int .i64 ac, .int .i64 as_, .int .i64 qt, .int .i64 nm] _ _ (by simp) j u hj
  case c2 => intro u hu; simp at hu; rcases hu with rfl | rfl | rfl | rfl <;> rfl
  case c3 => unfold maxLen; omega
  case c4 => omega
  case c5 => simp; omega
  intro g cap w' hown hg hlies hlt
  have HOW := hide (om_app (R := [3]) (X := [ac, as_, qt, nm]) hown rfl)
  have HBW := hide (HB1.out.grown (grown_ofBelow ((Below.refl _ _).alloc (Nat.le_refl _) _) hg) HB1.out.size (fun k hk => (World.ownsRow.lt HO1.out k hk).1))
  clear hown hg hlies hlt
  go_wp2_with fail
  go_ret2
  exact ⟨_, rfl, HOW.out, HBW.out⟩
set_option maxRecDepth 100000 in
set_option maxHeartbeats 4000000 in
theorem renc_4 (ac as_ qt nm id : Int) (lv pv : Value) (w : World) :
    Calls Tryz.prog 31 #[.agg #[.int .i64 4, .int .i64 ac, .int .i64 as_, .int .i64 qt, .int .i64 nm, .int .i64 id, lv, pv]] w fun e w' => ∃ v', e = .returned (.tuple #[v', .int .i64 0]) ∧ LN.OM w' w.heap.size v' [4, ac, as_, qt, nm] ∧ Below w.heap.size w w' := by
  obtain ⟨i0, hi, hz0, hz1, hz2⟩ := info_parts LN.Tryz.infoB
  have Z0 := alloc_new w (.cells #[.int .i64 4, .int .i64 ac, .int .i64 as_, .int .i64 qt, .int .i64 nm, .int .i64 id, lv, pv] 26)
  have Z1 := hide (alloc_block (o := .cells #[.int .i64 4] 2) Z0)
  obtain ⟨x0, x1, x2, x3, x4, x5, x6, x7⟩ := eight_cells Z0 rfl
  obtain ⟨y0, y1, y2, y3, y4, y5, y6, y7⟩ := eight_cells Z1.out rfl
  have HB1 := hide (((Below.refl w.heap.size w).alloc (Nat.le_refl _) (.cells #[.int .i64 4, .int .i64 ac, .int .i64 as_, .int .i64 qt, .int .i64 nm, .int .i64 id, lv, pv] 26)).alloc (by simp) (.cells #[.int .i64 4] 2))
  have HOO := ln_one (w.alloc (.cells #[.int .i64 4, .int .i64 ac, .int .i64 as_, .int .i64 qt, .int .i64 nm, .int .i64 id, lv, pv] 26)) w.heap.size 4 (by simp)
  rw [show (w.alloc (.cells #[.int .i64 4, .int .i64 ac, .int .i64 as_, .int .i64 qt, .int .i64 nm, .int .i64 id, lv, pv] 26)).heap.size = w.heap.size + 1 by simp] at HOO
  have hO1 : _ := show World.ownsRow _ w.heap.size 2 1 (.slice (some ⟨w.heap.size + 1, 0, none⟩) 1 1) 1 (LN.mc [4]) from HOO
  have HO1 := hide hO1
  go_enter Tryz.func31, Tryz.ntmps31
  go_wp2_with (first
    | (at_builtin; refine wpList_append_lies _ rfl _ _ 31 rfl w.heap.size 2 i0 (.int .i64 0) 1 8 Tryz.underlying31 hi hz0 hz1 hz2 rfl (by decide) _ _ _ rfl (World.ownsRow.alloc hO1 _) ⟨_, 0, none⟩ 4 4 [.int .i64 ac, .int .i64 as_, .int .i64 qt, .int .i64 nm] rfl rfl ?c1 ?c2 (by decide) ?c3 ?c4 ?c5 _ rfl ?_)
    | go_in)
  case c1 => exact fun j u hj => new_at _ [.int .i64 ac, .int .i64 as_, .int .i64 qt, .int .i64 nm] _ _ (by simp) j u hj
  case c2 => intro u hu; simp at hu; rcases hu with rfl | rfl | rfl | rfl <;> rfl
  case c3 => unfold maxLen; omega
  case c4 => omega
  case c5 => simp; omega
  intro g cap w' hown hg hlies hlt
  have HOW := hide (om_app (R := [4]) (X := [ac, as_, qt, nm]) hown rfl)
  have HBW := hide (HB1.out.grown (grown_ofBelow ((Below.refl _ _).alloc (Nat.le_refl _) _) hg) HB1.out.size (fun k hk => (World.ownsRow.lt HO1.out k hk).1))
  clear hown hg hlies hlt
  go_wp2_with fail
  go_ret2
  exact ⟨_, rfl, HOW.out, HBW.out⟩
set_option maxRecDepth 100000 in
set_option maxHeartbeats 4000000 in
theorem renc_6 (ac as_ qt nm id : Int) (lv pv : Value) (w : World) :
    Calls Tryz.prog 31 #[.agg #[.int .i64 6, .int .i64 ac, .int .i64 as_, .int .i64 qt, .int .i64 nm, .int .i64 id, lv, pv]] w fun e w' => ∃ v', e = .returned (.tuple #[v', .int .i64 0]) ∧ LN.OM w' w.heap.size v' [6, id] ∧ Below w.heap.size w w' := by
  obtain ⟨i0, hi, hz0, hz1, hz2⟩ := info_parts LN.Tryz.infoB
  have Z0 := alloc_new w (.cells #[.int .i64 6, .int .i64 ac, .int .i64 as_, .int .i64 qt, .int .i64 nm, .int .i64 id, lv, pv] 26)
  have Z1 := hide (alloc_block (o := .cells #[.int .i64 6] 2) Z0)
  obtain ⟨x0, x1, x2, x3, x4, x5, x6, x7⟩ := eight_cells Z0 rfl
  obtain ⟨y0, y1, y2, y3, y4, y5, y6, y7⟩ := eight_cells Z1.out rfl
  have HB1 := hide (((Below.refl w.heap.size w).alloc (Nat.le_refl _) (.cells #[.int .i64 6, .int .i64 ac, .int .i64 as_, .int .i64 qt, .int .i64 nm, .int .i64 id, lv, pv] 26)).alloc (by simp) (.cells #[.int .i64 6] 2))
  have HOO := ln_one (w.alloc (.cells #[.int .i64 6, .int .i64 ac, .int .i64 as_, .int .i64 qt, .int .i64 nm, .int .i64 id, lv, pv] 26)) w.heap.size 6 (by simp)
  rw [show (w.alloc (.cells #[.int .i64 6, .int .i64 ac, .int .i64 as_, .int .i64 qt, .int .i64 nm, .int .i64 id, lv, pv] 26)).heap.size = w.heap.size + 1 by simp] at HOO
  have hO1 : _ := show World.ownsRow _ w.heap.size 2 1 (.slice (some ⟨w.heap.size + 1, 0, none⟩) 1 1) 1 (LN.mc [6]) from HOO
  have HO1 := hide hO1
  go_enter Tryz.func31, Tryz.ntmps31
  go_wp2_with (first
    | (at_builtin; refine wpList_append_lies _ rfl _ _ 31 rfl w.heap.size 2 i0 (.int .i64 0) 1 8 Tryz.underlying31 hi hz0 hz1 hz2 rfl (by decide) _ _ _ rfl (World.ownsRow.alloc hO1 _) ⟨_, 0, none⟩ 1 1 [.int .i64 id] rfl rfl ?c1 ?c2 (by decide) ?c3 ?c4 ?c5 _ rfl ?_)
    | go_in)
  case c1 => exact fun j u hj => new_at _ [.int .i64 id] _ _ (by simp) j u hj
  case c2 => intro u hu; simp at hu; subst hu; rfl
  case c3 => unfold maxLen; omega
  case c4 => omega
  case c5 => simp; omega
  intro g cap w' hown hg hlies hlt
  have HOW := hide (om_app (R := [6]) (X := [id]) hown rfl)
  have HBW := hide (HB1.out.grown (grown_ofBelow ((Below.refl _ _).alloc (Nat.le_refl _) _) hg) HB1.out.size (fun k hk => (World.ownsRow.lt HO1.out k hk).1))
  clear hown hg hlies hlt
  go_wp2_with fail
  go_ret2
  exact ⟨_, rfl, HOW.out, HBW.out⟩
set_option maxRecDepth 100000 in
set_option maxHeartbeats 4000000 in
theorem renc_7 (ac as_ qt nm id : Int) (lv pv : Value) (w : World) :
    Calls Tryz.prog 31 #[.agg #[.int .i64 7, .int .i64 ac, .int .i64 as_, .int .i64 qt, .int .i64 nm, .int .i64 id, lv, pv]] w fun e w' => ∃ v', e = .returned (.tuple #[v', .int .i64 0]) ∧ LN.OM w' w.heap.size v' [7, id] ∧ Below w.heap.size w w' := by
  obtain ⟨i0, hi, hz0, hz1, hz2⟩ := info_parts LN.Tryz.infoB
  have Z0 := alloc_new w (.cells #[.int .i64 7, .int .i64 ac, .int .i64 as_, .int .i64 qt, .int .i64 nm, .int .i64 id, lv, pv] 26)
  have Z1 := hide (alloc_block (o := .cells #[.int .i64 7] 2) Z0)
  obtain ⟨x0, x1, x2, x3, x4, x5, x6, x7⟩ := eight_cells Z0 rfl
  obtain ⟨y0, y1, y2, y3, y4, y5, y6, y7⟩ := eight_cells Z1.out rfl
  have HB1 := hide (((Below.refl w.heap.size w).alloc (Nat.le_refl _) (.cells #[.int .i64 7, .int .i64 ac, .int .i64 as_, .int .i64 qt, .int .i64 nm, .int .i64 id, lv, pv] 26)).alloc (by simp) (.cells #[.int .i64 7] 2))
  have HOO := ln_one (w.alloc (.cells #[.int .i64 7, .int .i64 ac, .int .i64 as_, .int .i64 qt, .int .i64 nm, .int .i64 id, lv, pv] 26)) w.heap.size 7 (by simp)
  rw [show (w.alloc (.cells #[.int .i64 7, .int .i64 ac, .int .i64 as_, .int .i64 qt, .int .i64 nm, .int .i64 id, lv, pv] 26)).heap.size = w.heap.size + 1 by simp] at HOO
  have hO1 : _ := show World.ownsRow _ w.heap.size 2 1 (.slice (some ⟨w.heap.size + 1, 0, none⟩) 1 1) 1 (LN.mc [7]) from HOO
  have HO1 := hide hO1
  go_enter Tryz.func31, Tryz.ntmps31
  go_wp2_with (first
    | (at_builtin; refine wpList_append_lies _ rfl _ _ 31 rfl w.heap.size 2 i0 (.int .i64 0) 1 8 Tryz.underlying31 hi hz0 hz1 hz2 rfl (by decide) _ _ _ rfl (World.ownsRow.alloc hO1 _) ⟨_, 0, none⟩ 1 1 [.int .i64 id] rfl rfl ?c1 ?c2 (by decide) ?c3 ?c4 ?c5 _ rfl ?_)
    | go_in)
  case c1 => exact fun j u hj => new_at _ [.int .i64 id] _ _ (by simp) j u hj
  case c2 => intro u hu; simp at hu; subst hu; rfl
  case c3 => unfold maxLen; omega
  case c4 => omega
  case c5 => simp; omega
  intro g cap w' hown hg hlies hlt
  have HOW := hide (om_app (R := [7]) (X := [id]) hown rfl)
  have HBW := hide (HB1.out.grown (grown_ofBelow ((Below.refl _ _).alloc (Nat.le_refl _) _) hg) HB1.out.size (fun k hk => (World.ownsRow.lt HO1.out k hk).1))
  clear hown hg hlies hlt
  go_wp2_with fail
  go_ret2
  exact ⟨_, rfl, HOW.out, HBW.out⟩
set_option maxRecDepth 100000 in
set_option maxHeartbeats 4000000 in
theorem renc_0 (cd ac as_ qt nm id : Int) (lv pv : Value) (w : World) (hc : ¬ (1 ≤ cd ∧ cd ≤ 8)) :
    Calls Tryz.prog 31 #[.agg #[.int .i64 cd, .int .i64 ac, .int .i64 as_, .int .i64 qt, .int .i64 nm, .int .i64 id, lv, pv]] w fun e w' => e = .returned (.tuple #[.slice none 0 0, .int .i64 13]) ∧ Below w.heap.size w w' := by
  obtain ⟨i0, hi, hz0, hz1, hz2⟩ := info_parts LN.Tryz.infoB
  have Z0 := alloc_new w (.cells #[.int .i64 cd, .int .i64 ac, .int .i64 as_, .int .i64 qt, .int .i64 nm, .int .i64 id, lv, pv] 26)
  have Z1 := hide (alloc_block (o := .cells #[.int .i64 cd] 2) Z0)
  obtain ⟨x0, x1, x2, x3, x4, x5, x6, x7⟩ := eight_cells Z0 rfl
  obtain ⟨y0, y1, y2, y3, y4, y5, y6, y7⟩ := eight_cells Z1.out rfl
  have HB1 := hide (((Below.refl w.heap.size w).alloc (Nat.le_refl _) (.cells #[.int .i64 cd, .int .i64 ac, .int .i64 as_, .int .i64 qt, .int .i64 nm, .int .i64 id, lv, pv] 26)).alloc (by simp) (.cells #[.int .i64 cd] 2))
  have HOO := ln_one (w.alloc (.cells #[.int .i64 cd, .int .i64 ac, .int .i64 as_, .int .i64 qt, .int .i64 nm, .int .i64 id, lv, pv] 26)) w.heap.size cd (by simp)
  rw [show (w.alloc (.cells #[.int .i64 cd, .int .i64 ac, .int .i64 as_, .int .i64 qt, .int .i64 nm, .int .i64 id, lv, pv] 26)).heap.size = w.heap.size + 1 by simp] at HOO
  have hO1 : _ := show World.ownsRow _ w.heap.size 2 1 (.slice (some ⟨w.heap.size + 1, 0, none⟩) 1 1) 1 (LN.mc [cd]) from HOO
  have HO1 := hide hO1
  have n1 : (cd == 1) = false := by rw [beq_eq_false_iff_ne]; omega
  have n2 : (cd == 2) = false := by rw [beq_eq_false_iff_ne]; omega
  have n3 : (cd == 3) = false := by rw [beq_eq_false_iff_ne]; omega
  have n4 : (cd == 4) = false := by rw [beq_eq_false_iff_ne]; omega
  have n5 : (cd == 5) = false := by rw [beq_eq_false_iff_ne]; omega
  have n6 : (cd == 6) = false := by rw [beq_eq_false_iff_ne]; omega
  have n7 : (cd == 7) = false := by rw [beq_eq_false_iff_ne]; omega
  have n8 : (cd == 8) = false := by rw [beq_eq_false_iff_ne]; omega
  clear hc hi hz0 hz1 hz2 hO1 HO1 HOO
  go_enter Tryz.func31, Tryz.ntmps31
  go_wp2_with fail
  go_ret2
  exact ⟨rfl, HB1.out⟩
set_option maxRecDepth 100000 in
set_option maxHeartbeats 4000000 in
theorem renc_5 (ac as_ qt nm id : Int) (lv pv : Value) (L : List LG.El) (w : World) (hL : LG.RM w lv L) (hl : L.length ≤ 3518437208800) :
    Calls Tryz.prog 31 #[.agg #[.int .i64 5, .int .i64 ac, .int .i64 as_, .int .i64 qt, .int .i64 nm, .int .i64 id, lv, pv]] w fun e w' => ∃ v', e = .returned (.tuple #[v', .int .i64 0]) ∧ LN.OM w' w.heap.size v' (5 :: id :: rowLG L) ∧ Below w.heap.size w w' := by
  obtain ⟨a, cap, rfl, _, hr⟩ := hL
  have HR := hide hr
  clear hr
  obtain ⟨i0, hi, hz0, hz1, hz2⟩ := info_parts LN.Tryz.infoB
  have Z0 := alloc_new w (.cells #[.int .i64 5, .int .i64 ac, .int .i64 as_, .int .i64 qt, .int .i64 nm, .int .i64 id, .slice a L.length cap, pv] 26)
  have Z1 := hide (alloc_block (o := .cells #[.int .i64 5] 2) Z0)
  obtain ⟨x0, x1, x2, x3, x4, x5, x6, x7⟩ := eight_cells Z0 rfl
  obtain ⟨y0, y1, y2, y3, y4, y5, y6, y7⟩ := eight_cells Z1.out rfl
  have HB1 := hide (((Below.refl w.heap.size w).alloc (Nat.le_refl _) (.cells #[.int .i64 5, .int .i64 ac, .int .i64 as_, .int .i64 qt, .int .i64 nm, .int .i64 id, .slice a L.length cap, pv] 26)).alloc (by simp) (.cells #[.int .i64 5] 2))
  have HOO := ln_one (w.alloc (.cells #[.int .i64 5, .int .i64 ac, .int .i64 as_, .int .i64 qt, .int .i64 nm, .int .i64 id, .slice a L.length cap, pv] 26)) w.heap.size 5 (by simp)
  rw [show (w.alloc (.cells #[.int .i64 5, .int .i64 ac, .int .i64 as_, .int .i64 qt, .int .i64 nm, .int .i64 id, .slice a L.length cap, pv] 26)).heap.size = w.heap.size + 1 by simp] at HOO
  have hO1 : _ := show World.ownsRow _ w.heap.size 2 1 (.slice (some ⟨w.heap.size + 1, 0, none⟩) 1 1) 1 (LN.mc [5]) from HOO
  have HO1 := hide hO1
  go_enter Tryz.func31, Tryz.ntmps31
  go_wp2_with (first
    | (at_builtin; refine wpList_append_lies _ rfl _ _ 31 rfl w.heap.size 2 i0 (.int .i64 0) 1 8 Tryz.underlying31 hi hz0 hz1 hz2 rfl (by decide) _ _ _ rfl (World.ownsRow.alloc hO1 _) ⟨_, 0, none⟩ 1 1 [.int .i64 id] rfl rfl ?c1 ?c2 (by decide) ?c3 ?c4 ?c5 _ rfl ?_)
    | go_in)
  case c1 => exact fun j u hj => new_at _ [.int .i64 id] _ _ (by simp) j u hj
  case c2 => intro u hu; simp at hu; subst hu; rfl
  case c3 => unfold maxLen; omega
  case c4 => omega
  case c5 => simp; omega
  intro g cap2 w2 hown hg hlies hlt
  have HO2 := hide (om_app (R := [5]) (X := [id]) hown rfl)
  have HB2 := hide (HB1.out.grown (grown_ofBelow ((Below.refl _ _).alloc (Nat.le_refl _) _) hg) HB1.out.size (fun k hk => (World.ownsRow.lt HO1.out k hk).1))
  have Z2 := hide (box_kept (alloc_block (o := .cells #[.int .i64 id] 2) Z1.out) (World.ownsRow.alloc HO1.out _) rfl hg)
  clear hown hg hlies hlt hO1 HO1 HOO HB1 Z1 Z0 x0 x1 x2 x3 x4 x5 x6 x7 y0 y1 y2 y3 y4 y5 y6 y7
  go_wp2_with fail
  go_loopw [4, 5] (fun u i wr => ∃ j : Nat, j ≤ L.length ∧ i = .int .i64 (j : Int) ∧ Hid (LN.OM wr w.heap.size u ([5, id] ++ rowLG (L.take j))) ∧ Hid (Below w.heap.size w wr) ∧ Hid (wr.heap[w.heap.size]? = some (.cells #[.int .i64 5, .int .i64 ac, .int .i64 as_, .int .i64 qt, .int .i64 nm, .int .i64 id, .slice a L.length cap, pv] 26 (0, 0)))) (fun _ i _ => L.length - (intOf i).toNat)
  case atStart => exact ⟨0, Nat.zero_le _, rfl, hide (by rw [List.take_zero]; exact HO2.out), HB2, Z2⟩
  case round =>
    clear HO2 HB2 Z2
    obtain ⟨j, hj, rfl, HOW, HBW, ZW⟩ := hrel
    obtain ⟨x0, x1, x2, x3, x4, x5, x6, x7⟩ := eight_cells ZW.out rfl
    by_cases hlt : j < L.length
    · obtain ⟨⟨q0, q1, q2, q3, q4⟩, hp⟩ : ∃ p, L[j]? = some p := ⟨_, List.getElem?_eq_getElem hlt⟩
      obtain ⟨b, off, ha, hbl, hc⟩ := HR.out.resolve_left (fun h => by rw [h] at hlt; simp at hlt)
      subst ha
      have c0 : wr.cell? ⟨b, off + j * 5, none⟩ = some (.int .i64 q0) := (HBW.out.cell (p := ⟨b, _, none⟩) hbl).trans (hc j _ hp).1
      have c1 : wr.cell? ⟨b, off + j * 5 + 1, none⟩ = some (.int .i64 q1) := (HBW.out.cell (p := ⟨b, _, none⟩) hbl).trans (hc j _ hp).2.1
      have c2 : wr.cell? ⟨b, off + j * 5 + 2, none⟩ = some (.int .i64 q2) := (HBW.out.cell (p := ⟨b, _, none⟩) hbl).trans (hc j _ hp).2.2.1
      have c3 : wr.cell? ⟨b, off + j * 5 + 3, none⟩ = some (.int .i64 q3) := (HBW.out.cell (p := ⟨b, _, none⟩) hbl).trans (hc j _ hp).2.2.2.1
      have c4 : wr.cell? ⟨b, off + j * 5 + 4, none⟩ = some (.int .i64 q4) := (HBW.out.cell (p := ⟨b, _, none⟩) hbl).trans (hc j _ hp).2.2.2.2
      have HTK := hide (rowLG_take hp)
      have hln : ([5, id] ++ rowLG (L.take j)).length ≤ 2 + j * 5 := by rw [List.length_append, rowLG_len, List.length_take]; simp; omega
      have hO' : wr.ownsRow w.heap.size 2 1 u4 ([5, id] ++ rowLG (L.take j)).length (LN.mc ([5, id] ++ rowLG (L.take j))) := HOW.out
      generalize hX : [5, id] ++ rowLG (L.take j) = X at *
      have HXX : Hid ([5, id] ++ rowLG (L.take (j + 1)) = X ++ [q0, q1, q2, q3, q4]) := hide (by rw [HTK.out, ← List.append_assoc, hX])
      obtain ⟨ua, uc, hu⟩ := LN.OM.slice HOW.out
      subst hu
      have hb1 := (Below.refl wr.heap.size wr).alloc (Nat.le_refl _) (.cells #[.int .i64 q0, .int .i64 q1, .int .i64 q2, .int .i64 q3, .int .i64 q4] 38)
      have hb2 := hb1.alloc hb1.size (.cells #[.int .i64 q0, .int .i64 q1, .int .i64 q2, .int .i64 q3, .int .i64 q4] 2)
      have HX2 := hide hb2
      have hwl := HBW.out.size
      have nn := five_cells (alloc_new wr (.cells #[.int .i64 q0, .int .i64 q1, .int .i64 q2, .int .i64 q3, .int .i64 q4] 38)) rfl
      obtain ⟨m0, m1, m2, m3, m4⟩ := nn
      have hd : decide ((j : Int) < (L.length : Int)) = true := by rw [decide_eq_true_eq]; omega
      have HXL : Hid (X.length + 5 ≤ 17592186044416) := hide (by omega)
      clear hc hp hbl hb1 hb2 HTK hX hln
      go_wp2_with (first
        | (at_builtin; refine wpList_append_lies _ rfl _ _ 31 rfl w.heap.size 2 i0 (.int .i64 0) 1 8 Tryz.underlying31 hi hz0 hz1 hz2 rfl (by decide) _ _ _ rfl (World.ownsRow.alloc (World.ownsRow.alloc hO' _) _) ⟨_, 0, none⟩ 5 5 [.int .i64 q0, .int .i64 q1, .int .i64 q2, .int .i64 q3, .int .i64 q4] rfl rfl ?c1 ?c2 (by decide) ?c3 ?c4 ?c5 _ rfl ?_)
        | go_in)
      case c1 => exact fun j u hj => new_at _ [.int .i64 q0, .int .i64 q1, .int .i64 q2, .int .i64 q3, .int .i64 q4] _ _ (by simp) j u hj
      case c2 => intro u hu; simp at hu; rcases hu with rfl | rfl | rfl | rfl | rfl <;> rfl
      case c3 => have := HXL.out; unfold maxLen; omega
      case c4 => have := HXL.out; omega
      case c5 => simp; omega
      intro g cap3 w' hown hg hlies hlt2
      have HOW2 := hide (om_app (X := [q0, q1, q2, q3, q4]) hown rfl)
      have HGR := hide (grown_ofBelow HX2.out hg)
      have HBW2 := hide (HBW.out.grown HGR.out HBW.out.size (fun k hk => (World.ownsRow.lt HOW.out k hk).1))
      have ZW2 := hide (box_kept ZW.out HOW.out rfl HGR.out)
      rw [← HXX.out] at HOW2
      clear hown hg hlies hlt2 hO' x0 x1 x2 x3 x4 x5 x6 x7
      go_wp2_with fail
      go_roundw
      case rel => exact ⟨j + 1, by omega, by go_num, HOW2, HBW2, ZW2⟩
      case measure => simp [intOf]; omega
    · have e : j = L.length := by omega
      have hd : decide ((j : Int) < (L.length : Int)) = false := by rw [decide_eq_false_iff_not]; omega
      rw [e, List.take_length] at HOW
      clear e
      go_wp2_with fail
      go_ret2
      exact ⟨_, rfl, HOW.out, HBW.out⟩
set_option maxRecDepth 100000 in
set_option maxHeartbeats 4000000 in
theorem renc_8 (ac as_ qt nm id : Int) (lv pv : Value) (L : List KY.El) (w : World) (hL : KY.RM w pv L) (hl : L.length ≤ 8796093022000) :
    Calls Tryz.prog 31 #[.agg #[.int .i64 8, .int .i64 ac, .int .i64 as_, .int .i64 qt, .int .i64 nm, .int .i64 id, lv, pv]] w fun e w' => ∃ v', e = .returned (.tuple #[v', .int .i64 0]) ∧ LN.OM w' w.heap.size v' (8 :: rowKY L) ∧ Below w.heap.size w w' := by
  obtain ⟨a, cap, rfl, _, hr⟩ := hL
  have HR := hide hr
  clear hr
  obtain ⟨i0, hi, hz0, hz1, hz2⟩ := info_parts LN.Tryz.infoB
  have Z0 := alloc_new w (.cells #[.int .i64 8, .int .i64 ac, .int .i64 as_, .int .i64 qt, .int .i64 nm, .int .i64 id, lv, .slice a L.length cap] 26)
  have Z1 := hide (alloc_block (o := .cells #[.int .i64 8] 2) Z0)
  obtain ⟨x0, x1, x2, x3, x4, x5, x6, x7⟩ := eight_cells Z0 rfl
  obtain ⟨y0, y1, y2, y3, y4, y5, y6, y7⟩ := eight_cells Z1.out rfl
  have HB1 := hide (((Below.refl w.heap.size w).alloc (Nat.le_refl _) (.cells #[.int .i64 8, .int .i64 ac, .int .i64 as_, .int .i64 qt, .int .i64 nm, .int .i64 id, lv, .slice a L.length cap] 26)).alloc (by simp) (.cells #[.int .i64 8] 2))
  have HOO := ln_one (w.alloc (.cells #[.int .i64 8, .int .i64 ac, .int .i64 as_, .int .i64 qt, .int .i64 nm, .int .i64 id, lv, .slice a L.length cap] 26)) w.heap.size 8 (by simp)
  rw [show (w.alloc (.cells #[.int .i64 8, .int .i64 ac, .int .i64 as_, .int .i64 qt, .int .i64 nm, .int .i64 id, lv, .slice a L.length cap] 26)).heap.size = w.heap.size + 1 by simp] at HOO
  have hO1 : _ := show World.ownsRow _ w.heap.size 2 1 (.slice (some ⟨w.heap.size + 1, 0, none⟩) 1 1) 1 (LN.mc [8]) from HOO
  have HO1 := hide hO1
  have HII := hide (And.intro hi (And.intro hz0 (And.intro hz1 hz2)))
  clear hi hz0 hz1 hz2 hO1
  go_enter Tryz.func31, Tryz.ntmps31
  go_wp2_with fail
  clear x0 x1 x2 x3 x4 x5 x6 x7 y0 y1 y2 y3 y4 y5 y6 y7
  generalize (w.alloc (.cells #[.int .i64 8, .int .i64 ac, .int .i64 as_, .int .i64 qt, .int .i64 nm, .int .i64 id, lv, .slice a L.length cap] 26)).alloc (.cells #[.int .i64 8] 2) = w2 at *
  go_loopw [4, 7] (fun u i wr => ∃ j : Nat, j ≤ L.length ∧ i = .int .i64 (j : Int) ∧ Hid (LN.OM wr w.heap.size u ([8] ++ rowKY (L.take j))) ∧ Hid (Below w.heap.size w wr) ∧ Hid (wr.heap[w.heap.size]? = some (.cells #[.int .i64 8, .int .i64 ac, .int .i64 as_, .int .i64 qt, .int .i64 nm, .int .i64 id, lv, .slice a L.length cap] 26 (0, 0)))) (fun _ i _ => L.length - (intOf i).toNat)
  case atStart => exact ⟨0, Nat.zero_le _, rfl, hide (by rw [List.take_zero]; exact HO1.out), HB1, Z1⟩
  case round =>
    clear HO1 HB1 Z1 HOO
    obtain ⟨j, hj, rfl, HOW, HBW, ZW⟩ := hrel
    by_cases hlt : j < L.length
    · obtain ⟨⟨q0, q1⟩, hp⟩ : ∃ p, L[j]? = some p := ⟨_, List.getElem?_eq_getElem hlt⟩
      obtain ⟨b, off, ha, hbl, hc⟩ := HR.out.resolve_left (fun h => by rw [h] at hlt; simp at hlt)
      subst ha
      have e0 := (hc j _ hp).1
      have e1 := (hc j _ hp).2
      have HG := hide hbl
      have HTK := hide (rowKY_take hp)
      have hln : ([8] ++ rowKY (L.take j)).length ≤ 1 + j * 2 := by rw [List.length_append, rowKY_len, List.length_take]; simp; omega
      generalize hX : [8] ++ rowKY (L.take j) = X at *
      have HXX : Hid ([8] ++ rowKY (L.take (j + 1)) = X ++ [q0, q1]) := hide (by rw [HTK.out, ← List.append_assoc, hX])
      obtain ⟨ua, uc, hu⟩ := LN.OM.slice HOW.out
      subst hu
      have hd : decide ((j : Int) < (L.length : Int)) = true := by rw [decide_eq_true_eq]; omega
      have HXL : Hid (X.length + 2 ≤ maxLen ∧ (X.length + 2) * 8 ≤ 140737488355328) := hide (by unfold maxLen; omega)
      have k0 : (0 : Int) ≤ (j : Int) := by omega
      have k1 : (j : Int) < (L.length : Int) := by omega
      obtain ⟨x0, x1, x2, x3, x4, x5, x6, x7⟩ := eight_cells ZW.out rfl
      have hS0 : wr.cell? ⟨w.heap.size, 7, none⟩ = some (.slice (some ⟨b, off, none⟩) L.length cap) ∧ wr.cell? ⟨b, off + j * 2, none⟩ = some (.int .i64 q0) ∧ wr.cell? ⟨b, off + j * 2 + 1, none⟩ = some (.int .i64 q1) := ⟨x7, (HBW.out.cell (p := ⟨b, _, none⟩) HG.out).trans e0, (HBW.out.cell (p := ⟨b, _, none⟩) HG.out).trans e1⟩
      clear hc hp hbl HTK hX hln
      go_wp2_with fail
      clear x0 x1 x2 x3 x4 x5 x6 x7
      refine z_begins (S := fun W => W.cell? ⟨w.heap.size, 7, none⟩ = some (.slice (some ⟨b, off, none⟩) L.length cap) ∧ W.cell? ⟨b, off + j * 2, none⟩ = some (.int .i64 q0) ∧ W.cell? ⟨b, off + j * 2 + 1, none⟩ = some (.int .i64 q1)) 15 16 #[false, false, false, false, false, false, false, false, false, false, false, false, false, false, false, false] (by kernel_rfl) (by kernel_rfl) (by kernel_rfl) hS0 (fun hHeld => ?_)
      refine zk (v := ?_) 0 88 #[true, false, false, false, false, false, false, false, false, false, false, false, false, false, false, false] rfl rfl (by kernel_rfl) (by kernel_rfl) (by kernel_rfl) (by kernel_rfl) (fun _ _ _ h => h) (by kernel_rfl) (by rfl) ?hy hHeld ?_
      case hy => rintro W ⟨qa, qb, qc⟩; first | (go_simp; done) | (go_simp; with_reducible rfl)
      simp only [List.setIfInBounds_toArray, List.set_cons_zero, List.set_cons_succ]
      refine zk (v := ?_) 1 89 #[true, true, false, false, false, false, false, false, false, false, false, false, false, false, false, false] rfl rfl (by kernel_rfl) (by kernel_rfl) (by kernel_rfl) (by kernel_rfl) (fun _ _ _ h => h) (by kernel_rfl) (by rfl) ?hy hHeld ?_
      case hy => rintro W ⟨qa, qb, qc⟩; first | (go_simp; done) | (go_simp; with_reducible rfl)
      simp only [List.setIfInBounds_toArray, List.set_cons_zero, List.set_cons_succ]
      refine zk (v := ?_) 2 90 #[true, true, true, false, false, false, false, false, false, false, false, false, false, false, false, false] rfl rfl (by kernel_rfl) (by kernel_rfl) (by kernel_rfl) (by kernel_rfl) (fun _ _ _ h => h) (by kernel_rfl) (by rfl) ?hy hHeld ?_
      case hy => rintro W ⟨qa, qb, qc⟩; first | (go_simp; done) | (go_simp; with_reducible rfl)
      simp only [List.setIfInBounds_toArray, List.set_cons_zero, List.set_cons_succ]
      refine zk (v := ?_) 3 91 #[true, true, true, true, false, false, false, false, false, false, false, false, false, false, false, false] rfl rfl (by kernel_rfl) (by kernel_rfl) (by kernel_rfl) (by kernel_rfl) (fun _ _ _ h => h) (by kernel_rfl) (by rfl) ?hy hHeld ?_
      case hy => rintro W ⟨qa, qb, qc⟩; first | (go_simp; done) | (go_simp; with_reducible rfl)
      simp only [List.setIfInBounds_toArray, List.set_cons_zero, List.set_cons_succ]
      refine zk (v := ?_) 4 92 #[true, true, true, true, true, false, false, false, false, false, false, false, false, false, false, false] rfl rfl (by kernel_rfl) (by kernel_rfl) (by kernel_rfl) (by kernel_rfl) (fun _ _ _ h => h) (by kernel_rfl) (by rfl) ?hy hHeld ?_
      case hy => rintro W ⟨qa, qb, qc⟩; first | (go_simp; done) | (go_simp; with_reducible rfl)
      simp only [List.setIfInBounds_toArray, List.set_cons_zero, List.set_cons_succ]
      refine zk (v := ?_) 5 93 #[true, true, true, true, true, true, false, false, false, false, false, false, false, false, false, false] rfl rfl (by kernel_rfl) (by kernel_rfl) (by kernel_rfl) (by kernel_rfl) (fun _ _ _ h => h) (by kernel_rfl) (by rfl) ?hy hHeld ?_
      case hy => rintro W ⟨qa, qb, qc⟩; first | (go_simp; done) | (go_simp; with_reducible rfl)
      simp only [List.setIfInBounds_toArray, List.set_cons_zero, List.set_cons_succ]
      refine zk (v := ?_) 6 94 #[true, true, true, true, true, true, true, false, false, false, false, false, false, false, false, false] rfl rfl (by kernel_rfl) (by kernel_rfl) (by kernel_rfl) (by kernel_rfl) (fun _ _ _ h => h) (by kernel_rfl) (by rfl) ?hy hHeld ?_
      case hy => rintro W ⟨qa, qb, qc⟩; first | (go_simp; done) | (go_simp; with_reducible rfl)
      simp only [List.setIfInBounds_toArray, List.set_cons_zero, List.set_cons_succ]
      refine zk (v := ?_) 7 95 #[true, true, true, true, true, true, true, true, false, false, false, false, false, false, false, false] rfl rfl (by kernel_rfl) (by kernel_rfl) (by kernel_rfl) (by kernel_rfl) (fun _ _ _ h => h) (by kernel_rfl) (by rfl) ?hy hHeld ?_
      case hy => rintro W ⟨qa, qb, qc⟩; first | (go_simp; done) | (go_simp; with_reducible rfl)
      simp only [List.setIfInBounds_toArray, List.set_cons_zero, List.set_cons_succ]
      refine zk (v := ?_) 8 96 #[true, true, true, true, true, true, true, true, true, false, false, false, false, false, false, false] rfl rfl (by kernel_rfl) (by kernel_rfl) (by kernel_rfl) (by kernel_rfl) (fun _ _ _ h => h) (by kernel_rfl) (by rfl) ?hy hHeld ?_
      case hy => rintro W ⟨qa, qb, qc⟩; first | (go_simp; done) | (go_simp; with_reducible rfl)
      simp only [List.setIfInBounds_toArray, List.set_cons_zero, List.set_cons_succ]
      refine zk (v := ?_) 9 97 #[true, true, true, true, true, true, true, true, true, true, false, false, false, false, false, false] rfl rfl (by kernel_rfl) (by kernel_rfl) (by kernel_rfl) (by kernel_rfl) (fun _ _ _ h => h) (by kernel_rfl) (by rfl) ?hy hHeld ?_
      case hy => rintro W ⟨qa, qb, qc⟩; first | (go_simp; done) | (go_simp; with_reducible rfl)
      simp only [List.setIfInBounds_toArray, List.set_cons_zero, List.set_cons_succ]
      refine zk (v := ?_) 10 98 #[true, true, true, true, true, true, true, true, true, true, true, false, false, false, false, false] rfl rfl (by kernel_rfl) (by kernel_rfl) (by kernel_rfl) (by kernel_rfl) (fun _ _ _ h => h) (by kernel_rfl) (by rfl) ?hy hHeld ?_
      case hy => rintro W ⟨qa, qb, qc⟩; first | (go_simp; done) | (go_simp; with_reducible rfl)
      simp only [List.setIfInBounds_toArray, List.set_cons_zero, List.set_cons_succ]
      refine zk (v := ?_) 11 99 #[true, true, true, true, true, true, true, true, true, true, true, true, false, false, false, false] rfl rfl (by kernel_rfl) (by kernel_rfl) (by kernel_rfl) (by kernel_rfl) (fun _ _ _ h => h) (by kernel_rfl) (by rfl) ?hy hHeld ?_
      case hy => rintro W ⟨qa, qb, qc⟩; first | (go_simp; done) | (go_simp; with_reducible rfl)
      simp only [List.setIfInBounds_toArray, List.set_cons_zero, List.set_cons_succ]
      refine zk (v := ?_) 12 100 #[true, true, true, true, true, true, true, true, true, true, true, true, true, false, false, false] rfl rfl (by kernel_rfl) (by kernel_rfl) (by kernel_rfl) (by kernel_rfl) (fun _ _ _ h => h) (by kernel_rfl) (by rfl) ?hy hHeld ?_
      case hy => rintro W ⟨qa, qb, qc⟩; first | (go_simp; done) | (go_simp; with_reducible rfl)
      simp only [List.setIfInBounds_toArray, List.set_cons_zero, List.set_cons_succ]
      have b0 : Below wr.heap.size wr wr.drew := drew_below
      obtain ⟨W3, hW3⟩ : ∃ W3, wr.drew.alloc (.cells #[.int .i64 q0, .int .i64 q1] 2) = W3 := ⟨_, rfl⟩
      have b3 : Below wr.drew.heap.size wr.drew W3 := by rw [← hW3]; exact (Below.refl _ _).alloc (Nat.le_refl _) _
      have b4 : Below wr.heap.size wr W3 := b0.trans b3
      have HB3 := hide (HBW.out.trans (b4.mono HBW.out.size))
      have Z3 := hide (blk_later ZW.out b4)
      have hO3 : W3.ownsRow w.heap.size 2 1 (.slice ua X.length uc) X.length (LN.mc X) := owns_lat HOW.out b4
      have HN3 : Hid (∀ j u, ([.int .i64 q0, .int .i64 q1] : List Value)[j]? = some u → W3.cell? ((⟨wr.heap.size, 0, none⟩ : Addr).add j) = some u) := hide (fun j u hj => by
        rw [← hW3, Addr.add_lit, show wr.heap.size = wr.drew.heap.size from rfl, cell_of_row _ wr.drew.heap.size _ _ _ _ (alloc_new wr.drew _)]
        match j, hj with
        | 0, hj => cases hj; rfl
        | 1, hj => cases hj; rfl)
      have HSS3 : Hid (W3.cell? ⟨w.heap.size, 7, none⟩ = some (.slice (some ⟨b, off, none⟩) L.length cap) ∧ W3.cell? ⟨b, off + j * 2, none⟩ = some (.int .i64 q0) ∧ W3.cell? ⟨b, off + j * 2 + 1, none⟩ = some (.int .i64 q1)) := hide ⟨by rw [cell_of_row _ _ 7 _ _ _ Z3.out]; rfl, (HB3.out.cell (p := ⟨b, _, none⟩) HG.out).trans e0, (HB3.out.cell (p := ⟨b, _, none⟩) HG.out).trans e1⟩
      refine z_ready 13 #[true, true, true, true, true, true, true, true, true, true, true, true, true, true, false, false] rfl (by kernel_rfl) (by kernel_rfl) (by rfl) (fun K hK => ?_)
      go_simp
      refine hK.out _ _ (fun _ => HSS3.out) (fun hHeld => ?_)
      clear hK K
      obtain ⟨g9, cap9, w9, hrun, hO9, hg9, _, _⟩ := run_append_lies (P := Tryz.prog) W3 31 31 w.heap.size 2 i0 _ 1 8 Tryz.underlying31 HII.out.1 HII.out.2.1 HII.out.2.2.1 HII.out.2.2.2 rfl (by decide) (.slice ua X.length uc) X.length _ hO3 ⟨wr.heap.size, 0, none⟩ 2 2 [.int .i64 q0, .int .i64 q1] rfl HN3.out (by intro u hu; simp at hu; rcases hu with rfl | rfl <;> rfl) (by decide) HXL.out.1 HXL.out.2 HB3.out.size _ rfl
      have HOW2 := hide (om_app (X := [q0, q1]) hO9 rfl)
      have HBW2 := hide (HB3.out.grown hg9 HB3.out.size (fun k hk => (World.ownsRow.lt hO3 k hk).1))
      have ZW2 := hide (box_kept Z3.out hO3 rfl hg9)
      rw [← HXX.out] at HOW2
      have HSS9 : Hid (w9.cell? ⟨w.heap.size, 7, none⟩ = some (.slice (some ⟨b, off, none⟩) L.length cap) ∧ w9.cell? ⟨b, off + j * 2, none⟩ = some (.int .i64 q0) ∧ w9.cell? ⟨b, off + j * 2 + 1, none⟩ = some (.int .i64 q1)) := hide ⟨by rw [cell_of_row _ _ 7 _ _ _ ZW2.out]; rfl, (HBW2.out.cell (p := ⟨b, _, none⟩) HG.out).trans e0, (HBW2.out.cell (p := ⟨b, _, none⟩) HG.out).trans e1⟩
      have HRUN := hide hrun
      refine z_ready 14 #[true, true, true, true, true, true, true, true, true, true, true, true, true, true, true, false] rfl (by kernel_rfl) (by kernel_rfl) (by rfl) (fun K hK => ?_)
      refine op_append_gen _ _ rfl (.slice ua X.length uc) ⟨wr.heap.size, 0, none⟩ 2 2 rfl rfl _ w9 HRUN.out ?_
      simp only [Act.put, List.setIfInBounds_toArray]
      refine hK.out _ _ (fun _ => HSS9.out) (fun hHeld => ?_)
      clear hK K
      refine z_ready 15 #[true, true, true, true, true, true, true, true, true, true, true, true, true, true, true, true] rfl (by kernel_rfl) (by kernel_rfl) (by rfl) (fun K hK => ?_)
      go_simp
      refine hK.out _ _ (fun h => absurd rfl h) (fun _ => ?_)
      clear hK K
      refine z_done (by kernel_rfl) ?_ _
      clear hrun hO9 hg9 HRUN HSS9 HSS3 HN3 hO3 b0 b3 b4 hW3 HB3 Z3 hHeld hS0 e0 e1 k0 k1 hd HOW HBW ZW
      go_wp2_with fail
      go_roundw
      case rel => exact ⟨j + 1, by omega, by go_num, HOW2, HBW2, ZW2⟩
      case measure => simp [intOf]; omega
    · have e : j = L.length := by omega
      have hd : decide ((j : Int) < (L.length : Int)) = false := by rw [decide_eq_false_iff_not]; omega
      obtain ⟨x0, x1, x2, x3, x4, x5, x6, x7⟩ := eight_cells ZW.out rfl
      rw [e, List.take_length] at HOW
      clear e
      go_wp2_with fail
      go_ret2
      exact ⟨_, rfl, HOW.out, HBW.out⟩
/-- What the document's Encode answers. -/
def ReP (w : World) (o : OpX) (e : Ending) (w' : World) : Prop := ∃ v', e = .returned (.tuple #[v', .int .i64 (encE o)]) ∧ LN.OM w' w.heap.size v' (encL o) ∧ Below w.heap.size w w'
theorem rencode_any (o : OpX) (lv pv : Value) (w : World) (hL : LG.RM w lv o.legs) (hP : KY.RM w pv o.pairs) (hl : o.legs.length ≤ 3518437208800) (hp : o.pairs.length ≤ 8796093022000) : Calls Tryz.prog 31 #[opV o lv pv] w (ReP w o) := by
  unfold opV ReP
  by_cases hc : 1 ≤ o.code ∧ o.code ≤ 8
  · rw [show encE o = 0 from if_pos hc]
    obtain e | e | e | e | e | e | e | e : o.code = 1 ∨ o.code = 2 ∨ o.code = 3 ∨ o.code = 4 ∨ o.code = 5 ∨ o.code = 6 ∨ o.code = 7 ∨ o.code = 8 := by omega
    · rw [encL_1 e, e]; exact renc_1 o.acc o.ass o.qty o.name o.id lv pv w
    · rw [encL_2 e, e]; exact renc_2 o.acc o.ass o.qty o.name o.id lv pv w
    · rw [encL_3 e, e]; exact renc_3 o.acc o.ass o.qty o.name o.id lv pv w
    · rw [encL_4 e, e]; exact renc_4 o.acc o.ass o.qty o.name o.id lv pv w
    · rw [encL_5 e, e]; exact renc_5 o.acc o.ass o.qty o.name o.id lv pv o.legs w hL hl
    · rw [encL_6 e, e]; exact renc_6 o.acc o.ass o.qty o.name o.id lv pv w
    · rw [encL_7 e, e]; exact renc_7 o.acc o.ass o.qty o.name o.id lv pv w
    · rw [encL_8 e, e]; exact renc_8 o.acc o.ass o.qty o.name o.id lv pv o.pairs w hP hp
  · rw [show encE o = 13 from if_neg hc, encL_0 hc]
    exact (renc_0 o.code o.acc o.ass o.qty o.name o.id lv pv w hc).mono fun e w' ⟨he, hb⟩ => ⟨_, he, LN.OM.nil _ _, hb⟩
end Go.Proofs.YtdiamlajmcikhaaGreatDoor
