/-
  My own text: works: three pairs, two of them equal.
-/
import Derived.Test.YtegemfkadclnkaaPB3
import Derived.Test.YtegemfkadclnkaaPX4
namespace Go.Proofs.Ytegemfkadclnkaa
open Go.RowKit

theorem rm_lit2 {w : World} {g : Nat} {p q : Pr} {fz : Nat × Nat} (h : w.heap[g]? = some (.cells #[.int .i64 p.1, .int .i64 p.2, .int .i64 q.1, .int .i64 q.2] 25 fz)) : RM w (.slice (some ⟨g, 0, none⟩) 2 2) [p, q] := by
  refine ⟨_, 2, rfl, by simp, .inr ⟨g, 0, rfl, blk_lt h, fun j r hj => ?_⟩⟩
  match j, hj with
  | 0, hj => cases hj; exact ⟨by rw [cell_of_row _ _ _ _ _ _ h]; rfl, by rw [cell_of_row _ _ _ _ _ _ h]; rfl⟩
  | 1, hj => cases hj; exact ⟨by rw [cell_of_row _ _ _ _ _ _ h]; rfl, by rw [cell_of_row _ _ _ _ _ _ h]; rfl⟩
set_option maxRecDepth 100000 in
set_option maxHeartbeats 4000000 in
theorem works_any (w : World) : Calls Try.prog 22 #[] w fun e w' => e = .returned (.bool true) ∧ Below w.heap.size w w' := by
  have HN := hide (newQ 5 kR w)
  go_enter Try.func22, Try.ntmps22
  go_wp2_with fail
  refine HN.out.mono ?_
  rintro e w1 ⟨rfl, h1, hb1⟩
  have B1 := hide hb1
  have HP1 := hide (pushQ rises_ok (5, 1) h1 (by omega))
  have H1 := hide h1
  unfold pv at HP1
  dsimp only at HP1
  clear h1 hb1 HN
  go_wp2_with fail
  refine HP1.out.mono ?_
  rintro e w2 ⟨⟨u, rfl⟩, v2, h2, f2⟩
  have B2 := hide (B1.out.trans (H1.out.below f2))
  have HP2 := hide (pushQ rises_ok (3, 2) h2 (by omega))
  have H2 := hide h2
  unfold pv at HP2
  dsimp only at HP2
  clear h2 f2 HP1 H1 B1
  go_wp2_with fail
  refine HP2.out.mono ?_
  rintro e w3 ⟨⟨u, rfl⟩, v3, h3, f3⟩
  have B3 := hide (B2.out.trans (H2.out.below f3))
  have HP3 := hide (pushQ rises_ok (5, 3) h3 (by omega))
  have H3 := hide h3
  unfold pv at HP3
  dsimp only at HP3
  clear h3 f3 HP2 H2 B2
  go_wp2_with fail
  refine HP3.out.mono ?_
  rintro e w4 ⟨⟨u, rfl⟩, v4, h4, f4⟩
  have B4 := hide (B3.out.trans (H3.out.below f4))
  have hm : mn kR (fun _ => true) (([] : List En) ++ [((5, 1), 0)] ++ [((3, 2), 0 + 1)] ++ [((5, 3), 0 + 1 + 1)]) = some ((3, 2), 1) := by decide
  have HP4 := hide (popQ rises_ok h4 (by omega))
  rw [hm] at HP4
  have H4 := hide h4
  have e4 : nx (([] : List En) ++ [((5, 1), 0)] ++ [((3, 2), 0 + 1)] ++ [((5, 3), 0 + 1 + 1)]) (some ((3, 2), 1)) = [((5, 1), 0), ((5, 3), 2)] := by decide
  rw [e4] at HP4
  unfold pv at HP4
  dsimp only [ans] at HP4
  clear h4 f4 HP3 H3 B3 hm e4
  go_wp2_with fail
  refine HP4.out.mono ?_
  rintro e w5 ⟨rfl, v5, h5, f5⟩
  have B5 := hide (B4.out.trans (H4.out.below f5))
  have H5 := hide h5
  clear h5 f5 HP4 H4 B4
  go_wp2_with (refine wpList_store_row rfl 25 _ _ rfl w5.heap.size #[.int .i64 3, .int .i64 2] rfl rfl _ _ (alloc_new w5 _) Try.sizePr rfl (by simp [Value.oneCell']) ?_; rw [World.setRow_alloc_new])
  obtain ⟨W5, hW5⟩ : ∃ W, Hid (w5.alloc (.cells #[.int .i64 3, .int .i64 2] 25) = W) := ⟨_, hide rfl⟩
  rw [hW5.out]
  have b5 : Below w5.heap.size w5 W5 := by rw [← hW5.out]; exact (Below.refl _ _).alloc (Nat.le_refl _) _
  have n5 : W5.heap[w5.heap.size]? = some (.cells #[.int .i64 3, .int .i64 2] 25 (0, 0)) := by rw [← hW5.out]; exact alloc_new w5 _
  have h5 := H5.out.later b5
  have HK := hide (peekQ h5)
  have hm : mn kR (fun _ => true) ([((5, 1), 0), ((5, 3), 2)] : List En) = some ((5, 1), 0) := by decide
  rw [hm] at HK
  unfold pv at HK
  dsimp only [ans] at HK
  have BB5 := hide (B5.out.trans (b5.mono B5.out.size))
  have N5 := hide n5
  have HH5 := hide h5
  clear b5 n5 h5 hm B5 H5 hW5
  refine HK.out.mono ?_
  rintro e w6 ⟨rfl, hb6⟩
  have B6 := hide (BB5.out.trans (hb6.mono BB5.out.size))
  have N6 := hide (blk_later N5.out hb6)
  have H6 := hide (HH5.out.later hb6)
  clear hb6 HK BB5 N5 HH5
  obtain ⟨W6, hW6⟩ : ∃ W, Hid (w6.alloc (.cells #[.int .i64 5, .int .i64 1] 25) = W) := ⟨_, hide rfl⟩
  go_wp2_with (refine wpList_store_row rfl 25 _ _ rfl w6.heap.size #[.int .i64 5, .int .i64 1] rfl rfl _ _ (alloc_new w6 _) Try.sizePr rfl (by simp [Value.oneCell']) ?_; rw [World.setRow_alloc_new])
  rw [hW6.out]
  have b6 : Below w6.heap.size w6 W6 := by rw [← hW6.out]; exact (Below.refl _ _).alloc (Nat.le_refl _) _
  have n6 : W6.heap[w6.heap.size]? = some (.cells #[.int .i64 5, .int .i64 1] 25 (0, 0)) := by rw [← hW6.out]; exact alloc_new w6 _
  have HS := hide (sortedQ rises_ok (H6.out.later b6) (by omega))
  have hs : srt kR (List.length ([((5, 1), 0), ((5, 3), 2)] : List En)) ([((5, 1), 0), ((5, 3), 2)] : List En) = [(5, 1), (5, 3)] := by decide
  rw [hs] at HS
  have BB6 := hide (B6.out.trans (b6.mono B6.out.size))
  have M6 := hide (blk_later N6.out b6)
  have L6 := hide n6
  have HH6 := hide (H6.out.later b6)
  clear b6 n6 hs B6 N6 H6 hW6
  refine HS.out.mono ?_
  rintro e w7 ⟨v7, rfl, o7, hb7⟩
  have B7 := hide (BB6.out.trans (hb7.mono BB6.out.size))
  obtain ⟨a0, a1⟩ := cells2 (blk_later M6.out hb7)
  obtain ⟨b0, b1⟩ := cells2 (blk_later L6.out hb7)
  have H7 := hide (HH6.out.later hb7)
  have O7 := hide o7
  obtain ⟨av, cv, hv⟩ := rm_lt o7.rm
  have hv' : v7 = .slice av 2 cv := hv
  subst hv'
  have q1 := run_eql_pr (3, 2) (3, 2)
  have q2 := run_eql_pr (5, 1) (5, 1)
  dsimp only at q1 q2
  obtain ⟨W7, hW7⟩ : ∃ W, Hid (w7.alloc (.cells #[.int .i64 5, .int .i64 1, .int .i64 5, .int .i64 3] 25) = W) := ⟨_, hide rfl⟩
  have b7 : Below w7.heap.size w7 W7 := by rw [← hW7.out]; exact (Below.refl _ _).alloc (Nat.le_refl _) _
  have n7 : W7.heap[w7.heap.size]? = some (.cells #[.int .i64 5, .int .i64 1, .int .i64 5, .int .i64 3] 25 (0, 0)) := by rw [← hW7.out]; exact alloc_new w7 _
  have HSM := hide (sameM_any (.slice av 2 cv) (.slice (some ⟨w7.heap.size, 0, none⟩) 2 2) [(5, 1), (5, 3)] [(5, 1), (5, 3)] W7 ((O7.out.rm).later b7) (rm_lit2 (p := (5, 1)) (q := (5, 3)) n7) (by simp) (by simp))
  have BB7 := hide (B7.out.trans (b7.mono B7.out.size))
  have HH7 := hide (H7.out.later b7)
  clear hb7 o7 hv b7 n7 HS BB6 M6 L6 HH6 B7 H7 O7
  rw [← hW7.out] at HSM
  go_wp2_with fail
  refine HSM.out.mono ?_
  rintro e w8 ⟨rfl, hb8⟩
  rw [hW7.out] at hb8
  have B8 := hide (BB7.out.trans (hb8.mono BB7.out.size))
  have HL := hide (lenQ (HH7.out.later hb8))
  clear hb8 HSM BB7 HH7
  simp only [decide_true]
  go_wp2_with fail
  refine HL.out.mono ?_
  rintro e w9 ⟨rfl, rfl⟩
  go_wp2_with fail
  go_ret
  exact ⟨rfl, B8.out⟩
end Go.Proofs.Ytegemfkadclnkaa
