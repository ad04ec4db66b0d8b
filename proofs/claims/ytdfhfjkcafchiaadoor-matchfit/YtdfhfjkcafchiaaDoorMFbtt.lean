/-
  My own text: layer 22: the face of a notice (printed by mkmfb.py).
-/
import Derived.Test.YtdfhfjkcafchiaaDoorMFb0
namespace Go.Proofs.YtdfhfjkcafchiaaDoor
open Go.RowKit LC

set_option maxRecDepth 100000 in
set_option maxHeartbeats 4000000 in
theorem faceOf_tt (ref prev : List UInt8) (cn : Bool) (tr st qty amt pri : Int) (c0 c1 c2 c3 c4 c5 c6 c7 c8 c9 c10 c11 : UInt8) (acc agt oth cur qa qb qc qd ra rb rd re : List UInt8) (v : Value) (w : World)
    (HOF : Hid (∀ W, Below w.heap.size w W → Calls Tryd.prog 24 #[.string ⟨agt.toArray⟩] W fun e w' => e = .returned (.agg #[.string ⟨ra.toArray⟩, .string ⟨rb.toArray⟩, .string ⟨rd.toArray⟩, .string ⟨re.toArray⟩]) ∧ Below W.heap.size W w')) :
    Calls Tryd.prog 14 #[.agg (nC ⟨ref, prev, cn, true, true, tr, st, [c0, c1, c2, c3, c4, c5, c6, c7, c8, c9, c10, c11], qty, acc, agt, oth, amt, cur, pri⟩ v), .agg #[.string ⟨qa.toArray⟩, .string ⟨qb.toArray⟩, .string ⟨qc.toArray⟩, .string ⟨qd.toArray⟩]] w fun e w' => e = .returned (.agg (fC ⟨tr, st, [c0, c1, c2, c3, c4, c5, c6, c7, c8, c9, c10, c11], qty, true, cur, oth, acc, (ra, rb, rd, re), (qa, qb, qc, qd)⟩)) ∧ Below w.heap.size w w' := by
  obtain ⟨W1, hW1⟩ : ∃ W, w.alloc (.cells (nC ⟨ref, prev, cn, true, true, tr, st, [c0, c1, c2, c3, c4, c5, c6, c7, c8, c9, c10, c11], qty, acc, agt, oth, amt, cur, pri⟩ v) 26) = W := ⟨_, rfl⟩
  have hx1 : Bx W1 w.heap.size ⟨ref, prev, cn, true, true, tr, st, [c0, c1, c2, c3, c4, c5, c6, c7, c8, c9, c10, c11], qty, acc, agt, oth, amt, cur, pri⟩ v := by rw [← hW1]; exact Bx.new w _ v
  have hb1 : Below w.heap.size w W1 := by rw [← hW1]; exact (Below.refl _ _).alloc (Nat.le_refl _) _
  obtain ⟨W2, hW2⟩ : ∃ W, W1.alloc (.cells #[.string ⟨qa.toArray⟩, .string ⟨qb.toArray⟩, .string ⟨qc.toArray⟩, .string ⟨qd.toArray⟩] 41) = W := ⟨_, rfl⟩
  have hx2 : Bx W2 w.heap.size ⟨ref, prev, cn, true, true, tr, st, [c0, c1, c2, c3, c4, c5, c6, c7, c8, c9, c10, c11], qty, acc, agt, oth, amt, cur, pri⟩ v := by rw [← hW2]; exact hx1.alloc _
  have ho2 : W2.heap[W1.heap.size]? = some (.cells #[.string ⟨qa.toArray⟩, .string ⟨qb.toArray⟩, .string ⟨qc.toArray⟩, .string ⟨qd.toArray⟩] 41 (0, 0)) := by rw [← hW2]; exact LC.alloc_new W1 _
  have hb2 : Below w.heap.size w W2 := by rw [← hW2]; exact hb1.alloc hb1.size _
  obtain ⟨W3, hW3⟩ : ∃ W, W2.alloc (.cells #[.int .i64 0, .int .i64 0, .int .u8 0, .int .u8 0, .int .u8 0, .int .u8 0, .int .u8 0, .int .u8 0, .int .u8 0, .int .u8 0, .int .u8 0, .int .u8 0, .int .u8 0, .int .u8 0, .int .i64 0, .bool false, .string ⟨#[]⟩, .string ⟨#[]⟩, .string ⟨#[]⟩, .string ⟨#[]⟩, .string ⟨#[]⟩, .string ⟨#[]⟩, .string ⟨#[]⟩, .string ⟨#[]⟩, .string ⟨#[]⟩, .string ⟨#[]⟩, .string ⟨#[]⟩] 44) = W := ⟨_, rfl⟩
  have hx3 : Bx W3 w.heap.size ⟨ref, prev, cn, true, true, tr, st, [c0, c1, c2, c3, c4, c5, c6, c7, c8, c9, c10, c11], qty, acc, agt, oth, amt, cur, pri⟩ v := by rw [← hW3]; exact hx2.alloc _
  have ho3 : W3.heap[W1.heap.size]? = some (.cells #[.string ⟨qa.toArray⟩, .string ⟨qb.toArray⟩, .string ⟨qc.toArray⟩, .string ⟨qd.toArray⟩] 41 (0, 0)) := by rw [← hW3]; exact LC.alloc_block ho2
  have hz3 : FB W3 W2.heap.size ⟨0, 0, [0, 0, 0, 0, 0, 0, 0, 0, 0, 0, 0, 0], 0, false, [], [], [], ([], [], [], []), ([], [], [], [])⟩ := by rw [← hW3]; exact LC.alloc_new W2 _
  have hb3 : Below w.heap.size w W3 := by rw [← hW3]; exact hb2.alloc hb2.size _
  obtain ⟨W4, hW4⟩ : ∃ W, W3.alloc (.cells (fC ⟨tr, st, [c0, c1, c2, c3, c4, c5, c6, c7, c8, c9, c10, c11], qty, true, [], [], [], ([], [], [], []), ([], [], [], [])⟩) 44) = W := ⟨_, rfl⟩
  have hx4 : Bx W4 w.heap.size ⟨ref, prev, cn, true, true, tr, st, [c0, c1, c2, c3, c4, c5, c6, c7, c8, c9, c10, c11], qty, acc, agt, oth, amt, cur, pri⟩ v := by rw [← hW4]; exact hx3.alloc _
  have ho4 : W4.heap[W1.heap.size]? = some (.cells #[.string ⟨qa.toArray⟩, .string ⟨qb.toArray⟩, .string ⟨qc.toArray⟩, .string ⟨qd.toArray⟩] 41 (0, 0)) := by rw [← hW4]; exact LC.alloc_block ho3
  have hz4 : FB W4 W2.heap.size ⟨0, 0, [0, 0, 0, 0, 0, 0, 0, 0, 0, 0, 0, 0], 0, false, [], [], [], ([], [], [], []), ([], [], [], [])⟩ := by rw [← hW4]; exact LC.alloc_block hz3
  have hf4 : FB W4 W3.heap.size ⟨tr, st, [c0, c1, c2, c3, c4, c5, c6, c7, c8, c9, c10, c11], qty, true, [], [], [], ([], [], [], []), ([], [], [], [])⟩ := by rw [← hW4]; exact LC.alloc_new W3 _
  have hb4 : Below w.heap.size w W4 := by rw [← hW4]; exact hb3.alloc hb3.size _
  have hsz : w.heap.size < W1.heap.size ∧ W1.heap.size < W2.heap.size ∧ W2.heap.size < W3.heap.size := ⟨hx1.lt, (Array.getElem?_eq_some_iff.1 ho2).1, hz3.lt⟩
  have HX := hide hx4
  have HO := hide ho4
  have HZ := hide hz4
  have HF := hide hf4
  have HB := hide hb4
  have HSZ := hide hsz
  have HSA : Hid ((Tryd.prog.info? 44).map (·.size) = some (fC ⟨tr, st, [c0, c1, c2, c3, c4, c5, c6, c7, c8, c9, c10, c11], qty, true, [], [], [], ([], [], [], []), ([], [], [], [])⟩).size) := by show _ = _; rw [fC_size _ rfl]; exact Tryd.sizeFace
  have HON := hide (fC_one ⟨tr, st, [c0, c1, c2, c3, c4, c5, c6, c7, c8, c9, c10, c11], qty, true, [], [], [], ([], [], [], []), ([], [], [], [])⟩ rfl)
  obtain ⟨F1, hF1⟩ : ∃ F, (fC ⟨tr, st, [c0, c1, c2, c3, c4, c5, c6, c7, c8, c9, c10, c11], qty, true, [], [], [], ([], [], [], []), ([], [], [], [])⟩) = F := ⟨_, rfl⟩
  have hLit : Hid (#[.int .i64 tr, .int .i64 st, .int .u8 (c0.toNat : Int), .int .u8 (c1.toNat : Int), .int .u8 (c2.toNat : Int), .int .u8 (c3.toNat : Int), .int .u8 (c4.toNat : Int), .int .u8 (c5.toNat : Int), .int .u8 (c6.toNat : Int), .int .u8 (c7.toNat : Int), .int .u8 (c8.toNat : Int), .int .u8 (c9.toNat : Int), .int .u8 (c10.toNat : Int), .int .u8 (c11.toNat : Int), .int .i64 qty, .bool true, .string ⟨#[]⟩, .string ⟨#[]⟩, .string ⟨#[]⟩, .string ⟨#[]⟩, .string ⟨#[]⟩, .string ⟨#[]⟩, .string ⟨#[]⟩, .string ⟨#[]⟩, .string ⟨#[]⟩, .string ⟨#[]⟩, .string ⟨#[]⟩] = F1) := hide (by rw [← hF1]; rfl)
  rw [hF1] at hW4 HSA HON
  have HS1 : Hid (F1.size = 27) := hide (by rw [← hF1]; exact fC_size _ rfl)
  have x4 : W3.cell? ⟨w.heap.size, 4, none⟩ = some (.bool true) := hx3.py rfl
  have x5 : W3.cell? ⟨w.heap.size, 5, none⟩ = some (.int .i64 tr) := hx3.tr rfl
  have x6 : W3.cell? ⟨w.heap.size, 6, none⟩ = some (.int .i64 st) := hx3.st rfl
  have x19 : W3.cell? ⟨w.heap.size, 19, none⟩ = some (.int .i64 qty) := hx3.qty rfl
  have k0 : W3.cell? ⟨w.heap.size, 7, none⟩ = some (.int .u8 (c0.toNat : Int)) := hx3.code rfl 0 _ rfl
  have k1 : W3.cell? ⟨w.heap.size, 8, none⟩ = some (.int .u8 (c1.toNat : Int)) := hx3.code rfl 1 _ rfl
  have k2 : W3.cell? ⟨w.heap.size, 9, none⟩ = some (.int .u8 (c2.toNat : Int)) := hx3.code rfl 2 _ rfl
  have k3 : W3.cell? ⟨w.heap.size, 10, none⟩ = some (.int .u8 (c3.toNat : Int)) := hx3.code rfl 3 _ rfl
  have k4 : W3.cell? ⟨w.heap.size, 11, none⟩ = some (.int .u8 (c4.toNat : Int)) := hx3.code rfl 4 _ rfl
  have k5 : W3.cell? ⟨w.heap.size, 12, none⟩ = some (.int .u8 (c5.toNat : Int)) := hx3.code rfl 5 _ rfl
  have k6 : W3.cell? ⟨w.heap.size, 13, none⟩ = some (.int .u8 (c6.toNat : Int)) := hx3.code rfl 6 _ rfl
  have k7 : W3.cell? ⟨w.heap.size, 14, none⟩ = some (.int .u8 (c7.toNat : Int)) := hx3.code rfl 7 _ rfl
  have k8 : W3.cell? ⟨w.heap.size, 15, none⟩ = some (.int .u8 (c8.toNat : Int)) := hx3.code rfl 8 _ rfl
  have k9 : W3.cell? ⟨w.heap.size, 16, none⟩ = some (.int .u8 (c9.toNat : Int)) := hx3.code rfl 9 _ rfl
  have k10 : W3.cell? ⟨w.heap.size, 17, none⟩ = some (.int .u8 (c10.toNat : Int)) := hx3.code rfl 10 _ rfl
  have k11 : W3.cell? ⟨w.heap.size, 18, none⟩ = some (.int .u8 (c11.toNat : Int)) := hx3.code rfl 11 _ rfl
  have y4 : W4.cell? ⟨w.heap.size, 4, none⟩ = some (.bool true) := hx4.py rfl
  obtain ⟨N0, hN0⟩ : ∃ x, nC ⟨ref, prev, cn, true, true, tr, st, [c0, c1, c2, c3, c4, c5, c6, c7, c8, c9, c10, c11], qty, acc, agt, oth, amt, cur, pri⟩ v = x := ⟨_, rfl⟩
  rw [hN0] at hW1 ⊢
  clear hx1 hx2 hx3 hx4 ho2 ho3 ho4 hz3 hz4 hf4 hb1 hb2 hb3 hb4 hsz hF1 hN0
  obtain ⟨FF, hFF⟩ : ∃ x, (fC ⟨tr, st, [c0, c1, c2, c3, c4, c5, c6, c7, c8, c9, c10, c11], qty, true, cur, oth, acc, (ra, rb, rd, re), (qa, qb, qc, qd)⟩) = x := ⟨_, rfl⟩
  rw [hFF]
  have HFF := hide hFF
  clear hFF
  have x24 := HX.out.cur rfl
  obtain ⟨z16, -⟩ := HF.out.cells rfl
  have f16 := HF.out.frozen 16
  dsimp only at x24 z16
  obtain ⟨W5, hW5⟩ : ∃ x, W4.setCell ⟨W3.heap.size, 16, none⟩ (.string ⟨cur.toArray⟩) = x := ⟨_, rfl⟩
  have HFW5 := hide (HF.out.cur rfl cur)
  rw [hW5] at HFW5
  dsimp only at HFW5
  have HXW5 : Hid (Bx W5 w.heap.size ⟨ref, prev, cn, true, true, tr, st, [c0, c1, c2, c3, c4, c5, c6, c7, c8, c9, c10, c11], qty, acc, agt, oth, amt, cur, pri⟩ v) := hide (by rw [← hW5]; exact (one_other (by have := HSZ.out; omega) _).trans HX.out)
  have HOW5 : Hid (W5.heap[W1.heap.size]? = some (.cells #[.string ⟨qa.toArray⟩, .string ⟨qb.toArray⟩, .string ⟨qc.toArray⟩, .string ⟨qd.toArray⟩] 41 (0, 0))) := hide (by rw [← hW5]; exact (one_other (by have := HSZ.out; omega) _).trans HO.out)
  have HZW5 : Hid (FB W5 W2.heap.size zF) := hide (by rw [← hW5]; exact (one_other (by have := HSZ.out; omega) _).trans HZ.out)
  have HBW5 : Hid (Below w.heap.size w W5) := hide (by rw [← hW5]; exact HB.out.setCell (p := ⟨W3.heap.size, 16, none⟩) (by have := HSZ.out; show w.heap.size ≤ W3.heap.size; omega) _)
  go_enter Tryd.func14, Tryd.ntmps14
  go_wp2_with (first
    | (refine wpList_store_row rfl 44 (.tmp 5) _ rfl W3.heap.size F1 rfl (congrArg Value.agg hLit.out) _ _ (LC.alloc_new W3 _) HSA.out (by rw [HS1.out]; rfl) HON.out ?_; rw [World.setRow_alloc_new])
    | fail)
  clear x24 z16 f16 hW5 hW1 hW2 hW3 hW4 x4 x5 x6 x19 y4 HX HO HZ HF HB HSA HON HS1 hLit k0 k1 k2 k3 k4 k5 k6 k7 k8 k9 k10 k11
  have HX0a : Hid (Bx (W5.drew) w.heap.size ⟨ref, prev, cn, true, true, tr, st, [c0, c1, c2, c3, c4, c5, c6, c7, c8, c9, c10, c11], qty, acc, agt, oth, amt, cur, pri⟩ v) := hide HXW5.out
  have HO0a : Hid ((W5.drew).heap[W1.heap.size]? = some (.cells #[.string ⟨qa.toArray⟩, .string ⟨qb.toArray⟩, .string ⟨qc.toArray⟩, .string ⟨qd.toArray⟩] 41 (0, 0))) := hide HOW5.out
  have HB0a : Hid (Below w.heap.size w (W5.drew)) := hide HBW5.out.drew
  obtain ⟨a3, a4, a5, a6, -, -, -, -⟩ := blk4 HO0a.out
  have a0 : (W5.drew).cell? ⟨w.heap.size, 20, none⟩ = some (.string ⟨acc.toArray⟩) := HX0a.out.acc rfl
  have a1 : (W5.drew).cell? ⟨w.heap.size, 22, none⟩ = some (.string ⟨oth.toArray⟩) := HX0a.out.oth rfl
  have a2 : (W5.drew).cell? ⟨w.heap.size, 21, none⟩ = some (.string ⟨agt.toArray⟩) := HX0a.out.agt rfl
  go_region_held3 (fun W : World => W.cell? ⟨w.heap.size, 20, none⟩ = some (.string ⟨acc.toArray⟩) ∧ W.cell? ⟨w.heap.size, 22, none⟩ = some (.string ⟨oth.toArray⟩) ∧ W.cell? ⟨w.heap.size, 21, none⟩ = some (.string ⟨agt.toArray⟩) ∧ W.cell? ⟨W1.heap.size, 0, none⟩ = some (.string ⟨qa.toArray⟩) ∧ W.cell? ⟨W1.heap.size, 1, none⟩ = some (.string ⟨qb.toArray⟩) ∧ W.cell? ⟨W1.heap.size, 2, none⟩ = some (.string ⟨qc.toArray⟩) ∧ W.cell? ⟨W1.heap.size, 3, none⟩ = some (.string ⟨qd.toArray⟩)) (go_keep) ((go_at_call 24; refine (HOF.out _ HB0a.out).mono ?_; rintro e w5a ⟨rfl, hb5⟩; have HB5a := hide (HB0a.out.trans (hb5.mono HB0a.out.size)); have HX5a := hide (HX0a.out.later hb5); have HZ5a : Hid (FB w5a W2.heap.size zF) := hide ((show FB (W5.drew) W2.heap.size zF from HZW5.out).later hb5); have HF5a := hide (FB.later (W := (W5.drew)) HFW5.out hb5); have HO5a : Hid (w5a.heap[W1.heap.size]? = some (.cells #[.string ⟨qa.toArray⟩, .string ⟨qb.toArray⟩, .string ⟨qc.toArray⟩, .string ⟨qd.toArray⟩] 41 (0, 0))) := hide ((hb5.block _ (Array.getElem?_eq_some_iff.1 HO0a.out).1).trans HO0a.out); clear hb5 a0 a1 a2 a3 a4 a5 a6; obtain ⟨b3, b4, b5, b6, -, -, -, -⟩ := blk4 HO5a.out; have b0 : w5a.cell? ⟨w.heap.size, 20, none⟩ = some (.string ⟨acc.toArray⟩) := HX5a.out.acc rfl; have b1 : w5a.cell? ⟨w.heap.size, 22, none⟩ = some (.string ⟨oth.toArray⟩) := HX5a.out.oth rfl; have b2 : w5a.cell? ⟨w.heap.size, 21, none⟩ = some (.string ⟨agt.toArray⟩) := HX5a.out.agt rfl; obtain ⟨-, z17, z18, -⟩ := HF5a.out.cells rfl; have f17 := HF5a.out.frozen 17; have f18 := HF5a.out.frozen 18; dsimp only at z17 z18; obtain ⟨w6a, hw6⟩ : ∃ x, (w5a.setCell ⟨W3.heap.size, 17, none⟩ (.string ⟨acc.toArray⟩)).setCell ⟨W3.heap.size, 18, none⟩ (.string ⟨oth.toArray⟩) = x := ⟨_, rfl⟩; have HF6a := hide (HF5a.out.two rfl acc oth); rw [hw6] at HF6a; dsimp only at HF6a; have HX6a : Hid (Bx w6a w.heap.size ⟨ref, prev, cn, true, true, tr, st, [c0, c1, c2, c3, c4, c5, c6, c7, c8, c9, c10, c11], qty, acc, agt, oth, amt, cur, pri⟩ v) := hide (by rw [← hw6]; exact (two_other (by have := HSZ.out; omega) _ _).trans HX5a.out); have HO6a : Hid (w6a.heap[W1.heap.size]? = some (.cells #[.string ⟨qa.toArray⟩, .string ⟨qb.toArray⟩, .string ⟨qc.toArray⟩, .string ⟨qd.toArray⟩] 41 (0, 0))) := hide (by rw [← hw6]; exact (two_other (by have := HSZ.out; omega) _ _).trans HO5a.out); have HZ6a : Hid (FB w6a W2.heap.size zF) := hide (by rw [← hw6]; exact (two_other (by have := HSZ.out; omega) _ _).trans HZ5a.out); have HB6a : Hid (Below w.heap.size w w6a) := hide (by rw [← hw6]; exact (HB5a.out.setCell (p := ⟨W3.heap.size, 17, none⟩) (by have := HSZ.out; show w.heap.size ≤ W3.heap.size; omega) _).setCell (p := ⟨W3.heap.size, 18, none⟩) (by have := HSZ.out; show w.heap.size ≤ W3.heap.size; omega) _); obtain ⟨d3, d4, d5, d6, -, -, -, -⟩ := blk4 HO6a.out; have d0 : w6a.cell? ⟨w.heap.size, 20, none⟩ = some (.string ⟨acc.toArray⟩) := HX6a.out.acc rfl; have d1 : w6a.cell? ⟨w.heap.size, 22, none⟩ = some (.string ⟨oth.toArray⟩) := HX6a.out.oth rfl; have d2 : w6a.cell? ⟨w.heap.size, 21, none⟩ = some (.string ⟨agt.toArray⟩) := HX6a.out.agt rfl; obtain ⟨-, -, -, u0, u1, u2, u3, u4, u5, u6, u7⟩ := HF6a.out.cells rfl; dsimp only at u0 u1 u2 u3 u4 u5 u6 u7; have f19 := HF6a.out.frozen 19; have f20 := HF6a.out.frozen 20; have f21 := HF6a.out.frozen 21; have f22 := HF6a.out.frozen 22; have f23 := HF6a.out.frozen 23; have f24 := HF6a.out.frozen 24; have f25 := HF6a.out.frozen 25; have f26 := HF6a.out.frozen 26; obtain ⟨w7a, hw7⟩ : ∃ x, ((((((((((((((((w6a).setCell ⟨W3.heap.size, 19, none⟩ (.string ⟨qa.toArray⟩))).setCell ⟨W3.heap.size, 20, none⟩ (.string ⟨qb.toArray⟩))).setCell ⟨W3.heap.size, 21, none⟩ (.string ⟨qc.toArray⟩))).setCell ⟨W3.heap.size, 22, none⟩ (.string ⟨qd.toArray⟩))).setCell ⟨W3.heap.size, 23, none⟩ (.string ⟨ra.toArray⟩))).setCell ⟨W3.heap.size, 24, none⟩ (.string ⟨rb.toArray⟩))).setCell ⟨W3.heap.size, 25, none⟩ (.string ⟨rd.toArray⟩))).setCell ⟨W3.heap.size, 26, none⟩ (.string ⟨re.toArray⟩)) = x := ⟨_, rfl⟩; have HF7a := hide (HF6a.out.eight rfl (qa, qb, qc, qd) (ra, rb, rd, re)); unfold s8 at HF7a; dsimp only at HF7a; rw [hw7] at HF7a; have HX7a : Hid (Bx w7a w.heap.size ⟨ref, prev, cn, true, true, tr, st, [c0, c1, c2, c3, c4, c5, c6, c7, c8, c9, c10, c11], qty, acc, agt, oth, amt, cur, pri⟩ v) := hide (by rw [← hw7]; exact (s8_other (by have := HSZ.out; omega) (qa, qb, qc, qd) (ra, rb, rd, re)).trans HX6a.out); have HO7a : Hid (w7a.heap[W1.heap.size]? = some (.cells #[.string ⟨qa.toArray⟩, .string ⟨qb.toArray⟩, .string ⟨qc.toArray⟩, .string ⟨qd.toArray⟩] 41 (0, 0))) := hide (by rw [← hw7]; exact (s8_other (by have := HSZ.out; omega) (qa, qb, qc, qd) (ra, rb, rd, re)).trans HO6a.out); have HZ7a : Hid (FB w7a W2.heap.size zF) := hide (by rw [← hw7]; exact (s8_other (by have := HSZ.out; omega) (qa, qb, qc, qd) (ra, rb, rd, re)).trans HZ6a.out); have HB7a : Hid (Below w.heap.size w w7a) := hide (by rw [← hw7]; exact s8_below HB6a.out (by have := HSZ.out; omega) (qa, qb, qc, qd) (ra, rb, rd, re)); obtain ⟨g3, g4, g5, g6, -, -, -, -⟩ := blk4 HO7a.out; have g0 : w7a.cell? ⟨w.heap.size, 20, none⟩ = some (.string ⟨acc.toArray⟩) := HX7a.out.acc rfl; have g1 : w7a.cell? ⟨w.heap.size, 22, none⟩ = some (.string ⟨oth.toArray⟩) := HX7a.out.oth rfl; have g2 : w7a.cell? ⟨w.heap.size, 21, none⟩ = some (.string ⟨agt.toArray⟩) := HX7a.out.agt rfl; clear HX0a HO0a HB0a HX5a HO5a HZ5a HF5a HB5a HX6a HO6a HZ6a HF6a HB6a))
  clear hw6 hw7 z17 z18 f17 f18 u0 u1 u2 u3 u4 u5 u6 u7 f19 f20 f21 f22 f23 f24 f25 f26 b0 b1 b2 b3 b4 b5 b6 d0 d1 d2 d3 d4 d5 d6 g0 g1 g2 g3 g4 g5 g6
  have y3 := HX7a.out.rc rfl
  dsimp only at y3
  go_wp2_with fail
  have HXw7a := HX7a
  have HOw7a := HO7a
  have HZw7a := HZ7a
  have HFw7a := HF7a
  have HBw7a := HB7a
  clear y3 HX7a HO7a HZ7a HF7a HB7a
  have HX0b : Hid (Bx (w7a.drew) w.heap.size ⟨ref, prev, cn, true, true, tr, st, [c0, c1, c2, c3, c4, c5, c6, c7, c8, c9, c10, c11], qty, acc, agt, oth, amt, cur, pri⟩ v) := hide HXw7a.out
  have HO0b : Hid ((w7a.drew).heap[W1.heap.size]? = some (.cells #[.string ⟨qa.toArray⟩, .string ⟨qb.toArray⟩, .string ⟨qc.toArray⟩, .string ⟨qd.toArray⟩] 41 (0, 0))) := hide HOw7a.out
  have HB0b : Hid (Below w.heap.size w (w7a.drew)) := hide HBw7a.out.drew
  obtain ⟨a3, a4, a5, a6, -, -, -, -⟩ := blk4 HO0b.out
  have a0 : (w7a.drew).cell? ⟨w.heap.size, 20, none⟩ = some (.string ⟨acc.toArray⟩) := HX0b.out.acc rfl
  have a1 : (w7a.drew).cell? ⟨w.heap.size, 22, none⟩ = some (.string ⟨oth.toArray⟩) := HX0b.out.oth rfl
  have a2 : (w7a.drew).cell? ⟨w.heap.size, 21, none⟩ = some (.string ⟨agt.toArray⟩) := HX0b.out.agt rfl
  go_region_held3 (fun W : World => W.cell? ⟨w.heap.size, 20, none⟩ = some (.string ⟨acc.toArray⟩) ∧ W.cell? ⟨w.heap.size, 22, none⟩ = some (.string ⟨oth.toArray⟩) ∧ W.cell? ⟨w.heap.size, 21, none⟩ = some (.string ⟨agt.toArray⟩) ∧ W.cell? ⟨W1.heap.size, 0, none⟩ = some (.string ⟨qa.toArray⟩) ∧ W.cell? ⟨W1.heap.size, 1, none⟩ = some (.string ⟨qb.toArray⟩) ∧ W.cell? ⟨W1.heap.size, 2, none⟩ = some (.string ⟨qc.toArray⟩) ∧ W.cell? ⟨W1.heap.size, 3, none⟩ = some (.string ⟨qd.toArray⟩)) (go_keep) ((go_at_call 24; refine (HOF.out _ HB0b.out).mono ?_; rintro e w5b ⟨rfl, hb5⟩; have HB5b := hide (HB0b.out.trans (hb5.mono HB0b.out.size)); have HX5b := hide (HX0b.out.later hb5); have HZ5b : Hid (FB w5b W2.heap.size zF) := hide ((show FB (w7a.drew) W2.heap.size zF from HZw7a.out).later hb5); have HF5b := hide (FB.later (W := (w7a.drew)) HFw7a.out hb5); have HO5b : Hid (w5b.heap[W1.heap.size]? = some (.cells #[.string ⟨qa.toArray⟩, .string ⟨qb.toArray⟩, .string ⟨qc.toArray⟩, .string ⟨qd.toArray⟩] 41 (0, 0))) := hide ((hb5.block _ (Array.getElem?_eq_some_iff.1 HO0b.out).1).trans HO0b.out); clear hb5 a0 a1 a2 a3 a4 a5 a6; obtain ⟨b3, b4, b5, b6, -, -, -, -⟩ := blk4 HO5b.out; have b0 : w5b.cell? ⟨w.heap.size, 20, none⟩ = some (.string ⟨acc.toArray⟩) := HX5b.out.acc rfl; have b1 : w5b.cell? ⟨w.heap.size, 22, none⟩ = some (.string ⟨oth.toArray⟩) := HX5b.out.oth rfl; have b2 : w5b.cell? ⟨w.heap.size, 21, none⟩ = some (.string ⟨agt.toArray⟩) := HX5b.out.agt rfl; obtain ⟨-, z17, z18, -⟩ := HF5b.out.cells rfl; have f17 := HF5b.out.frozen 17; have f18 := HF5b.out.frozen 18; dsimp only at z17 z18; obtain ⟨w6b, hw6⟩ : ∃ x, (w5b.setCell ⟨W3.heap.size, 17, none⟩ (.string ⟨oth.toArray⟩)).setCell ⟨W3.heap.size, 18, none⟩ (.string ⟨acc.toArray⟩) = x := ⟨_, rfl⟩; have HF6b := hide (HF5b.out.two rfl oth acc); rw [hw6] at HF6b; dsimp only at HF6b; have HX6b : Hid (Bx w6b w.heap.size ⟨ref, prev, cn, true, true, tr, st, [c0, c1, c2, c3, c4, c5, c6, c7, c8, c9, c10, c11], qty, acc, agt, oth, amt, cur, pri⟩ v) := hide (by rw [← hw6]; exact (two_other (by have := HSZ.out; omega) _ _).trans HX5b.out); have HO6b : Hid (w6b.heap[W1.heap.size]? = some (.cells #[.string ⟨qa.toArray⟩, .string ⟨qb.toArray⟩, .string ⟨qc.toArray⟩, .string ⟨qd.toArray⟩] 41 (0, 0))) := hide (by rw [← hw6]; exact (two_other (by have := HSZ.out; omega) _ _).trans HO5b.out); have HZ6b : Hid (FB w6b W2.heap.size zF) := hide (by rw [← hw6]; exact (two_other (by have := HSZ.out; omega) _ _).trans HZ5b.out); have HB6b : Hid (Below w.heap.size w w6b) := hide (by rw [← hw6]; exact (HB5b.out.setCell (p := ⟨W3.heap.size, 17, none⟩) (by have := HSZ.out; show w.heap.size ≤ W3.heap.size; omega) _).setCell (p := ⟨W3.heap.size, 18, none⟩) (by have := HSZ.out; show w.heap.size ≤ W3.heap.size; omega) _); obtain ⟨d3, d4, d5, d6, -, -, -, -⟩ := blk4 HO6b.out; have d0 : w6b.cell? ⟨w.heap.size, 20, none⟩ = some (.string ⟨acc.toArray⟩) := HX6b.out.acc rfl; have d1 : w6b.cell? ⟨w.heap.size, 22, none⟩ = some (.string ⟨oth.toArray⟩) := HX6b.out.oth rfl; have d2 : w6b.cell? ⟨w.heap.size, 21, none⟩ = some (.string ⟨agt.toArray⟩) := HX6b.out.agt rfl; obtain ⟨-, -, -, u0, u1, u2, u3, u4, u5, u6, u7⟩ := HF6b.out.cells rfl; dsimp only at u0 u1 u2 u3 u4 u5 u6 u7; have f19 := HF6b.out.frozen 19; have f20 := HF6b.out.frozen 20; have f21 := HF6b.out.frozen 21; have f22 := HF6b.out.frozen 22; have f23 := HF6b.out.frozen 23; have f24 := HF6b.out.frozen 24; have f25 := HF6b.out.frozen 25; have f26 := HF6b.out.frozen 26; obtain ⟨w7b, hw7⟩ : ∃ x, ((((((((((((((((w6b).setCell ⟨W3.heap.size, 19, none⟩ (.string ⟨ra.toArray⟩))).setCell ⟨W3.heap.size, 20, none⟩ (.string ⟨rb.toArray⟩))).setCell ⟨W3.heap.size, 21, none⟩ (.string ⟨rd.toArray⟩))).setCell ⟨W3.heap.size, 22, none⟩ (.string ⟨re.toArray⟩))).setCell ⟨W3.heap.size, 23, none⟩ (.string ⟨qa.toArray⟩))).setCell ⟨W3.heap.size, 24, none⟩ (.string ⟨qb.toArray⟩))).setCell ⟨W3.heap.size, 25, none⟩ (.string ⟨qc.toArray⟩))).setCell ⟨W3.heap.size, 26, none⟩ (.string ⟨qd.toArray⟩)) = x := ⟨_, rfl⟩; have HF7b := hide (HF6b.out.eight rfl (ra, rb, rd, re) (qa, qb, qc, qd)); unfold s8 at HF7b; dsimp only at HF7b; rw [hw7] at HF7b; have HX7b : Hid (Bx w7b w.heap.size ⟨ref, prev, cn, true, true, tr, st, [c0, c1, c2, c3, c4, c5, c6, c7, c8, c9, c10, c11], qty, acc, agt, oth, amt, cur, pri⟩ v) := hide (by rw [← hw7]; exact (s8_other (by have := HSZ.out; omega) (ra, rb, rd, re) (qa, qb, qc, qd)).trans HX6b.out); have HO7b : Hid (w7b.heap[W1.heap.size]? = some (.cells #[.string ⟨qa.toArray⟩, .string ⟨qb.toArray⟩, .string ⟨qc.toArray⟩, .string ⟨qd.toArray⟩] 41 (0, 0))) := hide (by rw [← hw7]; exact (s8_other (by have := HSZ.out; omega) (ra, rb, rd, re) (qa, qb, qc, qd)).trans HO6b.out); have HZ7b : Hid (FB w7b W2.heap.size zF) := hide (by rw [← hw7]; exact (s8_other (by have := HSZ.out; omega) (ra, rb, rd, re) (qa, qb, qc, qd)).trans HZ6b.out); have HB7b : Hid (Below w.heap.size w w7b) := hide (by rw [← hw7]; exact s8_below HB6b.out (by have := HSZ.out; omega) (ra, rb, rd, re) (qa, qb, qc, qd)); obtain ⟨g3, g4, g5, g6, -, -, -, -⟩ := blk4 HO7b.out; have g0 : w7b.cell? ⟨w.heap.size, 20, none⟩ = some (.string ⟨acc.toArray⟩) := HX7b.out.acc rfl; have g1 : w7b.cell? ⟨w.heap.size, 22, none⟩ = some (.string ⟨oth.toArray⟩) := HX7b.out.oth rfl; have g2 : w7b.cell? ⟨w.heap.size, 21, none⟩ = some (.string ⟨agt.toArray⟩) := HX7b.out.agt rfl; clear HX0b HO0b HB0b HX5b HO5b HZ5b HF5b HB5b HX6b HO6b HZ6b HF6b HB6b))
  clear hw6 hw7 z17 z18 f17 f18 u0 u1 u2 u3 u4 u5 u6 u7 f19 f20 f21 f22 f23 f24 f25 f26 b0 b1 b2 b3 b4 b5 b6 d0 d1 d2 d3 d4 d5 d6 g0 g1 g2 g3 g4 g5 g6
  have HRG := hide HF7b.out.range
  have HSF : Hid ((Tryd.prog.info? 44).map (·.size) = some (fC ⟨tr, st, [c0, c1, c2, c3, c4, c5, c6, c7, c8, c9, c10, c11], qty, true, cur, oth, acc, (ra, rb, rd, re), (qa, qb, qc, qd)⟩).size) := by show _ = _; rw [fC_size _ rfl]; exact Tryd.sizeFace
  have HOF1 := hide (fC_one ⟨tr, st, [c0, c1, c2, c3, c4, c5, c6, c7, c8, c9, c10, c11], qty, true, cur, oth, acc, (ra, rb, rd, re), (qa, qb, qc, qd)⟩ rfl)
  have HSF1 : Hid ((fC ⟨tr, st, [c0, c1, c2, c3, c4, c5, c6, c7, c8, c9, c10, c11], qty, true, cur, oth, acc, (ra, rb, rd, re), (qa, qb, qc, qd)⟩).size = 27) := hide (fC_size _ rfl)
  have hFF := HFF.out
  rw [hFF] at HRG HSF HOF1 HSF1
  have HZS : Hid ((fC zF).size = 27) := hide (fC_size _ rfl)
  clear hFF HX7b HO7b HF7b
  go_wp2_with (first
    | (refine wpList_load_mid rfl 44 (.tmp 5) rfl W3.heap.size 0 rfl FF.toList _ HRG.out Tryd.underlying44 rfl (by rw [Array.length_toList]; exact HSF.out) ?_; rw [Array.toArray_toList])
    | (refine wpList_store_row rfl 44 (.tmp 4) _ rfl W2.heap.size FF rfl rfl _ _ HZ7b.out HSF.out (by rw [HSF1.out, HZS.out]) HOF1.out ?_)
    | fail)
  exact bodyPost_ret (results_cell_row rfl _ _ W2.heap.size 44 _ (0, 0) _ rfl (setRow_heap _ _ _ _ _ _ HZ7b.out) Tryd.underlying44 rfl HSF.out) rfl ⟨rfl, below_setRow HB7b.out (by have := HSZ.out; omega) _⟩
end Go.Proofs.YtdfhfjkcafchiaaDoor
