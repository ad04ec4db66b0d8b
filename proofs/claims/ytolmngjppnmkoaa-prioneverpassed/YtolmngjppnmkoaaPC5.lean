/-
  My own text: the steps of a play, by the program (printed by mkpc5.py).
-/
import Derived.Test.YtolmngjppnmkoaaPC1
namespace Go.Proofs.Ytolmngjppnmkoaa
open Go.RowKit

abbrev Stp := Int × Int × Int
def sa (m : Option En) : Pr := match m with | none => (-1, -1) | some e => e.1
/-- What a step answers, what is left behind it. -/
def st1 (k : Pr → Int) (R : List En) (N : Nat) (s : Stp) : Pr × List En × Nat :=
  if s.1 = 0 then (sa (mn k (fun _ => true) R), nx R (mn k (fun _ => true) R), N)
  else if s.1 = 1 then ((s.2.1, s.2.2), R ++ [((s.2.1, s.2.2), N)], N + 1)
  else if s.1 = 2 then (sa (mn k (fun _ => true) R), R, N)
  else if s.1 = 3 then (sa (mn k (fun x => x.2 == s.2.1) R), nx R (mn k (fun x => x.2 == s.2.1) R), N)
  else if s.1 = 4 then (((R.length : Int), 0), R, N)
  else ((-1, -1), R, N)
def pl (k : Pr → Int) : List En → Nat → List Stp → List Pr
  | _, _, [] => []
  | R, N, s :: t => (st1 k R N s).1 :: pl k (st1 k R N s).2.1 (st1 k R N s).2.2 t
theorem told_sa (m : Option En) : (if m.isSome then ans m else (-1, -1)) = sa m := by cases m <;> rfl
theorem HQ.box {w W : World} {B hb lb bx : Nat} {lf : FuncId} {k : Pr → Int} {v v' : Value} {R : List En} {N : Nat} {old cs : Array Value} {fz : Nat × Nat} (h : HQ W B hb lb lf k v' R N) (hf : Fq w W hb v v') (hr : w.heap.size ≤ bx) (hb' : W.heap[bx]? = some (.cells old 33 fz)) :
    HQ (W.setRow bx cs) B hb lb lf k v' R N ∧ Fq w (W.setRow bx cs) hb v v' := by
  have hs : (W.setRow bx cs).heap.size = W.heap.size := by simp [World.setRow]
  obtain ⟨E, h1, h2, h3⟩ := h.hp
  obtain ⟨g1, g2⟩ := out_end (cs := cs) h1 hf hr hb'
  exact ⟨⟨⟨E, g1, h2, h3⟩, h.rs, h.lt, h.len, by rw [hs]; exact h.bw, h.bh⟩, g2⟩
set_option maxRecDepth 100000 in
set_option maxHeartbeats 1000000 in
theorem told_any (p : Pr) (b : Bool) (w : World) : Calls Try.prog 55 #[pv p, .bool b] w fun e w' => e = .returned (pv (if b then p else (-1, -1))) ∧ Below w.heap.size w w' := by
  obtain ⟨p1, p2⟩ := p
  have hs : (w.alloc (.cells #[.int .i64 p1, .int .i64 p2] 33)).heap.size = w.heap.size + 1 := by simp
  have RD := hide (show ((w.alloc (.cells #[.int .i64 p1, .int .i64 p2] 33)).alloc zPr).heap[w.heap.size + 1]? = some zPr by rw [← hs]; exact alloc_new _ zPr)
  have B2 := hide (((Below.refl w.heap.size w).alloc (Nat.le_refl _) (.cells #[.int .i64 p1, .int .i64 p2] 33)).alloc (by simp) zPr)
  unfold pv
  dsimp only
  clear hs
  cases b with
  | true =>
    go_enter Try.func55, Try.ntmps55
    go_wp2_with (refine wpList_store_row rfl 33 _ _ rfl (w.heap.size + 1) #[.int .i64 p1, .int .i64 p2] rfl rfl _ _ RD.out Try.sizePr rfl (by simp [Value.oneCell']) ?_)
    refine bodyPost_ret (v := .agg #[.int .i64 p1, .int .i64 p2]) ?_ rfl ⟨rfl, belowRow B2.out (by omega)⟩
    rw [results_cell_row rfl _ _ (w.heap.size + 1) 33 #[.int .i64 p1, .int .i64 p2] (0, 0) _ rfl (setRow_heap _ _ _ _ _ _ RD.out) Try.underlying33 rfl Try.sizePr]
  | false =>
    go_enter Try.func55, Try.ntmps55
    go_wp2_with (refine wpList_store_row rfl 33 _ _ rfl (w.heap.size + 1) #[.int .i64 (-1), .int .i64 (-1)] rfl rfl _ _ RD.out Try.sizePr rfl (by simp [Value.oneCell']) ?_)
    refine bodyPost_ret (v := .agg #[.int .i64 (-1), .int .i64 (-1)]) ?_ rfl ⟨rfl, belowRow B2.out (by omega)⟩
    rw [results_cell_row rfl _ _ (w.heap.size + 1) 33 #[.int .i64 (-1), .int .i64 (-1)] (0, 0) _ rfl (setRow_heap _ _ _ _ _ _ RD.out) Try.underlying33 rfl Try.sizePr]
set_option maxRecDepth 100000 in
set_option maxHeartbeats 1000000 in
theorem is_ok (a b c : Int) (sb : Nat) (w : World) (h : w.heap[sb]? = some (.cells #[.int .i64 a, .int .i64 b, .int .i64 c] 26 (0, 0))) : IOk w 56 #[.pointer (some ⟨sb, 0, none⟩)] (fun x => x.2 == b) := by
  refine ⟨fun W a => rfl, fun x W hb => ?_⟩
  obtain ⟨x1, x2⟩ := x
  have hW := blk_later h hb
  have hl := blk_lt hW
  have B0 := hide ((Below.refl W.heap.size W).alloc (Nat.le_refl _) (.cells #[.int .i64 x1, .int .i64 x2] 33))
  have c1 : (W.alloc (.cells #[.int .i64 x1, .int .i64 x2] 33)).cell? ⟨sb, 1, none⟩ = some (.int .i64 b) := by
    rw [cell_of_row _ _ 1 _ _ _ (blk_later hW ((Below.refl W.heap.size W).alloc (Nat.le_refl _) _))]; rfl
  show Calls Try.prog 56 #[.agg #[.int .i64 x1, .int .i64 x2], .pointer (some ⟨sb, 0, none⟩)] W _
  dsimp only
  clear h hb hW hl
  cases d : (x2 == b)
  all_goals
    go_enter Try.func56, Try.ntmps56
    go_wp2_with fail
    go_ret
    exact ⟨rfl, B0.out⟩
set_option maxRecDepth 100000 in
set_option maxHeartbeats 4000000 in
theorem play_0 {lf : FuncId} {k : Pr → Int} (hl : LOk lf k) (b c : Int) {B hb lb : Nat} {v : Value} {R : List En} {N : Nat} {w : World} (h : HQ w B hb lb lf k v R N) (hN : N < 5864062014805) :
    Calls Try.prog 41 #[.pointer (some ⟨hb, 0, none⟩), .agg #[.int .i64 0, .int .i64 b, .int .i64 c]] w fun e w' => e = .returned (pv (st1 k R N (0, b, c)).1) ∧ ∃ v', HQ w' B hb lb lf k v' (st1 k R N (0, b, c)).2.1 (st1 k R N (0, b, c)).2.2 ∧ Fq w w' hb v v' := by
  have hst : st1 k R N (0, b, c) = (sa (mn k (fun _ => true) R), nx R (mn k (fun _ => true) R), N) := rfl
  rw [hst]
  dsimp only
  clear hst
  obtain ⟨W0, hW0⟩ : ∃ W, Hid ((w.alloc (.cells #[.int .i64 0, .int .i64 b, .int .i64 c] 26)).alloc zPr = W) := ⟨_, hide rfl⟩
  have hs : (w.alloc (.cells #[.int .i64 0, .int .i64 b, .int .i64 c] 26)).heap.size = w.heap.size + 1 := by simp
  have b0 : Below w.heap.size w W0 := by rw [← hW0.out]; exact ((Below.refl _ _).alloc (Nat.le_refl _) _).alloc (by simp) _
  have x0 : W0.heap[w.heap.size + 1]? = some zPr := by rw [← hW0.out, ← hs]; exact alloc_new _ _
  have y0 : W0.heap[w.heap.size]? = some (.cells #[.int .i64 0, .int .i64 b, .int .i64 c] 26 (0, 0)) := by rw [← hW0.out]; exact (Below.heap_alloc _ _ _ (by simp)).trans (alloc_new w _)
  have HH := hide (h.later b0)
  have F0 := hide (Fq.of_below (hb := hb) (v := v) b0)
  have X0 := hide x0
  have Y0 := hide y0
  have hx0 := x0
  have z0 : W0.cell? ⟨w.heap.size, 0, none⟩ = some (.int .i64 0) := by rw [cell_of_row _ _ 0 _ _ _ y0]; rfl
  have z1 : W0.cell? ⟨w.heap.size, 1, none⟩ = some (.int .i64 b) := by rw [cell_of_row _ _ 1 _ _ _ y0]; rfl
  have z2 : W0.cell? ⟨w.heap.size, 2, none⟩ = some (.int .i64 c) := by rw [cell_of_row _ _ 2 _ _ _ y0]; rfl
  have HN := hide hN
  have HL := hide hl
  obtain ⟨M, hM⟩ : ∃ M, Hid (mn k (fun _ => true) R = M) := ⟨_, hide rfl⟩
  obtain ⟨p1, p2, hpp⟩ : ∃ p1 p2, Hid (sa M = (p1, p2)) := ⟨_, _, hide rfl⟩
  rw [hM.out, hpp.out]
  have HC := hide (popQ HL.out HH.out (by have := HN.out; omega))
  rw [hM.out] at HC
  unfold pv
  dsimp only
  have e0 := hW0.out
  clear hW0 hs b0 x0 y0 h hN hl hx0
  subst e0
  go_enter Try.func41, Try.ntmps41
  go_wp2_with fail
  refine HC.out.mono ?_
  rintro e w1 ⟨rfl, v', h1, f1⟩
  have HT := hide (told_any (ans M) M.isSome w1)
  rw [told_sa, hpp.out] at HT
  have nn := HH.out.ne X0.out (by decide) (by decide)
  have X1 := hide ((f1.block _ (blk_lt X0.out) nn.1 nn.2).trans X0.out)
  have HH1 := hide h1
  have F1 := hide (F0.out.trans f1)
  clear h1 f1 nn HC
  unfold pv at HT
  dsimp only at HT
  generalize ans M = am at *
  obtain ⟨am1, am2⟩ := am
  dsimp only at HT ⊢
  generalize M.isSome = sm at *
  go_wp2_with fail
  refine HT.out.mono ?_
  rintro e w2 ⟨rfl, hb2⟩
  have RD := hide (blk_later X1.out hb2)
  have HE := hide ((HH1.out.later hb2).box (cs := #[.int .i64 p1, .int .i64 p2]) (F1.out.trans (Fq.of_below hb2)) (by omega) RD.out)
  clear hb2 HT
  go_wp2_with (refine wpList_store_row rfl 33 _ _ rfl (w.heap.size + 1) #[.int .i64 p1, .int .i64 p2] rfl rfl _ _ RD.out Try.sizePr rfl (by simp [Value.oneCell']) ?_)
  refine bodyPost_ret (v := .agg #[.int .i64 p1, .int .i64 p2]) ?_ rfl ⟨rfl, _, HE.out.1, HE.out.2⟩
  rw [results_cell_row rfl _ _ (w.heap.size + 1) 33 #[.int .i64 p1, .int .i64 p2] (0, 0) _ rfl (setRow_heap _ _ _ _ _ _ RD.out) Try.underlying33 rfl Try.sizePr]
set_option maxRecDepth 100000 in
set_option maxHeartbeats 4000000 in
theorem play_2 {lf : FuncId} {k : Pr → Int} (hl : LOk lf k) (b c : Int) {B hb lb : Nat} {v : Value} {R : List En} {N : Nat} {w : World} (h : HQ w B hb lb lf k v R N) (hN : N < 5864062014805) :
    Calls Try.prog 41 #[.pointer (some ⟨hb, 0, none⟩), .agg #[.int .i64 2, .int .i64 b, .int .i64 c]] w fun e w' => e = .returned (pv (st1 k R N (2, b, c)).1) ∧ ∃ v', HQ w' B hb lb lf k v' (st1 k R N (2, b, c)).2.1 (st1 k R N (2, b, c)).2.2 ∧ Fq w w' hb v v' := by
  have hst : st1 k R N (2, b, c) = (sa (mn k (fun _ => true) R), R, N) := rfl
  rw [hst]
  dsimp only
  clear hst
  obtain ⟨W0, hW0⟩ : ∃ W, Hid ((w.alloc (.cells #[.int .i64 2, .int .i64 b, .int .i64 c] 26)).alloc zPr = W) := ⟨_, hide rfl⟩
  have hs : (w.alloc (.cells #[.int .i64 2, .int .i64 b, .int .i64 c] 26)).heap.size = w.heap.size + 1 := by simp
  have b0 : Below w.heap.size w W0 := by rw [← hW0.out]; exact ((Below.refl _ _).alloc (Nat.le_refl _) _).alloc (by simp) _
  have x0 : W0.heap[w.heap.size + 1]? = some zPr := by rw [← hW0.out, ← hs]; exact alloc_new _ _
  have y0 : W0.heap[w.heap.size]? = some (.cells #[.int .i64 2, .int .i64 b, .int .i64 c] 26 (0, 0)) := by rw [← hW0.out]; exact (Below.heap_alloc _ _ _ (by simp)).trans (alloc_new w _)
  have HH := hide (h.later b0)
  have F0 := hide (Fq.of_below (hb := hb) (v := v) b0)
  have X0 := hide x0
  have Y0 := hide y0
  have hx0 := x0
  have z0 : W0.cell? ⟨w.heap.size, 0, none⟩ = some (.int .i64 2) := by rw [cell_of_row _ _ 0 _ _ _ y0]; rfl
  have z1 : W0.cell? ⟨w.heap.size, 1, none⟩ = some (.int .i64 b) := by rw [cell_of_row _ _ 1 _ _ _ y0]; rfl
  have z2 : W0.cell? ⟨w.heap.size, 2, none⟩ = some (.int .i64 c) := by rw [cell_of_row _ _ 2 _ _ _ y0]; rfl
  have HN := hide hN
  have HL := hide hl
  obtain ⟨M, hM⟩ : ∃ M, Hid (mn k (fun _ => true) R = M) := ⟨_, hide rfl⟩
  obtain ⟨p1, p2, hpp⟩ : ∃ p1 p2, Hid (sa M = (p1, p2)) := ⟨_, _, hide rfl⟩
  rw [hM.out, hpp.out]
  have HC := hide (peekQ HH.out)
  rw [hM.out] at HC
  unfold pv
  dsimp only
  have e0 := hW0.out
  clear hW0 hs b0 x0 y0 h hN hl hx0
  subst e0
  go_enter Try.func41, Try.ntmps41
  go_wp2_with fail
  refine HC.out.mono ?_
  rintro e w1 ⟨rfl, hb1⟩
  have h1 := HH.out.later hb1
  have f1 := Fq.of_below (hb := hb) (v := v) hb1
  have HT := hide (told_any (ans M) M.isSome w1)
  rw [told_sa, hpp.out] at HT
  have nn := HH.out.ne X0.out (by decide) (by decide)
  have X1 := hide ((f1.block _ (blk_lt X0.out) nn.1 nn.2).trans X0.out)
  have HH1 := hide h1
  have F1 := hide (F0.out.trans f1)
  clear h1 f1 nn HC hb1
  unfold pv at HT
  dsimp only at HT
  generalize ans M = am at *
  obtain ⟨am1, am2⟩ := am
  dsimp only at HT ⊢
  generalize M.isSome = sm at *
  go_wp2_with fail
  refine HT.out.mono ?_
  rintro e w2 ⟨rfl, hb2⟩
  have RD := hide (blk_later X1.out hb2)
  have HE := hide ((HH1.out.later hb2).box (cs := #[.int .i64 p1, .int .i64 p2]) (F1.out.trans (Fq.of_below hb2)) (by omega) RD.out)
  clear hb2 HT
  go_wp2_with (refine wpList_store_row rfl 33 _ _ rfl (w.heap.size + 1) #[.int .i64 p1, .int .i64 p2] rfl rfl _ _ RD.out Try.sizePr rfl (by simp [Value.oneCell']) ?_)
  refine bodyPost_ret (v := .agg #[.int .i64 p1, .int .i64 p2]) ?_ rfl ⟨rfl, _, HE.out.1, HE.out.2⟩
  rw [results_cell_row rfl _ _ (w.heap.size + 1) 33 #[.int .i64 p1, .int .i64 p2] (0, 0) _ rfl (setRow_heap _ _ _ _ _ _ RD.out) Try.underlying33 rfl Try.sizePr]
set_option maxRecDepth 100000 in
set_option maxHeartbeats 4000000 in
theorem play_3 {lf : FuncId} {k : Pr → Int} (hl : LOk lf k) (b c : Int) {B hb lb : Nat} {v : Value} {R : List En} {N : Nat} {w : World} (h : HQ w B hb lb lf k v R N) (hN : N < 5864062014805) :
    Calls Try.prog 41 #[.pointer (some ⟨hb, 0, none⟩), .agg #[.int .i64 3, .int .i64 b, .int .i64 c]] w fun e w' => e = .returned (pv (st1 k R N (3, b, c)).1) ∧ ∃ v', HQ w' B hb lb lf k v' (st1 k R N (3, b, c)).2.1 (st1 k R N (3, b, c)).2.2 ∧ Fq w w' hb v v' := by
  have hst : st1 k R N (3, b, c) = (sa (mn k (fun x => x.2 == b) R), nx R (mn k (fun x => x.2 == b) R), N) := rfl
  rw [hst]
  dsimp only
  clear hst
  obtain ⟨W0, hW0⟩ : ∃ W, Hid ((w.alloc (.cells #[.int .i64 3, .int .i64 b, .int .i64 c] 26)).alloc zPr = W) := ⟨_, hide rfl⟩
  have hs : (w.alloc (.cells #[.int .i64 3, .int .i64 b, .int .i64 c] 26)).heap.size = w.heap.size + 1 := by simp
  have b0 : Below w.heap.size w W0 := by rw [← hW0.out]; exact ((Below.refl _ _).alloc (Nat.le_refl _) _).alloc (by simp) _
  have x0 : W0.heap[w.heap.size + 1]? = some zPr := by rw [← hW0.out, ← hs]; exact alloc_new _ _
  have y0 : W0.heap[w.heap.size]? = some (.cells #[.int .i64 3, .int .i64 b, .int .i64 c] 26 (0, 0)) := by rw [← hW0.out]; exact (Below.heap_alloc _ _ _ (by simp)).trans (alloc_new w _)
  have HH := hide (h.later b0)
  have F0 := hide (Fq.of_below (hb := hb) (v := v) b0)
  have X0 := hide x0
  have Y0 := hide y0
  have hx0 := x0
  have z0 : W0.cell? ⟨w.heap.size, 0, none⟩ = some (.int .i64 3) := by rw [cell_of_row _ _ 0 _ _ _ y0]; rfl
  have z1 : W0.cell? ⟨w.heap.size, 1, none⟩ = some (.int .i64 b) := by rw [cell_of_row _ _ 1 _ _ _ y0]; rfl
  have z2 : W0.cell? ⟨w.heap.size, 2, none⟩ = some (.int .i64 c) := by rw [cell_of_row _ _ 2 _ _ _ y0]; rfl
  have HN := hide hN
  have HL := hide hl
  obtain ⟨M, hM⟩ : ∃ M, Hid (mn k (fun x => x.2 == b) R = M) := ⟨_, hide rfl⟩
  obtain ⟨p1, p2, hpp⟩ : ∃ p1 p2, Hid (sa M = (p1, p2)) := ⟨_, _, hide rfl⟩
  rw [hM.out, hpp.out]
  have HC := hide (removeQ HL.out (is_ok 3 b c w.heap.size W0 Y0.out) HH.out (by have := HN.out; omega))
  rw [hM.out] at HC
  unfold pv
  dsimp only
  have e0 := hW0.out
  clear hW0 hs b0 x0 y0 h hN hl hx0
  subst e0
  go_enter Try.func41, Try.ntmps41
  go_wp2_with fail
  refine HC.out.mono ?_
  rintro e w1 ⟨rfl, v', h1, f1⟩
  have HT := hide (told_any (ans M) M.isSome w1)
  rw [told_sa, hpp.out] at HT
  have nn := HH.out.ne X0.out (by decide) (by decide)
  have X1 := hide ((f1.block _ (blk_lt X0.out) nn.1 nn.2).trans X0.out)
  have HH1 := hide h1
  have F1 := hide (F0.out.trans f1)
  clear h1 f1 nn HC
  unfold pv at HT
  dsimp only at HT
  generalize ans M = am at *
  obtain ⟨am1, am2⟩ := am
  dsimp only at HT ⊢
  generalize M.isSome = sm at *
  go_wp2_with fail
  refine HT.out.mono ?_
  rintro e w2 ⟨rfl, hb2⟩
  have RD := hide (blk_later X1.out hb2)
  have HE := hide ((HH1.out.later hb2).box (cs := #[.int .i64 p1, .int .i64 p2]) (F1.out.trans (Fq.of_below hb2)) (by omega) RD.out)
  clear hb2 HT
  go_wp2_with (refine wpList_store_row rfl 33 _ _ rfl (w.heap.size + 1) #[.int .i64 p1, .int .i64 p2] rfl rfl _ _ RD.out Try.sizePr rfl (by simp [Value.oneCell']) ?_)
  refine bodyPost_ret (v := .agg #[.int .i64 p1, .int .i64 p2]) ?_ rfl ⟨rfl, _, HE.out.1, HE.out.2⟩
  rw [results_cell_row rfl _ _ (w.heap.size + 1) 33 #[.int .i64 p1, .int .i64 p2] (0, 0) _ rfl (setRow_heap _ _ _ _ _ _ RD.out) Try.underlying33 rfl Try.sizePr]
set_option maxRecDepth 100000 in
set_option maxHeartbeats 4000000 in
theorem play_1 {lf : FuncId} {k : Pr → Int} (hl : LOk lf k) (b c : Int) {B hb lb : Nat} {v : Value} {R : List En} {N : Nat} {w : World} (h : HQ w B hb lb lf k v R N) (hN : N < 5864062014805) :
    Calls Try.prog 41 #[.pointer (some ⟨hb, 0, none⟩), .agg #[.int .i64 1, .int .i64 b, .int .i64 c]] w fun e w' => e = .returned (pv (st1 k R N (1, b, c)).1) ∧ ∃ v', HQ w' B hb lb lf k v' (st1 k R N (1, b, c)).2.1 (st1 k R N (1, b, c)).2.2 ∧ Fq w w' hb v v' := by
  have hst : st1 k R N (1, b, c) = ((b, c), R ++ [((b, c), N)], N + 1) := rfl
  rw [hst]
  dsimp only
  clear hst
  obtain ⟨W0, hW0⟩ : ∃ W, Hid ((w.alloc (.cells #[.int .i64 1, .int .i64 b, .int .i64 c] 26)).alloc zPr = W) := ⟨_, hide rfl⟩
  have hs : (w.alloc (.cells #[.int .i64 1, .int .i64 b, .int .i64 c] 26)).heap.size = w.heap.size + 1 := by simp
  have b0 : Below w.heap.size w W0 := by rw [← hW0.out]; exact ((Below.refl _ _).alloc (Nat.le_refl _) _).alloc (by simp) _
  have x0 : W0.heap[w.heap.size + 1]? = some zPr := by rw [← hW0.out, ← hs]; exact alloc_new _ _
  have y0 : W0.heap[w.heap.size]? = some (.cells #[.int .i64 1, .int .i64 b, .int .i64 c] 26 (0, 0)) := by rw [← hW0.out]; exact (Below.heap_alloc _ _ _ (by simp)).trans (alloc_new w _)
  have HH := hide (h.later b0)
  have F0 := hide (Fq.of_below (hb := hb) (v := v) b0)
  have X0 := hide x0
  have Y0 := hide y0
  have hx0 := x0
  have z0 : W0.cell? ⟨w.heap.size, 0, none⟩ = some (.int .i64 1) := by rw [cell_of_row _ _ 0 _ _ _ y0]; rfl
  have z1 : W0.cell? ⟨w.heap.size, 1, none⟩ = some (.int .i64 b) := by rw [cell_of_row _ _ 1 _ _ _ y0]; rfl
  have z2 : W0.cell? ⟨w.heap.size, 2, none⟩ = some (.int .i64 c) := by rw [cell_of_row _ _ 2 _ _ _ y0]; rfl
  have HN := hide hN
  have HL := hide hl
  obtain ⟨W1, hW1⟩ : ∃ W, Hid (W0.alloc (.cells #[.int .i64 b, .int .i64 c] 33) = W) := ⟨_, hide rfl⟩
  have b1 : Below W0.heap.size W0 W1 := by rw [← hW1.out]; exact (Below.refl _ _).alloc (Nat.le_refl _) _
  have u1 : W1.heap[W0.heap.size]? = some (.cells #[.int .i64 b, .int .i64 c] 33 (0, 0)) := by rw [← hW1.out]; exact alloc_new W0 _
  have HC := hide (pushQ HL.out (b, c) (HH.out.later b1) HN.out)
  have HH1 := hide (HH.out.later b1)
  have X1 := hide (blk_later X0.out b1)
  have U1 := hide u1
  have F1 := hide (F0.out.trans (Fq.of_below (hb := hb) (v := v) b1))
  have u10 := cells2 u1
  unfold pv at HC
  dsimp only at HC
  unfold pv
  dsimp only
  have e1 := hW1.out
  clear hW1 b1 u1
  subst e1
  have e0 := hW0.out
  clear hW0 hs b0 x0 y0 h hN hl hx0
  subst e0
  go_enter Try.func41, Try.ntmps41
  go_wp2_with (refine wpList_store_row rfl 33 _ _ rfl (w.heap.size + 1 + 1) #[.int .i64 b, .int .i64 c] rfl rfl _ _ (by rw [show w.heap.size + 1 + 1 = ((w.alloc (.cells #[.int .i64 1, .int .i64 b, .int .i64 c] 26)).alloc zPr).heap.size by simp]; exact alloc_new _ _) Try.sizePr rfl (by simp [Value.oneCell']) ?_)
  refine HC.out.mono ?_
  rintro e w1 ⟨⟨u, rfl⟩, v', h1, f1⟩
  have nn := HH1.out.ne X1.out (by decide) (by decide)
  have nu := HH1.out.ne U1.out (by decide) (by decide)
  have RD := hide ((f1.block _ (blk_lt X1.out) nn.1 nn.2).trans X1.out)
  have U2 := (f1.block _ (blk_lt U1.out) nu.1 nu.2).trans U1.out
  rw [show ((w.alloc (.cells #[.int .i64 1, .int .i64 b, .int .i64 c] 26)).alloc zPr).heap.size = w.heap.size + 1 + 1 by simp] at U2
  obtain ⟨q0, q1⟩ := cells2 U2
  have HE := hide (h1.box (cs := #[.int .i64 b, .int .i64 c]) (F1.out.trans f1) (by omega) RD.out)
  clear h1 f1 nn nu U2 HC
  go_wp2_with (refine wpList_store_row rfl 33 _ _ rfl (w.heap.size + 1) #[.int .i64 b, .int .i64 c] rfl rfl _ _ RD.out Try.sizePr rfl (by simp [Value.oneCell']) ?_)
  refine bodyPost_ret (v := .agg #[.int .i64 b, .int .i64 c]) ?_ rfl ⟨rfl, _, HE.out.1, HE.out.2⟩
  rw [results_cell_row rfl _ _ (w.heap.size + 1) 33 #[.int .i64 b, .int .i64 c] (0, 0) _ rfl (setRow_heap _ _ _ _ _ _ RD.out) Try.underlying33 rfl Try.sizePr]
set_option maxRecDepth 100000 in
set_option maxHeartbeats 4000000 in
theorem play_4 {lf : FuncId} {k : Pr → Int} (hl : LOk lf k) (b c : Int) {B hb lb : Nat} {v : Value} {R : List En} {N : Nat} {w : World} (h : HQ w B hb lb lf k v R N) (hN : N < 5864062014805) :
    Calls Try.prog 41 #[.pointer (some ⟨hb, 0, none⟩), .agg #[.int .i64 4, .int .i64 b, .int .i64 c]] w fun e w' => e = .returned (pv (st1 k R N (4, b, c)).1) ∧ ∃ v', HQ w' B hb lb lf k v' (st1 k R N (4, b, c)).2.1 (st1 k R N (4, b, c)).2.2 ∧ Fq w w' hb v v' := by
  have hst : st1 k R N (4, b, c) = (((R.length : Int), 0), R, N) := rfl
  rw [hst]
  dsimp only
  clear hst
  obtain ⟨W0, hW0⟩ : ∃ W, Hid ((w.alloc (.cells #[.int .i64 4, .int .i64 b, .int .i64 c] 26)).alloc zPr = W) := ⟨_, hide rfl⟩
  have hs : (w.alloc (.cells #[.int .i64 4, .int .i64 b, .int .i64 c] 26)).heap.size = w.heap.size + 1 := by simp
  have b0 : Below w.heap.size w W0 := by rw [← hW0.out]; exact ((Below.refl _ _).alloc (Nat.le_refl _) _).alloc (by simp) _
  have x0 : W0.heap[w.heap.size + 1]? = some zPr := by rw [← hW0.out, ← hs]; exact alloc_new _ _
  have y0 : W0.heap[w.heap.size]? = some (.cells #[.int .i64 4, .int .i64 b, .int .i64 c] 26 (0, 0)) := by rw [← hW0.out]; exact (Below.heap_alloc _ _ _ (by simp)).trans (alloc_new w _)
  have HH := hide (h.later b0)
  have F0 := hide (Fq.of_below (hb := hb) (v := v) b0)
  have X0 := hide x0
  have Y0 := hide y0
  have hx0 := x0
  have z0 : W0.cell? ⟨w.heap.size, 0, none⟩ = some (.int .i64 4) := by rw [cell_of_row _ _ 0 _ _ _ y0]; rfl
  have z1 : W0.cell? ⟨w.heap.size, 1, none⟩ = some (.int .i64 b) := by rw [cell_of_row _ _ 1 _ _ _ y0]; rfl
  have z2 : W0.cell? ⟨w.heap.size, 2, none⟩ = some (.int .i64 c) := by rw [cell_of_row _ _ 2 _ _ _ y0]; rfl
  have HN := hide hN
  have HL := hide hl
  have HC := hide (lenQ HH.out)
  unfold pv
  dsimp only
  obtain ⟨p1, hp1⟩ : ∃ p1 : Int, Hid ((R.length : Int) = p1) := ⟨_, hide rfl⟩
  rw [hp1.out] at HC ⊢
  obtain ⟨p2, hp2⟩ : ∃ p2 : Int, Hid (p2 = 0) := ⟨_, hide rfl⟩
  have e0 := hW0.out
  clear hW0 hs b0 x0 y0 h hN hl hx0
  subst e0
  go_enter Try.func41, Try.ntmps41
  go_wp2_with fail
  refine HC.out.mono ?_
  rintro e w1 ⟨rfl, rfl⟩
  have RD := hide X0.out
  have HE := hide (HH.out.box (cs := #[.int .i64 p1, .int .i64 0]) F0.out (by omega) RD.out)
  clear HC
  go_wp2_with (refine wpList_store_row rfl 33 _ _ rfl (w.heap.size + 1) #[.int .i64 p1, .int .i64 0] rfl rfl _ _ RD.out Try.sizePr rfl (by simp [Value.oneCell']) ?_)
  refine bodyPost_ret (v := .agg #[.int .i64 p1, .int .i64 0]) ?_ rfl ⟨rfl, _, HE.out.1, HE.out.2⟩
  rw [results_cell_row rfl _ _ (w.heap.size + 1) 33 #[.int .i64 p1, .int .i64 0] (0, 0) _ rfl (setRow_heap _ _ _ _ _ _ RD.out) Try.underlying33 rfl Try.sizePr]
set_option maxRecDepth 100000 in
set_option maxHeartbeats 4000000 in
theorem play_n {lf : FuncId} {k : Pr → Int} (hl : LOk lf k) (a : Int) (b c : Int) (ha : a ≠ 0 ∧ a ≠ 1 ∧ a ≠ 2 ∧ a ≠ 3 ∧ a ≠ 4) {B hb lb : Nat} {v : Value} {R : List En} {N : Nat} {w : World} (h : HQ w B hb lb lf k v R N) (hN : N < 5864062014805) :
    Calls Try.prog 41 #[.pointer (some ⟨hb, 0, none⟩), .agg #[.int .i64 a, .int .i64 b, .int .i64 c]] w fun e w' => e = .returned (pv (st1 k R N (a, b, c)).1) ∧ ∃ v', HQ w' B hb lb lf k v' (st1 k R N (a, b, c)).2.1 (st1 k R N (a, b, c)).2.2 ∧ Fq w w' hb v v' := by
  have hst : st1 k R N (a, b, c) = ((-1, -1), R, N) := by unfold st1; simp [ha]
  rw [hst]
  dsimp only
  clear hst
  obtain ⟨W0, hW0⟩ : ∃ W, Hid ((w.alloc (.cells #[.int .i64 a, .int .i64 b, .int .i64 c] 26)).alloc zPr = W) := ⟨_, hide rfl⟩
  have hs : (w.alloc (.cells #[.int .i64 a, .int .i64 b, .int .i64 c] 26)).heap.size = w.heap.size + 1 := by simp
  have b0 : Below w.heap.size w W0 := by rw [← hW0.out]; exact ((Below.refl _ _).alloc (Nat.le_refl _) _).alloc (by simp) _
  have x0 : W0.heap[w.heap.size + 1]? = some zPr := by rw [← hW0.out, ← hs]; exact alloc_new _ _
  have y0 : W0.heap[w.heap.size]? = some (.cells #[.int .i64 a, .int .i64 b, .int .i64 c] 26 (0, 0)) := by rw [← hW0.out]; exact (Below.heap_alloc _ _ _ (by simp)).trans (alloc_new w _)
  have HH := hide (h.later b0)
  have F0 := hide (Fq.of_below (hb := hb) (v := v) b0)
  have X0 := hide x0
  have Y0 := hide y0
  have hx0 := x0
  have z0 : W0.cell? ⟨w.heap.size, 0, none⟩ = some (.int .i64 a) := by rw [cell_of_row _ _ 0 _ _ _ y0]; rfl
  have z1 : W0.cell? ⟨w.heap.size, 1, none⟩ = some (.int .i64 b) := by rw [cell_of_row _ _ 1 _ _ _ y0]; rfl
  have z2 : W0.cell? ⟨w.heap.size, 2, none⟩ = some (.int .i64 c) := by rw [cell_of_row _ _ 2 _ _ _ y0]; rfl
  have HN := hide hN
  have HL := hide hl
  have HT := hide (told_any (0, 0) false W0)
  unfold pv at HT ⊢
  dsimp only at HT ⊢
  have a0 : (a == 0) = false := by simpa using ha.1
  have a1 : (a == 1) = false := by simpa using ha.2.1
  have a2 : (a == 2) = false := by simpa using ha.2.2.1
  have a3 : (a == 3) = false := by simpa using ha.2.2.2.1
  have a4 : (a == 4) = false := by simpa using ha.2.2.2.2
  obtain ⟨a0', a1', a2', a3', a4'⟩ := ha
  have e0 := hW0.out
  clear hW0 hs b0 x0 y0 h hN hl hx0
  subst e0
  go_enter Try.func41, Try.ntmps41
  go_wp2_with fail
  refine HT.out.mono ?_
  rintro e w2 ⟨rfl, hb2⟩
  have RD := hide (blk_later X0.out hb2)
  have HE := hide ((HH.out.later hb2).box (cs := #[.int .i64 (-1), .int .i64 (-1)]) (F0.out.trans (Fq.of_below hb2)) (by omega) RD.out)
  clear hb2 HT
  go_wp2_with (refine wpList_store_row rfl 33 _ _ rfl (w.heap.size + 1) #[.int .i64 (-1), .int .i64 (-1)] rfl rfl _ _ RD.out Try.sizePr rfl (by simp [Value.oneCell']) ?_)
  refine bodyPost_ret (v := .agg #[.int .i64 (-1), .int .i64 (-1)]) ?_ rfl ⟨rfl, _, HE.out.1, HE.out.2⟩
  rw [results_cell_row rfl _ _ (w.heap.size + 1) 33 #[.int .i64 (-1), .int .i64 (-1)] (0, 0) _ rfl (setRow_heap _ _ _ _ _ _ RD.out) Try.underlying33 rfl Try.sizePr]
theorem play_any {lf : FuncId} {k : Pr → Int} (hl : LOk lf k) (s : Stp) {B hb lb : Nat} {v : Value} {R : List En} {N : Nat} {w : World} (h : HQ w B hb lb lf k v R N) (hN : N < 5864062014805) :
    Calls Try.prog 41 #[.pointer (some ⟨hb, 0, none⟩), .agg #[.int .i64 s.1, .int .i64 s.2.1, .int .i64 s.2.2]] w fun e w' => e = .returned (pv (st1 k R N s).1) ∧ ∃ v', HQ w' B hb lb lf k v' (st1 k R N s).2.1 (st1 k R N s).2.2 ∧ Fq w w' hb v v' := by
  obtain ⟨a, b, c⟩ := s
  by_cases h0 : a = 0
  · subst h0; exact play_0 hl b c h hN
  by_cases h1 : a = 1
  · subst h1; exact play_1 hl b c h hN
  by_cases h2 : a = 2
  · subst h2; exact play_2 hl b c h hN
  by_cases h3 : a = 3
  · subst h3; exact play_3 hl b c h hN
  by_cases h4 : a = 4
  · subst h4; exact play_4 hl b c h hN
  exact play_n hl a b c ⟨h0, h1, h2, h3, h4⟩ h hN
end Go.Proofs.Ytolmngjppnmkoaa
