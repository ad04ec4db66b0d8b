/-
  My own text: a call of the document's reader (printed by mkask.py).
-/
import Derived.Test.YthalmfbcdkihgaaDoorWQ4
namespace Go.Proofs.YthalmfbcdkihgaaDoor
open Go.RowKit Go.Extern

theorem Rf.keep {w w1 : World} {q o n : Nat} {v : Value} {e : Int} (h : Rf w q o v n e) (hb : w1.heap[q]? = w.heap[q]?) : Rf w1 q o v n e :=
  ⟨(World.cell?_of_block (w := w) hb).trans h.c0, (World.cell?_of_block (w := w) hb).trans h.c1, (World.cell?_of_block (w := w) hb).trans h.c2, (World.frozen?_of_block (w := w) hb).trans h.f1, (World.frozen?_of_block (w := w) hb).trans h.f2⟩
theorem Rf.lt {w : World} {q o n : Nat} {v : Value} {e : Int} (h : Rf w q o v n e) : q < w.heap.size := World.block_lt_of_cell? w _ h.c0
theorem Rf.later {w w1 : World} {q o n : Nat} {v : Value} {e : Int} (h : Rf w q o v n e) (hb : Below w.heap.size w w1) : Rf w1 q o v n e := h.keep (hb.block q h.lt)
theorem Ch.undrew {q o : Nat} {w w1 : World} (h : Ch q o w.drew w1) : Ch q o w w1 := ⟨h.only.undrew, h.cell, h.froz⟩
theorem After.undrew {q o : Nat} {w w1 : World} {v : Value} {L l : List UInt8} {e : Int} (h : After w.drew w1 q o v L l e) : After w w1 q o v L l e := ⟨h.1, h.2.undrew⟩
theorem fin_after {w w1 W : World} {q o : Nat} {on kd x n : Int} {v : Value} {L l : List UInt8} {e : Int} (h : After (Wd w on kd x n) w1 q o v L l e) (hb : Below w.heap.size w1 W) (hq : q < w.heap.size) : After w W q o v L l e := by
  obtain ⟨⟨n', h1, h2, h3⟩, hc⟩ := h
  have hbq := hb.block q hq
  have hwq := (Wd.below w on kd x n).block q hq
  refine ⟨⟨n', h1, h2, h3.keep hbq⟩, fin_only hc.only hb, fun j a b => ?_, fun j => ?_⟩
  · exact (World.cell?_of_block (w := w1) hbq).trans ((hc.cell j a b).trans (World.cell?_of_block (w := w) hwq))
  · exact (World.frozen?_of_block (w := w1) hbq).trans ((hc.froz j).trans (World.frozen?_of_block (w := w) hwq))
set_option maxRecDepth 100000 in
set_option maxHeartbeats 1000000 in
theorem tell_0 (q o g m : Nat) (v : Value) (L : List UInt8) (e on x n : Int) (w : World) (hf : Rf w q o v m e) (hg : RG w g v L) (_hgq : g ≠ q) (hmL : m ≤ L.length) (he : 0 ≤ e) (h24 : e ≤ 24) (hl : L.length ≤ 140737488355328) :
    Calls Tryd.prog 49 #[.pointer (some ⟨q, o, none⟩), .agg #[.int .i64 on, .int .i64 0, .int .u64 x, .int .i64 n]] w fun en w' => en = .returned (gv (rdU x (L.drop m) e).1 [] 0) ∧ After w w' q o v L (rdU x (L.drop m) e).2.1 (rdU x (L.drop m) e).2.2 := by
  have HU := hide (fun (W : World) (h : Rf W q o v m e) (hg : RG W g v L) => refRUint_any x q o g m v L e W h hg hmL he h24 hl)
  have HD := hide (hf.later (Wd.below w on 0 x n))
  have HG := hide (hg.later (Wd.below w on 0 x n))
  have hrl := hf.lt
  clear hf hg
  obtain ⟨X, hX⟩ : ∃ X, Hid ((rdU x (L.drop m) e).1 = X) := ⟨_, hide rfl⟩
  obtain ⟨l1, hl1⟩ : ∃ l1, Hid ((rdU x (L.drop m) e).2.1 = l1) := ⟨_, hide rfl⟩
  obtain ⟨e1, he1⟩ : ∃ e1, Hid ((rdU x (L.drop m) e).2.2 = e1) := ⟨_, hide rfl⟩
  rw [hX.out, hl1.out, he1.out] at HU ⊢
  go_enter Tryd.func49, Tryd.ntmps49
  go_wp2_with fail
  first
    | (go_region_with (go_at_call 69; refine (HU.out (Wd w on 0 x n).drew HD.out.drew HG.out.drew).mono ?_; rintro en w1 ⟨rfl, hd1⟩; have HD1 := hide hd1.undrew; obtain ⟨k0, k1, k2, k3⟩ := got_kept hd1.undrew.2.only hrl; have k4 := k3 0; clear hd1))
    | (refine (HU.out (Wd w on 0 x n) HD.out HG.out).mono ?_; rintro en w1 ⟨rfl, hd1⟩; have HD1 := hide hd1; obtain ⟨k0, k1, k2, k3⟩ := got_kept hd1.2.only hrl; have k4 := k3 0; clear hd1)
  all_goals
    go_wp2_with fail
    refine bodyPost_ret (v := gv X [] 0) ?_ rfl ⟨rfl, fin_after HD1.out (fin_below _ _ _) hrl⟩
    simp [results, Tryd.results49, go_sem, gv, k0, k1, k2]
set_option maxRecDepth 100000 in
set_option maxHeartbeats 1000000 in
theorem tell_1 (q o g m : Nat) (v : Value) (L : List UInt8) (e on x n : Int) (w : World) (hf : Rf w q o v m e) (hg : RG w g v L) (_hgq : g ≠ q) (hmL : m ≤ L.length) (he : 0 ≤ e) (h24 : e ≤ 24) (hl : L.length ≤ 140737488355328) :
    Calls Tryd.prog 49 #[.pointer (some ⟨q, o, none⟩), .agg #[.int .i64 on, .int .i64 1, .int .u64 x, .int .i64 n]] w fun en w' => en = .returned (gv (IntKind.u64.wrap (rdI (L.drop m) e).1) [] 0) ∧ After w w' q o v L (rdI (L.drop m) e).2.1 (rdI (L.drop m) e).2.2 := by
  have HU := hide (fun (W : World) (h : Rf W q o v m e) (hg : RG W g v L) => refRInt_any q o g m v L e W h hg hmL he h24 hl)
  have HD := hide (hf.later (Wd.below w on 1 x n))
  have HG := hide (hg.later (Wd.below w on 1 x n))
  have hrl := hf.lt
  clear hf hg
  obtain ⟨X, hX⟩ : ∃ X, Hid ((rdI (L.drop m) e).1 = X) := ⟨_, hide rfl⟩
  obtain ⟨l1, hl1⟩ : ∃ l1, Hid ((rdI (L.drop m) e).2.1 = l1) := ⟨_, hide rfl⟩
  obtain ⟨e1, he1⟩ : ∃ e1, Hid ((rdI (L.drop m) e).2.2 = e1) := ⟨_, hide rfl⟩
  rw [hX.out, hl1.out, he1.out] at HU ⊢
  go_enter Tryd.func49, Tryd.ntmps49
  go_wp2_with fail
  first
    | (go_region_with (go_at_call 70; refine (HU.out (Wd w on 1 x n).drew HD.out.drew HG.out.drew).mono ?_; rintro en w1 ⟨rfl, hd1⟩; have HD1 := hide hd1.undrew; obtain ⟨k0, k1, k2, k3⟩ := got_kept hd1.undrew.2.only hrl; have k4 := k3 0; clear hd1))
    | (refine (HU.out (Wd w on 1 x n) HD.out HG.out).mono ?_; rintro en w1 ⟨rfl, hd1⟩; have HD1 := hide hd1; obtain ⟨k0, k1, k2, k3⟩ := got_kept hd1.2.only hrl; have k4 := k3 0; clear hd1)
  all_goals
    go_wp2_with fail
    refine bodyPost_ret (v := gv (IntKind.u64.wrap X) [] 0) ?_ rfl ⟨rfl, fin_after HD1.out (fin_below _ _ _) hrl⟩
    simp [results, Tryd.results49, go_sem, gv, k0, k1, k2]
set_option maxRecDepth 100000 in
set_option maxHeartbeats 1000000 in
theorem tell_2 (q o g m : Nat) (v : Value) (L : List UInt8) (e on x n : Int) (w : World) (hf : Rf w q o v m e) (hg : RG w g v L) (hgq : g ≠ q) (hmL : m ≤ L.length) (he : 0 ≤ e) (h24 : e ≤ 24) (hl : L.length ≤ 140737488355328) (hm : n ≤ 9223372036854775807) :
    Calls Tryd.prog 49 #[.pointer (some ⟨q, o, none⟩), .agg #[.int .i64 on, .int .i64 2, .int .u64 x, .int .i64 n]] w fun en w' => en = .returned (gv 0 (rdX n (L.drop m) e).1 0) ∧ After w w' q o v L (rdX n (L.drop m) e).2.1 (rdX n (L.drop m) e).2.2 := by
  have HU := hide (fun (W : World) (h : Rf W q o v m e) (hg : RG W g v L) => refRText_any n hm q o g m v L e W h hg hgq hmL he h24 hl)
  have HD := hide (hf.later (Wd.below w on 2 x n))
  have HG := hide (hg.later (Wd.below w on 2 x n))
  have hrl := hf.lt
  clear hf hg
  obtain ⟨X, hX⟩ : ∃ X, Hid ((rdX n (L.drop m) e).1 = X) := ⟨_, hide rfl⟩
  obtain ⟨l1, hl1⟩ : ∃ l1, Hid ((rdX n (L.drop m) e).2.1 = l1) := ⟨_, hide rfl⟩
  obtain ⟨e1, he1⟩ : ∃ e1, Hid ((rdX n (L.drop m) e).2.2 = e1) := ⟨_, hide rfl⟩
  rw [hX.out, hl1.out, he1.out] at HU ⊢
  go_enter Tryd.func49, Tryd.ntmps49
  go_wp2_with fail
  first
    | (go_region_with (go_at_call 71; refine (HU.out (Wd w on 2 x n).drew HD.out.drew HG.out.drew).mono ?_; rintro en w1 ⟨rfl, hd1⟩; have HD1 := hide hd1.undrew; obtain ⟨k0, k1, k2, k3⟩ := got_kept hd1.undrew.2.only hrl; have k4 := k3 0; clear hd1))
    | (refine (HU.out (Wd w on 2 x n) HD.out HG.out).mono ?_; rintro en w1 ⟨rfl, hd1⟩; have HD1 := hide hd1; obtain ⟨k0, k1, k2, k3⟩ := got_kept hd1.2.only hrl; have k4 := k3 0; clear hd1)
  all_goals
    go_wp2_with fail
    refine bodyPost_ret (v := gv 0 X 0) ?_ rfl ⟨rfl, fin_after HD1.out (fin_below _ _ _) hrl⟩
    simp [results, Tryd.results49, go_sem, gv, k0, k1, k2]
set_option maxRecDepth 100000 in
set_option maxHeartbeats 1000000 in
theorem tell_3 (q o g m : Nat) (v : Value) (L : List UInt8) (e on x n : Int) (w : World) (hf : Rf w q o v m e) (hg : RG w g v L) (_hgq : g ≠ q) (hmL : m ≤ L.length) (_he : 0 ≤ e) (_h24 : e ≤ 24) (hl : L.length ≤ 140737488355328) :
    Calls Tryd.prog 49 #[.pointer (some ⟨q, o, none⟩), .agg #[.int .i64 on, .int .i64 3, .int .u64 x, .int .i64 n]] w fun en w' => en = .returned (gv (IntKind.u64.wrap (((L.drop m).length : Int))) [] 0) ∧ After w w' q o v L (L.drop m) e := by
  have HD := hide (hf.later (Wd.below w on 3 x n))
  have HU := hide (refLeft_any q o g m v L e (Wd w on 3 x n) HD.out (hg.later (Wd.below w on 3 x n)) hmL hl)
  have hrl := hf.lt
  have HA : Hid (∀ W, (W = (Wd w on 3 x n) ∨ W = (Wd w on 3 x n).drew) → After (Wd w on 3 x n) W q o v L (L.drop m) e) := hide (fun W hW => by
    rcases hW with rfl | rfl
    · exact ⟨⟨m, hmL, rfl, HD.out⟩, Ch.refl _ _ _⟩
    · exact ⟨⟨m, hmL, rfl, HD.out.drew⟩, Ch.drew _ _ _⟩)
  clear hf hg
  obtain ⟨X, hX⟩ : ∃ X, Hid ((((L.drop m).length : Int)) = X) := ⟨_, hide rfl⟩
  rw [hX.out] at HU
  rw [hX.out]
  go_enter Tryd.func49, Tryd.ntmps49
  go_wp2_with fail
  refine HU.out.mono ?_
  rintro en w1 ⟨rfl, hw⟩
  have HD1 := hide (HA.out w1 (.inr hw))
  obtain ⟨k0, k1, k2, k3⟩ := got_kept HD1.out.2.only hrl
  have k4 := k3 0
  clear hw
  go_wp2_with fail
  refine bodyPost_ret (v := gv (IntKind.u64.wrap X) [] 0) ?_ rfl ⟨rfl, fin_after HD1.out (fin_below _ _ _) hrl⟩
  simp [results, Tryd.results49, go_sem, gv, k0, k1, k2]
theorem after_below {w W : World} {q o m : Nat} {v : Value} {L : List UInt8} {e : Int} (h : Rf w q o v m e) (hm : m ≤ L.length) (hb : Below w.heap.size w W) : After w W q o v L (L.drop m) e := by
  have hbq := hb.block q h.lt
  exact ⟨⟨m, hm, rfl, h.keep hbq⟩, ⟨hb.os, hb.tape, hb.output, hb.size, fun k hk _ => hb.block k hk⟩, fun j _ _ => World.cell?_of_block (w := w) hbq, fun j => World.frozen?_of_block (w := w) hbq⟩
set_option maxRecDepth 100000 in
set_option maxHeartbeats 1000000 in
theorem tell_4 (q o g m : Nat) (v : Value) (L : List UInt8) (e on x n : Int) (w : World) (hf : Rf w q o v m e) (_hg : RG w g v L) (_hgq : g ≠ q) (hmL : m ≤ L.length) (_he : 0 ≤ e) (_h24 : e ≤ 24) (_hl : L.length ≤ 140737488355328) :
    Calls Tryd.prog 49 #[.pointer (some ⟨q, o, none⟩), .agg #[.int .i64 on, .int .i64 4, .int .u64 x, .int .i64 n]] w fun en w' => en = .returned (gv 0 [] e) ∧ After w w' q o v L (L.drop m) e := by
  have HF := hide hf
  have c2 := hf.c2
  have hrl := hf.lt
  clear hf
  go_enter Tryd.func49, Tryd.ntmps49
  go_wp2_with fail
  refine bodyPost_ret (v := gv 0 [] e) ?_ rfl ⟨rfl, after_below HF.out hmL (((Below.refl _ _).alloc (Nat.le_refl _) _).alloc (by simp) _)⟩
  simp [results, Tryd.results49, go_sem, gv]
set_option maxRecDepth 100000 in
set_option maxHeartbeats 1000000 in
theorem tell_5 (q o g m : Nat) (v : Value) (L : List UInt8) (e on kd x n : Int) (w : World) (hf : Rf w q o v m e) (hg : RG w g v L) (_hgq : g ≠ q) (hmL : m ≤ L.length) (_he : 0 ≤ e) (_h24 : e ≤ 24) (hl : L.length ≤ 140737488355328) (n0 : kd ≠ 0) (n1 : kd ≠ 1) (n2 : kd ≠ 2) (n3 : kd ≠ 3) (n4 : kd ≠ 4) :
    Calls Tryd.prog 49 #[.pointer (some ⟨q, o, none⟩), .agg #[.int .i64 on, .int .i64 kd, .int .u64 x, .int .i64 n]] w fun en w' => en = .returned (gv 0 [] (endE (L.drop m) e)) ∧ After w w' q o v L (L.drop m) e := by
  have HD := hide (hf.later (Wd.below w on kd x n))
  have HU := hide (refEnd_any q o g m v L e (Wd w on kd x n) HD.out (hg.later (Wd.below w on kd x n)) hmL hl)
  have hrl := hf.lt
  have HA : Hid (∀ W, (W = (Wd w on kd x n) ∨ W = (Wd w on kd x n).drew) → After (Wd w on kd x n) W q o v L (L.drop m) e) := hide (fun W hW => by
    rcases hW with rfl | rfl
    · exact ⟨⟨m, hmL, rfl, HD.out⟩, Ch.refl _ _ _⟩
    · exact ⟨⟨m, hmL, rfl, HD.out.drew⟩, Ch.drew _ _ _⟩)
  clear hf hg
  have d0 : (kd == 0) = false := by simpa using n0
  have d1 : (kd == 1) = false := by simpa using n1
  have d2 : (kd == 2) = false := by simpa using n2
  have d3 : (kd == 3) = false := by simpa using n3
  have d4 : (kd == 4) = false := by simpa using n4
  obtain ⟨X, hX⟩ : ∃ X, Hid ((endE (L.drop m) e) = X) := ⟨_, hide rfl⟩
  rw [hX.out] at HU
  rw [hX.out]
  go_enter Tryd.func49, Tryd.ntmps49
  go_wp2_with fail
  refine HU.out.mono ?_
  rintro en w1 ⟨rfl, hw⟩
  have HD1 := hide (HA.out w1 hw)
  obtain ⟨k0, k1, k2, k3⟩ := got_kept HD1.out.2.only hrl
  have k4 := k3 2
  clear hw
  go_wp2_with fail
  refine bodyPost_ret (v := gv 0 [] X) ?_ rfl ⟨rfl, fin_after HD1.out (fin_below _ _ _) hrl⟩
  simp [results, Tryd.results49, go_sem, gv, k0, k1, k2]
end Go.Proofs.YthalmfbcdkihgaaDoor
