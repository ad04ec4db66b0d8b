/-
  My own text: a call of a reader of the program's, and of the document's.
-/
import Derived.Test.YthalmfbcdkihgaaDoorWQ3
import Derived.Test.YthalmfbcdkihgaaDoorWPick
namespace Go.Proofs.YthalmfbcdkihgaaDoor
open Go.RowKit Go.Extern

theorem num_errV (e : Int) (w : World) (h1 : 0 ≤ e) (h2 : e ≤ 24) : Calls Tryd.prog 32 #[errV e] w fun en w' => en = .returned (.int .i64 e) ∧ w' = w := by
  by_cases h : e = 0
  · subst h; rw [errV_zero]; exact num_nil w
  · rw [errV_pos (by omega)]; exact num_errno e w (by omega) h2
set_option maxRecDepth 100000 in
theorem number_any (e : Int) (w : World) (h1 : 0 ≤ e) (h2 : e ≤ 24) (hE : ErrType w) :
    Calls Tryd.prog 51 #[errV e] w fun en w' => en = .returned (.int .i64 e) ∧ Below w.heap.size w w' := by
  have HN := hide (num_errV e w h1 h2)
  have HP := hide (plain_errV e e w h1 h2 hE)
  rw [show (e == e) = true by simp] at HP
  obtain ⟨EV, hEV⟩ : ∃ EV, Hid (errV e = EV) := ⟨_, hide rfl⟩
  rw [hEV.out] at HN HP
  rw [hEV.out]
  clear hE
  go_enter Tryd.func51, Tryd.ntmps51
  go_wp2_with fail
  refine HN.out.mono ?_
  rintro en w1 ⟨rfl, hw⟩
  obtain rfl := hw.symm
  go_wp2_with fail
  refine HP.out.mono ?_
  rintro en w1 ⟨rfl, hb⟩
  have HB := hide hb
  clear hb
  go_wp2_with fail
  go_ret
  exact ⟨rfl, HB.out⟩
/-- What a call answers, as a value. -/
def gv (x : Int) (s : List UInt8) (e : Int) : Value := .agg #[.int .u64 x, .string ⟨s.toArray⟩, .int .i64 e]
/-- What a call answers; what is left, and the error behind it. -/
def ansX (kd x : Int) (l : List UInt8) (e : Int) : Int := if kd = 0 then (rdU x l e).1 else if kd = 1 then IntKind.u64.wrap (rdI l e).1 else if kd = 3 then IntKind.u64.wrap (l.length : Int) else 0
def ansS (kd n : Int) (l : List UInt8) (e : Int) : List UInt8 := if kd = 2 then (rdX n l e).1 else []
def ansE (kd : Int) (l : List UInt8) (e : Int) : Int := if kd = 0 ∨ kd = 1 ∨ kd = 2 ∨ kd = 3 then 0 else if kd = 4 then e else endE l e
def nxt (kd x n : Int) (l : List UInt8) (e : Int) : List UInt8 × Int := if kd = 0 then (rdU x l e).2 else if kd = 1 then (rdI l e).2 else if kd = 2 then (rdX n l e).2 else (l, e)
/-- The world of a call with its two blocks. -/
def Wd (w : World) (on kd x n : Int) : World := (w.alloc (.cells #[.int .i64 on, .int .i64 kd, .int .u64 x, .int .i64 n] 59)).alloc (.cells #[.int .u64 0, .string ⟨#[]⟩, .int .i64 0] 94)
theorem Wd.below (w : World) (on kd x n : Int) : Below w.heap.size w (Wd w on kd x n) := ((Below.refl _ _).alloc (Nat.le_refl _) _).alloc (by simp) _
theorem Rd.setOther {w : World} {t r g b i : Nat} {l : List UInt8} {e : Int} (h : Rd w t r g l e) (hr : r ≠ b) (hg : l ≠ [] → g ≠ b) (u : Value) : Rd (w.setCell ⟨b, i, none⟩ u) t r g l e :=
  h.keep (by simp) (Below.heap_setCell _ _ _ _ hr) (fun hl _ => Below.heap_setCell _ _ _ _ (hg hl))
/-- Behind a call of the reader, the block for the answer is as it was. -/
theorem got_kept {w w1 : World} {r : Nat} {on kd x n : Int} (ho : Only r (Wd w on kd x n) w1) (hr : r < w.heap.size) :
    w1.cell? ⟨w.heap.size + 1, 0, none⟩ = some (.int .u64 0) ∧ w1.cell? ⟨w.heap.size + 1, 1, none⟩ = some (.string ⟨#[]⟩) ∧ w1.cell? ⟨w.heap.size + 1, 2, none⟩ = some (.int .i64 0) ∧ ∀ j, w1.frozen? ⟨w.heap.size + 1, j, none⟩ = false := by
  have hs : w.heap.size + 1 < (Wd w on kd x n).heap.size := by unfold Wd; simp
  have hb := ho.block (w.heap.size + 1) hs (by omega)
  have hc : ∀ j, w1.cell? ⟨w.heap.size + 1, j, none⟩ = (Wd w on kd x n).cell? ⟨w.heap.size + 1, j, none⟩ := fun j => World.cell?_of_block (w := Wd w on kd x n) hb
  have hf : ∀ j, w1.frozen? ⟨w.heap.size + 1, j, none⟩ = (Wd w on kd x n).frozen? ⟨w.heap.size + 1, j, none⟩ := fun j => World.frozen?_of_block (w := Wd w on kd x n) hb
  refine ⟨(hc 0).trans ?_, (hc 1).trans ?_, (hc 2).trans ?_, fun j => (hf j).trans ?_⟩ <;> (unfold Wd; simp)
theorem len_ne {l m : List UInt8} (h : m.length ≤ l.length) (hm : m ≠ []) : l ≠ [] := by
  intro e
  rw [e] at h
  exact hm (List.length_eq_zero_iff.1 (by simpa using h))
theorem fin_only {w w1 W : World} {r : Nat} {on kd x n : Int} (ho : Only r (Wd w on kd x n) w1) (hb : Below w.heap.size w1 W) : Only r w W := by
  have h := Wd.below w on kd x n
  refine ⟨hb.os.trans (ho.os.trans h.os), hb.tape.trans (ho.tape.trans h.tape), hb.output.trans (ho.output.trans h.output), Nat.le_trans h.size (Nat.le_trans ho.size hb.size), fun k hk hr => ?_⟩
  exact (hb.block k hk).trans ((ho.block k (Nat.lt_of_lt_of_le hk h.size) hr).trans (h.block k hk))
theorem fin_rd {w w1 W : World} {t r g : Nat} {l : List UInt8} {e : Int} (hd : Rd w1 t r g l e) (hb : Below w.heap.size w1 W) (hr : r < w.heap.size) (hg : l ≠ [] → g < w.heap.size) : Rd W t r g l e :=
  hd.keep hb.size (hb.block r hr) (fun hl _ => hb.block g (hg hl))
theorem fin_below {w w1 : World} (u0 u1 u2 : Value) : Below w.heap.size w1 (((w1.setCell ⟨w.heap.size + 1, 0, none⟩ u0).setCell ⟨w.heap.size + 1, 1, none⟩ u1).setCell ⟨w.heap.size + 1, 2, none⟩ u2) :=
  (((Below.refl _ _).setCell (p := ⟨w.heap.size + 1, 0, none⟩) (Nat.le_succ _) _).setCell (p := ⟨w.heap.size + 1, 1, none⟩) (Nat.le_succ _) _).setCell (p := ⟨w.heap.size + 1, 2, none⟩) (Nat.le_succ _) _
theorem Only.undrew {r : Nat} {w w1 : World} (h : Only r w.drew w1) : Only r w w1 := ⟨h.os, h.tape, h.output, h.size, h.block⟩
set_option maxRecDepth 100000 in
set_option maxHeartbeats 1000000 in
theorem ask_0 (t r g : Nat) (l : List UInt8) (e on x n : Int) (w : World) (hd : Rd w t r g l e) (he : 0 ≤ e) (h24 : e ≤ 24) (hl : l.length ≤ 140737488355328) :
    Calls Tryd.prog 48 #[.pointer (some ⟨r, 0, none⟩), .agg #[.int .i64 on, .int .i64 0, .int .u64 x, .int .i64 n]] w fun en w' => en = .returned (gv (rdU x l e).1 [] 0) ∧ Rd w' t r g (rdU x l e).2.1 (rdU x l e).2.2 ∧ Only r w w' := by
  have HU := hide (fun (W : World) (h : Rd W t r g l e) => srcUint_any x t r g l e W h he hl)
  have HD := hide (hd.later (Wd.below w on 0 x n))
  have hrl := hd.lt
  have HGL : Hid ((rdU x l e).2.1 ≠ [] → g < w.heap.size) := hide (fun h => hd.glt (len_ne (rdU_rng x l e he h24).2.2.2.2 h))
  clear hd
  obtain ⟨X, hX⟩ : ∃ X, Hid ((rdU x l e).1 = X) := ⟨_, hide rfl⟩
  obtain ⟨l1, hl1⟩ : ∃ l1, Hid ((rdU x l e).2.1 = l1) := ⟨_, hide rfl⟩
  obtain ⟨e1, he1⟩ : ∃ e1, Hid ((rdU x l e).2.2 = e1) := ⟨_, hide rfl⟩
  rw [hX.out, hl1.out, he1.out] at HU ⊢
  rw [hl1.out] at HGL
  go_enter Tryd.func48, Tryd.ntmps48
  go_wp2_with fail
  first
    | (go_region_with (go_at_call 17; refine (HU.out (Wd w on 0 x n).drew (HD.out.keep (Nat.le_refl _) rfl (fun _ _ => rfl))).mono ?_; rintro en w1 ⟨rfl, hd1, ho1⟩; obtain ⟨k0, k1, k2, k3⟩ := got_kept ho1.undrew hrl; have k4 := k3 0; have HD1 := hide hd1; have HO1 := hide ho1.undrew; clear hd1 ho1))
    | (refine (HU.out (Wd w on 0 x n) HD.out).mono ?_; rintro en w1 ⟨rfl, hd1, ho1⟩; obtain ⟨k0, k1, k2, k3⟩ := got_kept ho1 hrl; have k4 := k3 0; have HD1 := hide hd1; have HO1 := hide ho1; clear hd1 ho1)
  all_goals
    go_wp2_with fail
    refine bodyPost_ret (v := gv X [] 0) ?_ rfl ⟨rfl, fin_rd HD1.out (fin_below _ _ _) hrl HGL.out, fin_only HO1.out (fin_below _ _ _)⟩
    simp [results, Tryd.results48, go_sem, gv, k0, k1, k2]
set_option maxRecDepth 100000 in
set_option maxHeartbeats 1000000 in
theorem ask_1 (t r g : Nat) (l : List UInt8) (e on x n : Int) (w : World) (hd : Rd w t r g l e) (he : 0 ≤ e) (h24 : e ≤ 24) (hl : l.length ≤ 140737488355328) :
    Calls Tryd.prog 48 #[.pointer (some ⟨r, 0, none⟩), .agg #[.int .i64 on, .int .i64 1, .int .u64 x, .int .i64 n]] w fun en w' => en = .returned (gv (IntKind.u64.wrap (rdI l e).1) [] 0) ∧ Rd w' t r g (rdI l e).2.1 (rdI l e).2.2 ∧ Only r w w' := by
  have HU := hide (fun (W : World) (h : Rd W t r g l e) => readInt_any t r g l e W h he h24 hl)
  have HD := hide (hd.later (Wd.below w on 1 x n))
  have hrl := hd.lt
  have HGL : Hid ((rdI l e).2.1 ≠ [] → g < w.heap.size) := hide (fun h => hd.glt (len_ne (rdU_rng 18446744073709551615 l e he h24).2.2.2.2 h))
  clear hd
  obtain ⟨X, hX⟩ : ∃ X, Hid ((rdI l e).1 = X) := ⟨_, hide rfl⟩
  obtain ⟨l1, hl1⟩ : ∃ l1, Hid ((rdI l e).2.1 = l1) := ⟨_, hide rfl⟩
  obtain ⟨e1, he1⟩ : ∃ e1, Hid ((rdI l e).2.2 = e1) := ⟨_, hide rfl⟩
  rw [hX.out, hl1.out, he1.out] at HU ⊢
  rw [hl1.out] at HGL
  go_enter Tryd.func48, Tryd.ntmps48
  go_wp2_with fail
  first
    | (go_region_with (go_at_call 68; refine (HU.out (Wd w on 1 x n).drew (HD.out.keep (Nat.le_refl _) rfl (fun _ _ => rfl))).mono ?_; rintro en w1 ⟨rfl, hd1, ho1⟩; obtain ⟨k0, k1, k2, k3⟩ := got_kept ho1.undrew hrl; have k4 := k3 0; have HD1 := hide hd1; have HO1 := hide ho1.undrew; clear hd1 ho1))
    | (refine (HU.out (Wd w on 1 x n) HD.out).mono ?_; rintro en w1 ⟨rfl, hd1, ho1⟩; obtain ⟨k0, k1, k2, k3⟩ := got_kept ho1 hrl; have k4 := k3 0; have HD1 := hide hd1; have HO1 := hide ho1; clear hd1 ho1)
  all_goals
    go_wp2_with fail
    refine bodyPost_ret (v := gv (IntKind.u64.wrap X) [] 0) ?_ rfl ⟨rfl, fin_rd HD1.out (fin_below _ _ _) hrl HGL.out, fin_only HO1.out (fin_below _ _ _)⟩
    simp [results, Tryd.results48, go_sem, gv, k0, k1, k2]
set_option maxRecDepth 100000 in
set_option maxHeartbeats 1000000 in
theorem ask_2 (t r g : Nat) (l : List UInt8) (e on x n : Int) (w : World) (hd : Rd w t r g l e) (he : 0 ≤ e) (h24 : e ≤ 24) (hl : l.length ≤ 140737488355328) (hn : n ≤ 9223372036854775807) :
    Calls Tryd.prog 48 #[.pointer (some ⟨r, 0, none⟩), .agg #[.int .i64 on, .int .i64 2, .int .u64 x, .int .i64 n]] w fun en w' => en = .returned (gv 0 (rdX n l e).1 0) ∧ Rd w' t r g (rdX n l e).2.1 (rdX n l e).2.2 ∧ Only r w w' := by
  have HU := hide (fun (W : World) (h : Rd W t r g l e) => readText_any n t r g l e W hn h he h24 hl)
  have HD := hide (hd.later (Wd.below w on 2 x n))
  have hrl := hd.lt
  have HGL : Hid ((rdX n l e).2.1 ≠ [] → g < w.heap.size) := hide (fun h => hd.glt (len_ne (rdX_rng n l e he h24).2.2 h))
  clear hd
  obtain ⟨X, hX⟩ : ∃ X, Hid ((rdX n l e).1 = X) := ⟨_, hide rfl⟩
  obtain ⟨l1, hl1⟩ : ∃ l1, Hid ((rdX n l e).2.1 = l1) := ⟨_, hide rfl⟩
  obtain ⟨e1, he1⟩ : ∃ e1, Hid ((rdX n l e).2.2 = e1) := ⟨_, hide rfl⟩
  rw [hX.out, hl1.out, he1.out] at HU ⊢
  rw [hl1.out] at HGL
  go_enter Tryd.func48, Tryd.ntmps48
  go_wp2_with fail
  first
    | (go_region_with (go_at_call 13; refine (HU.out (Wd w on 2 x n).drew (HD.out.keep (Nat.le_refl _) rfl (fun _ _ => rfl))).mono ?_; rintro en w1 ⟨rfl, hd1, ho1⟩; obtain ⟨k0, k1, k2, k3⟩ := got_kept ho1.undrew hrl; have k4 := k3 0; have HD1 := hide hd1; have HO1 := hide ho1.undrew; clear hd1 ho1))
    | (refine (HU.out (Wd w on 2 x n) HD.out).mono ?_; rintro en w1 ⟨rfl, hd1, ho1⟩; obtain ⟨k0, k1, k2, k3⟩ := got_kept ho1 hrl; have k4 := k3 0; have HD1 := hide hd1; have HO1 := hide ho1; clear hd1 ho1)
  all_goals
    go_wp2_with fail
    refine bodyPost_ret (v := gv 0 X 0) ?_ rfl ⟨rfl, fin_rd HD1.out (fin_below _ _ _) hrl HGL.out, fin_only HO1.out (fin_below _ _ _)⟩
    simp [results, Tryd.results48, go_sem, gv, k0, k1, k2]
set_option maxRecDepth 100000 in
set_option maxHeartbeats 1000000 in
theorem ask_3 (t r g : Nat) (l : List UInt8) (e on x n : Int) (w : World) (hd : Rd w t r g l e) (_he : 0 ≤ e) (_h24 : e ≤ 24) (_hl : l.length ≤ 140737488355328) :
    Calls Tryd.prog 48 #[.pointer (some ⟨r, 0, none⟩), .agg #[.int .i64 on, .int .i64 3, .int .u64 x, .int .i64 n]] w fun en w' => en = .returned (gv (IntKind.u64.wrap (l.length : Int)) [] 0) ∧ Rd w' t r g l e ∧ Only r w w' := by
  have HU := hide (fun (W : World) (h : Rd W t r g l e) => left_any t r g l e W h)
  have HD := hide (hd.later (Wd.below w on 3 x n))
  have hrl := hd.lt
  have HGL : Hid (l ≠ [] → g < w.heap.size) := hide (fun h => hd.glt h)
  clear hd
  obtain ⟨k0, k1, k2, k3⟩ := got_kept (Only.refl r (Wd w on 3 x n)) hrl
  obtain ⟨X, hX⟩ : ∃ X : Int, Hid ((l.length : Int) = X) := ⟨_, hide rfl⟩
  rw [hX.out] at HU ⊢
  go_enter Tryd.func48, Tryd.ntmps48
  go_wp2_with fail
  refine (HU.out (Wd w on 3 x n) HD.out).mono ?_
  rintro en w1 ⟨rfl, hw⟩
  subst hw
  have k4 := k3 0
  go_wp2_with fail
  refine bodyPost_ret (v := gv (IntKind.u64.wrap X) [] 0) ?_ rfl ⟨rfl, fin_rd HD.out (fin_below _ _ _) hrl HGL.out, fin_only (Only.refl _ _) (fin_below _ _ _)⟩
  simp [results, Tryd.results48, go_sem, gv, k0, k1, k2]
theorem endE_rng (l : List UInt8) (e : Int) (he : 0 ≤ e) (h24 : e ≤ 24) : 0 ≤ endE l e ∧ endE l e ≤ 24 := by
  unfold endE
  split
  · exact ⟨by decide, by decide⟩
  · exact ⟨he, h24⟩
set_option maxRecDepth 100000 in
set_option maxHeartbeats 1000000 in
theorem ask_4 (t r g : Nat) (l : List UInt8) (e on x n : Int) (w : World) (hd : Rd w t r g l e) (he : 0 ≤ e) (h24 : e ≤ 24) (_hl : l.length ≤ 140737488355328) (hE : ErrType w) :
    Calls Tryd.prog 48 #[.pointer (some ⟨r, 0, none⟩), .agg #[.int .i64 on, .int .i64 4, .int .u64 x, .int .i64 n]] w fun en w' => en = .returned (gv 0 [] (e)) ∧ Rd w' t r g l e ∧ Only r w w' := by
  have HD := hide (hd.later (Wd.below w on 4 x n))
  have HU := hide (err_any t r g l e (Wd w on 4 x n) HD.out he)
  have HN := hide (number_any (e) (Wd w on 4 x n) he h24 (hE.below (Wd.below w on 4 x n)))
  have hrl := hd.lt
  have HGL : Hid (l ≠ [] → g < w.heap.size) := hide (fun h => hd.glt h)
  clear hd hE
  obtain ⟨EV, hEV⟩ : ∃ EV, Hid (errV (e) = EV) := ⟨_, hide rfl⟩
  rw [hEV.out] at HU HN
  obtain ⟨E, hEq⟩ : ∃ E, Hid ((e) = E) := ⟨_, hide rfl⟩
  rw [hEq.out] at HN
  rw [show gv 0 [] (e) = gv 0 [] E from congrArg (gv 0 []) hEq.out]
  go_enter Tryd.func48, Tryd.ntmps48
  go_wp2_with fail
  refine HU.out.mono ?_
  rintro en w1 ⟨rfl, hw⟩
  subst hw
  go_wp2_with fail
  refine HN.out.mono ?_
  rintro en w1 ⟨rfl, hb⟩
  have HO : Hid (Only r (Wd w on 4 x n) w1) := hide ⟨hb.os, hb.tape, hb.output, hb.size, fun k hk _ => hb.block k hk⟩
  have HD1 := hide (HD.out.later hb)
  obtain ⟨k0, k1, k2, k3⟩ := got_kept HO.out hrl
  have k4 := k3 2
  clear hb
  go_wp2_with fail
  refine bodyPost_ret (v := gv 0 [] E) ?_ rfl ⟨rfl, fin_rd HD1.out (fin_below _ _ _) hrl HGL.out, fin_only HO.out (fin_below _ _ _)⟩
  simp [results, Tryd.results48, go_sem, gv, k0, k1, k2]
set_option maxRecDepth 100000 in
set_option maxHeartbeats 1000000 in
theorem ask_5 (t r g : Nat) (l : List UInt8) (e on kd x n : Int) (w : World) (hd : Rd w t r g l e) (he : 0 ≤ e) (h24 : e ≤ 24) (_hl : l.length ≤ 140737488355328) (hE : ErrType w) (n0 : kd ≠ 0) (n1 : kd ≠ 1) (n2 : kd ≠ 2) (n3 : kd ≠ 3) (n4 : kd ≠ 4) :
    Calls Tryd.prog 48 #[.pointer (some ⟨r, 0, none⟩), .agg #[.int .i64 on, .int .i64 kd, .int .u64 x, .int .i64 n]] w fun en w' => en = .returned (gv 0 [] (endE l e)) ∧ Rd w' t r g l e ∧ Only r w w' := by
  have HD := hide (hd.later (Wd.below w on kd x n))
  have HU := hide (end_any t r g l e (Wd w on kd x n) HD.out he)
  have HN := hide (number_any (endE l e) (Wd w on kd x n) (endE_rng l e he h24).1 (endE_rng l e he h24).2 (hE.below (Wd.below w on kd x n)))
  have hrl := hd.lt
  have HGL : Hid (l ≠ [] → g < w.heap.size) := hide (fun h => hd.glt h)
  clear hd hE
  have d0 : (kd == 0) = false := by simpa using n0
  have d1 : (kd == 1) = false := by simpa using n1
  have d2 : (kd == 2) = false := by simpa using n2
  have d3 : (kd == 3) = false := by simpa using n3
  have d4 : (kd == 4) = false := by simpa using n4
  obtain ⟨EV, hEV⟩ : ∃ EV, Hid (errV (endE l e) = EV) := ⟨_, hide rfl⟩
  rw [hEV.out] at HU HN
  obtain ⟨E, hEq⟩ : ∃ E, Hid ((endE l e) = E) := ⟨_, hide rfl⟩
  rw [hEq.out] at HN
  rw [show gv 0 [] (endE l e) = gv 0 [] E from congrArg (gv 0 []) hEq.out]
  go_enter Tryd.func48, Tryd.ntmps48
  go_wp2_with fail
  refine HU.out.mono ?_
  rintro en w1 ⟨rfl, hw⟩
  subst hw
  go_wp2_with fail
  refine HN.out.mono ?_
  rintro en w1 ⟨rfl, hb⟩
  have HO : Hid (Only r (Wd w on kd x n) w1) := hide ⟨hb.os, hb.tape, hb.output, hb.size, fun k hk _ => hb.block k hk⟩
  have HD1 := hide (HD.out.later hb)
  obtain ⟨k0, k1, k2, k3⟩ := got_kept HO.out hrl
  have k4 := k3 2
  clear hb
  go_wp2_with fail
  refine bodyPost_ret (v := gv 0 [] E) ?_ rfl ⟨rfl, fin_rd HD1.out (fin_below _ _ _) hrl HGL.out, fin_only HO.out (fin_below _ _ _)⟩
  simp [results, Tryd.results48, go_sem, gv, k0, k1, k2]
end Go.Proofs.YthalmfbcdkihgaaDoor
