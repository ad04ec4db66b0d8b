/-
  My own text: a store in memory; the shard of a key; the chain under a key.
-/
import Derived.Test.YtnjjehlfgoggfaaDoorSM1
import Derived.Test.YtnjjehlfgoggfaaDoorHC6
import Derived.Test.YtnjjehlfgoggfaaDoorGr0
import Derived.Test.YtnjjehlfgoggfaaDoorQT2
import Derived.Deep.OwnRows
namespace Go.Proofs.YtnjjehlfgoggfaaDoor
open Go.RowKit Go.Extern

/-- A store in memory: n shards, each with the block of its map and what that holds. -/
structure ST (W : World) (sb n : Nat) (m : Nat → Nat × List (Ky × Nat)) : Prop where
  hdr : ∃ g x1 x2 x3, W.heap[sb]? = some (.cells #[.slice (some ⟨g, 0, none⟩) n n, x1, x2, x3] 49 (0, 0)) ∧ ∃ arr, W.heap[g]? = some (.cells arr 50 (0, 0)) ∧ ∀ i, i < n → arr[i]? = some (.map (some (m i).1))
  mb : ∀ i, i < n → MB W (m i).1 (m i).2
  ne : ∀ i j, i < n → j < n → i ≠ j → (m i).1 ≠ (m j).1
  lo : 1 ≤ n
  hi : n ≤ 64
theorem ST.later {W W' : World} {sb n : Nat} {m : Nat → Nat × List (Ky × Nat)} (h : ST W sb n m) (hb : Below W.heap.size W W') : ST W' sb n m := by
  obtain ⟨g, x1, x2, x3, h1, arr, h2, h3⟩ := h.hdr
  exact ⟨⟨g, x1, x2, x3, (hb.block sb (Array.getElem?_eq_some_iff.1 h1).1).trans h1, arr, (hb.block g (Array.getElem?_eq_some_iff.1 h2).1).trans h2, h3⟩, fun i hi => (h.mb i hi).later hb, h.ne, h.lo, h.hi⟩
/-- The shard of a key. -/
def si (k : Ky) (n : Nat) : Nat := (shF k.1 k.2 (n : Int)).toNat
theorem cnt_self {n : Nat} (h1 : 1 ≤ n) (h2 : n ≤ 64) : cnt (n : Int) = (n : Int) := by unfold cnt; rw [if_neg (by omega), if_neg (by omega)]
theorem si_eq (k : Ky) (n : Nat) : (si k n : Int) = shF k.1 k.2 (n : Int) := by
  have := shF_lo k.1 k.2 (n : Int); unfold si; omega
theorem si_lt (k : Ky) {n : Nat} (h1 : 1 ≤ n) (h2 : n ≤ 64) : si k n < n := by
  have a := shF_hi k.1 k.2 (n : Int)
  have b := si_eq k n
  rw [cnt_self h1 h2] at a; omega
set_option maxRecDepth 100000 in
set_option maxHeartbeats 1000000 in
theorem shardOf_any (k : Ky) (sb n : Nat) (m : Nat → Nat × List (Ky × Nat)) (w : World) (h : ST w sb n m) :
    Calls Tryd.prog 35 #[.pointer (some ⟨sb, 0, none⟩), .agg #[.int .i64 k.1, .int .i64 k.2]] w fun e w' => e = .returned (.map (some (m (si k n)).1)) ∧ Below w.heap.size w w' := by
  obtain ⟨W1, hW1⟩ : ∃ W1, w.alloc (.cells #[.int .i64 k.1, .int .i64 k.2] 29) = W1 := ⟨_, rfl⟩
  have hb1 : Below w.heap.size w W1 := by rw [← hW1]; exact (Below.refl _ _).alloc (Nat.le_refl _) _
  have hk1 : W1.heap[w.heap.size]? = some (.cells #[.int .i64 k.1, .int .i64 k.2] 29 (0, 0)) := by rw [← hW1]; exact alloc_newV w _
  have HB1 := hide hb1
  have h1 := h.later hb1
  have hl := si_lt k h.lo h.hi
  have hi := si_eq k n
  have HSH := hide (fun W : Gr W1 => shard_any k.1 k.2 (n : Int) W.1)
  rw [← hi] at HSH
  obtain ⟨g, x1, x2, x3, q1, arr, q2, q3⟩ := h1.hdr
  have HX0 := hide ((Below.refl W1.heap.size W1).drew)
  haveI : Nonempty (Gr W1) := ⟨⟨_, HX0.out⟩⟩
  have z0 : ∀ x : Gr W1, x.1.cell? ⟨sb, 0, none⟩ = some (.slice (some ⟨g, 0, none⟩) n n) := fun x => by rw [cell_of_row x.1 sb 0 _ _ _ ((x.2.block sb (Array.getElem?_eq_some_iff.1 q1).1).trans q1)]; rfl
  have y0 : ∀ x : Gr W1, x.1.cell? ⟨w.heap.size, 0, none⟩ = some (.int .i64 k.1) := fun x => by rw [cell_of_row x.1 _ 0 _ _ _ ((x.2.block _ (Array.getElem?_eq_some_iff.1 hk1).1).trans hk1)]; rfl
  have y1 : ∀ x : Gr W1, x.1.cell? ⟨w.heap.size, 1, none⟩ = some (.int .i64 k.2) := fun x => by rw [cell_of_row x.1 _ 1 _ _ _ ((x.2.block _ (Array.getElem?_eq_some_iff.1 hk1).1).trans hk1)]; rfl
  have z2 : ∀ x : Gr W1, x.1.cell? ⟨g, si k n, none⟩ = some (.map (some (m (si k n)).1)) := fun x => by rw [cell_of_row x.1 g _ _ _ _ ((x.2.block g (Array.getElem?_eq_some_iff.1 q2).1).trans q2)]; exact q3 _ hl
  obtain ⟨i, hie⟩ : ∃ i, i = si k n := ⟨_, rfl⟩
  rw [← hie] at HSH z2 hl ⊢
  have k0 : (0 : Int) ≤ (i : Int) := by omega
  have k1 : (i : Int) < (n : Int) := by omega
  generalize (m i).1 = mi at *
  clear h h1 q1 q2 q3 hk1 hi hie hb1
  go_enter Tryd.func35, Tryd.ntmps35
  go_wp2_with fail
  refine region_class (C := fun w' => ∃ x : Gr W1, w' = x.1) (by kernel_rfl) (by kernel_rfl) ⟨⟨_, HX0.out⟩, rfl⟩ ?_
  repeat (first
    | go_big_quiet_skip
    | (go_big_quiet_want; (go_big_quiet_op; first
        | go_big_quiet_on
        | (apply Exists.intro; refine ⟨fun x => ?_, ?_⟩; (go_at_call 53; exact x.call (HSH.out x)); go_big_quiet_on))))
  refine wpQuiet_nil ?_
  rintro w2 ⟨x, rfl⟩
  have B2 := hide (HB1.out.trans (x.2.mono HB1.out.size))
  obtain ⟨w2, hx⟩ := x
  dsimp only at B2 ⊢
  clear hx z0 z2 y0 y1 HSH this HX0 hW1
  go_wp2_with fail
  go_ret
  exact ⟨rfl, B2.out⟩
set_option maxRecDepth 100000 in
set_option maxHeartbeats 1000000 in
theorem under_yes (k : Ky) (c sb n : Nat) (m : Nat → Nat × List (Ky × Nat)) (w : World) (h : ST w sb n m) (hk : KOK k) (hc : lk (m (si k n)).2 k = some c) :
    Calls Tryd.prog 30 #[.pointer (some ⟨sb, 0, none⟩), .agg #[.int .i64 k.1, .int .i64 k.2]] w fun e w' => e = .returned (.pointer (some ⟨c, 0, none⟩)) ∧ Below w.heap.size w w' := by
  obtain ⟨W1, hW1⟩ : ∃ W1, w.alloc (.cells #[.int .i64 k.1, .int .i64 k.2] 29) = W1 := ⟨_, rfl⟩
  have hb1 : Below w.heap.size w W1 := by rw [← hW1]; exact (Below.refl _ _).alloc (Nat.le_refl _) _
  have hk1 : W1.heap[w.heap.size]? = some (.cells #[.int .i64 k.1, .int .i64 k.2] 29 (0, 0)) := by rw [← hW1]; exact alloc_newV w _
  have HB1 := hide hb1
  have h1 := h.later hb1
  have hl := si_lt k h.lo h.hi
  have HSH := hide (fun W : Gr W1 => shardOf_any k sb n m W.1 (h1.later W.2))
  have HX0 := hide ((Below.refl W1.heap.size W1).drew)
  haveI : Nonempty (Gr W1) := ⟨⟨_, HX0.out⟩⟩
  have y0 : ∀ x : Gr W1, x.1.cell? ⟨w.heap.size, 0, none⟩ = some (.int .i64 k.1) := fun x => by rw [cell_of_row x.1 _ 0 _ _ _ ((x.2.block _ (Array.getElem?_eq_some_iff.1 hk1).1).trans hk1)]; rfl
  have y1 : ∀ x : Gr W1, x.1.cell? ⟨w.heap.size, 1, none⟩ = some (.int .i64 k.2) := fun x => by rw [cell_of_row x.1 _ 1 _ _ _ ((x.2.block _ (Array.getElem?_eq_some_iff.1 hk1).1).trans hk1)]; rfl
  have yl : ∀ x : Gr W1, (Instr.lookup 50 (.map (some (m (si k n)).1)) (.agg #[.int .i64 k.1, .int .i64 k.2]) true).run Tryd.prog x.1 = .ok (.tuple #[.pointer (some ⟨c, 0, none⟩), .bool true]) x.1 := fun x => ((h1.later x.2).mb _ hl).look_yes hk hc
  generalize (m (si k n)).1 = mi at *
  clear h h1 hk1 hb1 hc hl
  go_enter Tryd.func30, Tryd.ntmps30
  go_wp2_with fail
  refine region_class (C := fun w' => ∃ x : Gr W1, w' = x.1) (by kernel_rfl) (by kernel_rfl) ⟨⟨_, HX0.out⟩, rfl⟩ ?_
  repeat (first
    | go_big_quiet_skip
    | (go_big_quiet_want; (go_big_quiet_op; first
        | go_big_quiet_on
        | (apply Exists.intro; refine ⟨fun x => ?_, ?_⟩; (go_at_call 35; exact x.call (HSH.out x)); go_big_quiet_on))))
  refine wpQuiet_nil ?_
  rintro w2 ⟨x, rfl⟩
  have B2 := hide (HB1.out.trans (x.2.mono HB1.out.size))
  obtain ⟨w2, hx⟩ := x
  dsimp only at B2 ⊢
  clear hx y0 y1 yl HSH this HX0 hW1
  go_wp2_with fail
  go_ret
  exact ⟨rfl, B2.out⟩
set_option maxRecDepth 100000 in
set_option maxHeartbeats 1000000 in
theorem under_no (k : Ky) (sb n : Nat) (m : Nat → Nat × List (Ky × Nat)) (w : World) (h : ST w sb n m) (hk : KOK k) (hc : lk (m (si k n)).2 k = none) :
    Calls Tryd.prog 30 #[.pointer (some ⟨sb, 0, none⟩), .agg #[.int .i64 k.1, .int .i64 k.2]] w fun e w' => ∃ c, w.heap.size ≤ c ∧ e = .returned (.pointer (some ⟨c, 0, none⟩)) ∧ CH w' c c [] ∧ Below w.heap.size w w' := by
  obtain ⟨W1, hW1⟩ : ∃ W1, w.alloc (.cells #[.int .i64 k.1, .int .i64 k.2] 29) = W1 := ⟨_, rfl⟩
  have hb1 : Below w.heap.size w W1 := by rw [← hW1]; exact (Below.refl _ _).alloc (Nat.le_refl _) _
  have hk1 : W1.heap[w.heap.size]? = some (.cells #[.int .i64 k.1, .int .i64 k.2] 29 (0, 0)) := by rw [← hW1]; exact alloc_newV w _
  have HB1 := hide hb1
  have h1 := h.later hb1
  have hl := si_lt k h.lo h.hi
  have HSH := hide (fun W : Gr W1 => shardOf_any k sb n m W.1 (h1.later W.2))
  have HNW := hide (fun W : World => new_any W)
  have HX0 := hide ((Below.refl W1.heap.size W1).drew)
  haveI : Nonempty (Gr W1) := ⟨⟨_, HX0.out⟩⟩
  have y0 : ∀ x : Gr W1, x.1.cell? ⟨w.heap.size, 0, none⟩ = some (.int .i64 k.1) := fun x => by rw [cell_of_row x.1 _ 0 _ _ _ ((x.2.block _ (Array.getElem?_eq_some_iff.1 hk1).1).trans hk1)]; rfl
  have y1 : ∀ x : Gr W1, x.1.cell? ⟨w.heap.size, 1, none⟩ = some (.int .i64 k.2) := fun x => by rw [cell_of_row x.1 _ 1 _ _ _ ((x.2.block _ (Array.getElem?_eq_some_iff.1 hk1).1).trans hk1)]; rfl
  have yl : ∀ x : Gr W1, (Instr.lookup 50 (.map (some (m (si k n)).1)) (.agg #[.int .i64 k.1, .int .i64 k.2]) true).run Tryd.prog x.1 = .ok (.tuple #[.pointer none, .bool false]) x.1 := fun x => ((h1.later x.2).mb _ hl).look_no hk hc
  generalize (m (si k n)).1 = mi at *
  clear h h1 hk1 hb1 hc hl
  go_enter Tryd.func30, Tryd.ntmps30
  go_wp2_with fail
  refine region_class (C := fun w' => ∃ x : Gr W1, w' = x.1) (by kernel_rfl) (by kernel_rfl) ⟨⟨_, HX0.out⟩, rfl⟩ ?_
  repeat (first
    | go_big_quiet_skip
    | (go_big_quiet_want; (go_big_quiet_op; first
        | go_big_quiet_on
        | (apply Exists.intro; refine ⟨fun x => ?_, ?_⟩; (go_at_call 35; exact x.call (HSH.out x)); go_big_quiet_on))))
  refine wpQuiet_nil ?_
  rintro w2 ⟨x, rfl⟩
  have B2 := hide (HB1.out.trans (x.2.mono HB1.out.size))
  obtain ⟨w2, hx⟩ := x
  dsimp only at B2 ⊢
  clear hx y0 y1 yl HSH this HX0 hW1
  go_wp2_with fail
  refine (HNW.out _).mono ?_
  rintro e w3 ⟨rfl, hc3, hb3⟩
  have C3 := hide hc3
  have B3 := hide (B2.out.trans (hb3.mono B2.out.size))
  have S3 := hide B2.out.size
  clear hc3 hb3
  go_wp2_with fail
  go_ret
  exact ⟨_, S3.out, rfl, C3.out, B3.out⟩
end Go.Proofs.YtnjjehlfgoggfaaDoor
