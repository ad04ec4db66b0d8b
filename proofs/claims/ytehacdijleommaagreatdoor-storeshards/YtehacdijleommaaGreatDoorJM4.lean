/-
  My own text: SM2, SM3, SM4 in one.
-/
import Derived.Test.YtehacdijleommaaGreatDoorJM1
import Derived.Test.YtehacdijleommaaGreatDoorIC6
import Derived.Test.YtehacdijleommaaGreatDoorQT2
import Derived.Test.YtehacdijleommaaGreatDoorQT2
import Derived.Deep.OwnRows
import Derived.Carry
import Derived.Test.YtehacdijleommaaGreatDoorErrV
import Derived.Test.YtehacdijleommaaGreatDoorSM4
namespace Go.Proofs.YtehacdijleommaaGreatDoor.CI
open Go.RowKit Go.Extern

/-- A store in memory: n shards, each with the block of its map and what that holds. -/
structure ST (W : World) (sb n : Nat) (m : Nat → Nat × List (Ky × Nat)) : Prop where
  hdr : ∃ g x1 x2 x3, W.heap[sb]? = some (.cells #[.slice (some ⟨g, 0, none⟩) n n, x1, x2, x3] 50 (0, 0)) ∧ ∃ arr, W.heap[g]? = some (.cells arr 51 (0, 0)) ∧ ∀ i, i < n → arr[i]? = some (.map (some (m i).1))
  mb : ∀ i, i < n → MB W (m i).1 (m i).2
  ne : ∀ i j, i < n → j < n → i ≠ j → (m i).1 ≠ (m j).1
  lo : 1 ≤ n
  hi : n ≤ 64
theorem ST.later {W W' : World} {sb n : Nat} {m : Nat → Nat × List (Ky × Nat)} (h : ST W sb n m) (hb : Below W.heap.size W W') : ST W' sb n m := by
  obtain ⟨g, x1, x2, x3, h1, arr, h2, h3⟩ := h.hdr
  exact ⟨⟨g, x1, x2, x3, (hb.block sb (Array.getElem?_eq_some_iff.1 h1).1).trans h1, arr, (hb.block g (Array.getElem?_eq_some_iff.1 h2).1).trans h2, h3⟩, fun i hi => (h.mb i hi).later hb, h.ne, h.lo, h.hi⟩
set_option maxRecDepth 100000 in
set_option maxHeartbeats 1000000 in
theorem shardOf_any (k : Ky) (sb n : Nat) (m : Nat → Nat × List (Ky × Nat)) (w : World) (h : ST w sb n m) :
    Calls Tryz.prog 58 #[.pointer (some ⟨sb, 0, none⟩), .agg #[.int .i64 k.1, .int .i64 k.2]] w fun e w' => e = .returned (.map (some (m (si k n)).1)) ∧ Below w.heap.size w w' := by
  obtain ⟨W1, hW1⟩ : ∃ W1, w.alloc (.cells #[.int .i64 k.1, .int .i64 k.2] 29) = W1 := ⟨_, rfl⟩
  have hb1 : Below w.heap.size w W1 := by rw [← hW1]; exact (Below.refl _ _).alloc (Nat.le_refl _) _
  have hk1 : W1.heap[w.heap.size]? = some (.cells #[.int .i64 k.1, .int .i64 k.2] 29 (0, 0)) := by rw [← hW1]; exact alloc_newV w _
  have HB1 := hide hb1
  have h1 := h.later hb1
  have hl := si_lt k h.lo h.hi
  have hi := si_eq k n
  have HSH := hide (fun W : Gr W1 => shard_any k.1 k.2 (n : Int) W.1)
  rw [← hi] at HSH
  obtain ⟨g, x1, x2, x3, q1, arr, q2, q3⟩ := h1.hdr
  have HX0 := hide ((Below.refl W1.heap.size W1).drew)
  haveI : Nonempty (Gr W1) := ⟨⟨_, HX0.out⟩⟩
  have z0 : ∀ x : Gr W1, x.1.cell? ⟨sb, 0, none⟩ = some (.slice (some ⟨g, 0, none⟩) n n) := fun x => by rw [cell_of_row x.1 sb 0 _ _ _ ((x.2.block sb (Array.getElem?_eq_some_iff.1 q1).1).trans q1)]; rfl
  have y0 : ∀ x : Gr W1, x.1.cell? ⟨w.heap.size, 0, none⟩ = some (.int .i64 k.1) := fun x => by rw [cell_of_row x.1 _ 0 _ _ _ ((x.2.block _ (Array.getElem?_eq_some_iff.1 hk1).1).trans hk1)]; rfl
  have y1 : ∀ x : Gr W1, x.1.cell? ⟨w.heap.size, 1, none⟩ = some (.int .i64 k.2) := fun x => by rw [cell_of_row x.1 _ 1 _ _ _ ((x.2.block _ (Array.getElem?_eq_some_iff.1 hk1).1).trans hk1)]; rfl
  have z2 : ∀ x : Gr W1, x.1.cell? ⟨g, si k n, none⟩ = some (.map (some (m (si k n)).1)) := fun x => by rw [cell_of_row x.1 g _ _ _ _ ((x.2.block g (Array.getElem?_eq_some_iff.1 q2).1).trans q2)]; exact q3 _ hl
  obtain ⟨i, hie⟩ : ∃ i, i = si k n := ⟨_, rfl⟩
  rw [← hie] at HSH z2 hl ⊢
  have k0 : (0 : Int) ≤ (i : Int) := by omega
  have k1 : (i : Int) < (n : Int) := by omega
  generalize (m i).1 = mi at *
  clear h h1 q1 q2 q3 hk1 hi hie hb1
  go_enter Tryz.func58, Tryz.ntmps58
  go_wp2_with fail
  refine region_class (C := fun w' => ∃ x : Gr W1, w' = x.1) (by kernel_rfl) (by kernel_rfl) ⟨⟨_, HX0.out⟩, rfl⟩ ?_
  repeat (first
    | go_big_quiet_skip
    | (go_big_quiet_want; (go_big_quiet_op; first
        | go_big_quiet_on
        | (apply Exists.intro; refine ⟨fun x => ?_, ?_⟩; (go_at_call 63; exact x.call (HSH.out x)); go_big_quiet_on))))
  refine wpQuiet_nil ?_
  rintro w2 ⟨x, rfl⟩
  have B2 := hide (HB1.out.trans (x.2.mono HB1.out.size))
  obtain ⟨w2, hx⟩ := x
  dsimp only at B2 ⊢
  clear hx z0 z2 y0 y1 HSH this HX0 hW1
  go_wp2_with fail
  go_ret
  exact ⟨rfl, B2.out⟩
set_option maxRecDepth 100000 in
set_option maxHeartbeats 1000000 in
theorem under_yes (k : Ky) (c sb n : Nat) (m : Nat → Nat × List (Ky × Nat)) (w : World) (h : ST w sb n m) (hk : KOK k) (hc : lk (m (si k n)).2 k = some c) :
    Calls Tryz.prog 56 #[.pointer (some ⟨sb, 0, none⟩), .agg #[.int .i64 k.1, .int .i64 k.2]] w fun e w' => e = .returned (.pointer (some ⟨c, 0, none⟩)) ∧ Below w.heap.size w w' := by
  obtain ⟨W1, hW1⟩ : ∃ W1, w.alloc (.cells #[.int .i64 k.1, .int .i64 k.2] 29) = W1 := ⟨_, rfl⟩
  have hb1 : Below w.heap.size w W1 := by rw [← hW1]; exact (Below.refl _ _).alloc (Nat.le_refl _) _
  have hk1 : W1.heap[w.heap.size]? = some (.cells #[.int .i64 k.1, .int .i64 k.2] 29 (0, 0)) := by rw [← hW1]; exact alloc_newV w _
  have HB1 := hide hb1
  have h1 := h.later hb1
  have hl := si_lt k h.lo h.hi
  have HSH := hide (fun W : Gr W1 => shardOf_any k sb n m W.1 (h1.later W.2))
  have HX0 := hide ((Below.refl W1.heap.size W1).drew)
  haveI : Nonempty (Gr W1) := ⟨⟨_, HX0.out⟩⟩
  have y0 : ∀ x : Gr W1, x.1.cell? ⟨w.heap.size, 0, none⟩ = some (.int .i64 k.1) := fun x => by rw [cell_of_row x.1 _ 0 _ _ _ ((x.2.block _ (Array.getElem?_eq_some_iff.1 hk1).1).trans hk1)]; rfl
  have y1 : ∀ x : Gr W1, x.1.cell? ⟨w.heap.size, 1, none⟩ = some (.int .i64 k.2) := fun x => by rw [cell_of_row x.1 _ 1 _ _ _ ((x.2.block _ (Array.getElem?_eq_some_iff.1 hk1).1).trans hk1)]; rfl
  have yl : ∀ x : Gr W1, (Instr.lookup 51 (.map (some (m (si k n)).1)) (.agg #[.int .i64 k.1, .int .i64 k.2]) true).run Tryz.prog x.1 = .ok (.tuple #[.pointer (some ⟨c, 0, none⟩), .bool true]) x.1 := fun x => ((h1.later x.2).mb _ hl).look_yes hk hc
  generalize (m (si k n)).1 = mi at *
  clear h h1 hk1 hb1 hc hl
  go_enter Tryz.func56, Tryz.ntmps56
  go_wp2_with fail
  refine region_class (C := fun w' => ∃ x : Gr W1, w' = x.1) (by kernel_rfl) (by kernel_rfl) ⟨⟨_, HX0.out⟩, rfl⟩ ?_
  repeat (first
    | go_big_quiet_skip
    | (go_big_quiet_want; (go_big_quiet_op; first
        | go_big_quiet_on
        | (apply Exists.intro; refine ⟨fun x => ?_, ?_⟩; (go_at_call 58; exact x.call (HSH.out x)); go_big_quiet_on))))
  refine wpQuiet_nil ?_
  rintro w2 ⟨x, rfl⟩
  have B2 := hide (HB1.out.trans (x.2.mono HB1.out.size))
  obtain ⟨w2, hx⟩ := x
  dsimp only at B2 ⊢
  clear hx y0 y1 yl HSH this HX0 hW1
  go_wp2_with fail
  go_ret
  exact ⟨rfl, B2.out⟩
set_option maxRecDepth 100000 in
set_option maxHeartbeats 1000000 in
theorem under_no (k : Ky) (sb n : Nat) (m : Nat → Nat × List (Ky × Nat)) (w : World) (h : ST w sb n m) (hk : KOK k) (hc : lk (m (si k n)).2 k = none) :
    Calls Tryz.prog 56 #[.pointer (some ⟨sb, 0, none⟩), .agg #[.int .i64 k.1, .int .i64 k.2]] w fun e w' => ∃ c, w.heap.size ≤ c ∧ e = .returned (.pointer (some ⟨c, 0, none⟩)) ∧ CH w' c c [] ∧ Below w.heap.size w w' := by
  obtain ⟨W1, hW1⟩ : ∃ W1, w.alloc (.cells #[.int .i64 k.1, .int .i64 k.2] 29) = W1 := ⟨_, rfl⟩
  have hb1 : Below w.heap.size w W1 := by rw [← hW1]; exact (Below.refl _ _).alloc (Nat.le_refl _) _
  have hk1 : W1.heap[w.heap.size]? = some (.cells #[.int .i64 k.1, .int .i64 k.2] 29 (0, 0)) := by rw [← hW1]; exact alloc_newV w _
  have HB1 := hide hb1
  have h1 := h.later hb1
  have hl := si_lt k h.lo h.hi
  have HSH := hide (fun W : Gr W1 => shardOf_any k sb n m W.1 (h1.later W.2))
  have HNW := hide (fun W : World => new_any W)
  have HX0 := hide ((Below.refl W1.heap.size W1).drew)
  haveI : Nonempty (Gr W1) := ⟨⟨_, HX0.out⟩⟩
  have y0 : ∀ x : Gr W1, x.1.cell? ⟨w.heap.size, 0, none⟩ = some (.int .i64 k.1) := fun x => by rw [cell_of_row x.1 _ 0 _ _ _ ((x.2.block _ (Array.getElem?_eq_some_iff.1 hk1).1).trans hk1)]; rfl
  have y1 : ∀ x : Gr W1, x.1.cell? ⟨w.heap.size, 1, none⟩ = some (.int .i64 k.2) := fun x => by rw [cell_of_row x.1 _ 1 _ _ _ ((x.2.block _ (Array.getElem?_eq_some_iff.1 hk1).1).trans hk1)]; rfl
  have yl : ∀ x : Gr W1, (Instr.lookup 51 (.map (some (m (si k n)).1)) (.agg #[.int .i64 k.1, .int .i64 k.2]) true).run Tryz.prog x.1 = .ok (.tuple #[.pointer none, .bool false]) x.1 := fun x => ((h1.later x.2).mb _ hl).look_no hk hc
  generalize (m (si k n)).1 = mi at *
  clear h h1 hk1 hb1 hc hl
  go_enter Tryz.func56, Tryz.ntmps56
  go_wp2_with fail
  refine region_class (C := fun w' => ∃ x : Gr W1, w' = x.1) (by kernel_rfl) (by kernel_rfl) ⟨⟨_, HX0.out⟩, rfl⟩ ?_
  repeat (first
    | go_big_quiet_skip
    | (go_big_quiet_want; (go_big_quiet_op; first
        | go_big_quiet_on
        | (apply Exists.intro; refine ⟨fun x => ?_, ?_⟩; (go_at_call 58; exact x.call (HSH.out x)); go_big_quiet_on))))
  refine wpQuiet_nil ?_
  rintro w2 ⟨x, rfl⟩
  have B2 := hide (HB1.out.trans (x.2.mono HB1.out.size))
  obtain ⟨w2, hx⟩ := x
  dsimp only at B2 ⊢
  clear hx y0 y1 yl HSH this HX0 hW1
  go_wp2_with fail
  refine (HNW.out _).mono ?_
  rintro e w3 ⟨rfl, hc3, hb3⟩
  have C3 := hide hc3
  have B3 := hide (B2.out.trans (hb3.mono B2.out.size))
  have S3 := hide B2.out.size
  clear hc3 hb3
  go_wp2_with fail
  go_ret
  exact ⟨_, S3.out, rfl, C3.out, B3.out⟩
end Go.Proofs.YtehacdijleommaaGreatDoor.CI
namespace Go.Proofs.YtehacdijleommaaGreatDoor.CI
open Go.RowKit Go.Extern

/-- A store that is being made: k of its maps are there. -/
structure NI (w : World) (sb g n b0 : Nat) (hdr : Array Value) (k : Nat) (V : World) : Prop where
  sz : V.heap.size = b0 + k
  st : V.heap[sb]? = some (.cells hdr 50 (0, 0))
  ar : ∃ arr, V.heap[g]? = some (.cells arr 51 (0, 0)) ∧ arr.size = n ∧ ∀ i, i < k → arr[i]? = some (.map (some (b0 + i)))
  mb : ∀ i, i < k → MB V (b0 + i) []
  low : Below w.heap.size w V
theorem NI.step {w V : World} {sb g n b0 k : Nat} {hdr : Array Value} (h : NI w sb g n b0 hdr k V) (h1 : g < b0) (h2 : sb < b0) (h3 : sb ≠ g) (h4 : w.heap.size ≤ g) (hk : k < n) :
    (∃ u, (V.alloc (.map #[] 0)).cell? ⟨g, k, none⟩ = some u) ∧ (V.alloc (.map #[] 0)).frozen? ⟨g, k, none⟩ = false ∧ NI w sb g n b0 hdr (k + 1) ((V.alloc (.map #[] 0)).setCell ⟨g, k, none⟩ (.map (some V.heap.size))) := by
  obtain ⟨arr, q1, q2, q3⟩ := h.ar
  have hb : Below V.heap.size V (V.alloc (.map #[] 0)) := (Below.refl _ _).alloc (Nat.le_refl _) _
  have hs := h.sz
  have c1 : (V.alloc (.map #[] 0)).heap[g]? = some (.cells arr 51 (0, 0)) := (hb.block g (by omega)).trans q1
  have hm := MB.made V
  have e5 := setCell_eq_setRow (V.alloc (.map #[] 0)) g k _ _ _ (.map (some V.heap.size)) c1
  have e6 := setRow_heap (V.alloc (.map #[] 0)) g _ (arr.setIfInBounds k (.map (some V.heap.size))) _ _ c1
  refine ⟨⟨arr[k]'(by omega), by rw [cell_of_row _ g _ _ _ _ c1]; exact Array.getElem?_eq_getElem _⟩, by unfold World.frozen?; simp [c1], ?_⟩
  have oth : ∀ x, x ≠ g → ((V.alloc (.map #[] 0)).setCell ⟨g, k, none⟩ (.map (some V.heap.size))).heap[x]? = (V.alloc (.map #[] 0)).heap[x]? := fun x hx => Below.heap_setCell _ _ _ x hx
  refine ⟨?_, ?_, ⟨arr.setIfInBounds k (.map (some V.heap.size)), by rw [e5]; exact e6, by simp [q2], fun i hi => ?_⟩, fun i hi => ?_, ?_⟩
  · simp [World.setCell, hs]; omega
  · exact (oth sb h3).trans ((hb.block sb (by omega)).trans h.st)
  · by_cases e : i = k
    · subst e
      rw [Array.getElem?_setIfInBounds_self_of_lt (by omega), hs]
    · rw [Array.getElem?_setIfInBounds_ne (fun h' => e h'.symm)]; exact q3 i (by omega)
  · by_cases e : i = k
    · subst e
      rw [hs] at hm
      exact hm.kept (oth _ (by omega))
    · exact ((h.mb i (by omega)).later hb).kept (oth _ (by omega))
  · exact (h.low.trans (hb.mono h.low.size)).setCell (p := ⟨g, k, none⟩) h4 _
theorem Tryz.infoMap : (Tryz.prog.info? 51).map (fun i => (i.zero, i.size, i.bytes)) = some (some (.map none), 1, 8) := by kernel_rfl
set_option maxRecDepth 100000 in
set_option maxHeartbeats 1000000 in
theorem newS_any (s : Int) (n : Nat) (w : World) (hn : (n : Int) = cnt s) :
    Calls Tryz.prog 5 #[.int .i64 s] w fun e w' => ∃ sb m, w.heap.size ≤ sb ∧ e = .returned (.pointer (some ⟨sb, 0, none⟩)) ∧ ST w' sb n m ∧ (∀ i, i < n → (m i).2 = []) ∧ (∀ i, i < n → w.heap.size ≤ (m i).1) ∧ Below w.heap.size w w' := by
  have hlo := cnt_lo s
  have hhi := cnt_hi s
  have HK := hide (fun W => counted_any s W)
  rw [← hn] at HK hlo hhi
  have n1 : 1 ≤ n := by omega
  have n2 : n ≤ 64 := by omega
  have hmk := run_make_row' (P := Tryz.prog) 48 51 (.map none) 8 Tryz.underlying48 Tryz.infoMap rfl .i64 .i64 n (by omega) (by omega)
  have mm : ∀ (t : TypeId) (W : World), (Instr.makeMap t none).run Tryz.prog W = .ok (.map (some W.heap.size)) (W.alloc (.map #[] 0)) := fun t W => run_makeMap t W
  clear hn hlo hhi
  go_enter Tryz.func5, Tryz.ntmps5
  go_wp2_with fail
  refine (HK.out _).mono ?_
  rintro e w1 ⟨rfl, hb1⟩
  have B1 := hide hb1
  clear hb1
  go_wp2_with fail
  have N0 : Hid (NI w (w1.heap.size + 1 + 1) w1.heap.size n (w1.heap.size + 3) #[.slice (some ⟨w1.heap.size, 0, none⟩) n n, .int .i64 0, .map (some (w1.heap.size + 1)), .slice none 0 0] 0
      (((w1.alloc (.cells (madeCells #[.map none] n) 51)).alloc (.map #[] 0)).alloc (.cells #[.slice (some ⟨w1.heap.size, 0, none⟩) n n, .int .i64 0, .map (some (w1.heap.size + 1)), .slice none 0 0] 50))) := hide (by
    have a1 : Below w1.heap.size w1 (w1.alloc (.cells (madeCells #[.map none] n) 51)) := (Below.refl _ _).alloc (Nat.le_refl _) _
    have b1 := alloc_newV w1 (.cells (madeCells #[.map none] n) 51)
    generalize e1 : w1.alloc (.cells (madeCells #[.map none] n) 51) = U1 at *
    have z1 : U1.heap.size = w1.heap.size + 1 := by rw [← e1]; simp
    have a2 : Below U1.heap.size U1 (U1.alloc (.map #[] 0)) := (Below.refl _ _).alloc (Nat.le_refl _) _
    have b2 := (a2.block w1.heap.size (by omega)).trans b1
    have z2 : (U1.alloc (.map #[] 0)).heap.size = w1.heap.size + 1 + 1 := by simp [z1]
    generalize U1.alloc (.map #[] 0) = U2 at *
    have b3 := alloc_newV U2 (.cells #[.slice (some ⟨w1.heap.size, 0, none⟩) n n, .int .i64 0, .map (some (w1.heap.size + 1)), .slice none 0 0] 50)
    have a3 : Below U2.heap.size U2 (U2.alloc (.cells #[.slice (some ⟨w1.heap.size, 0, none⟩) n n, .int .i64 0, .map (some (w1.heap.size + 1)), .slice none 0 0] 50)) := (Below.refl _ _).alloc (Nat.le_refl _) _
    rw [z2] at b3
    refine ⟨by simp [z2], b3, ⟨_, (a3.block w1.heap.size (by omega)).trans b2, size_madeCells _ _, fun i hi => by omega⟩, fun i hi => by omega, ?_⟩
    exact B1.out.trans (((a1.trans (a2.mono (by omega))).trans (a3.mono (by omega))).mono B1.out.size))
  have HS1 := hide B1.out.size
  clear B1 hmk HK
  generalize (((w1.alloc (.cells (madeCells #[.map none] n) 51)).alloc (.map #[] 0)).alloc (.cells #[.slice (some ⟨w1.heap.size, 0, none⟩) n n, .int .i64 0, .map (some (w1.heap.size + 1)), .slice none 0 0] 50)) = V0 at *
  obtain ⟨g, hg⟩ : ∃ g, g = w1.heap.size := ⟨_, rfl⟩
  rw [← hg] at N0 HS1 ⊢
  obtain ⟨sb, hsb⟩ : ∃ sb, sb = g + 1 + 1 := ⟨_, rfl⟩
  rw [← hsb] at N0 ⊢
  have HSB := hide hsb
  clear hg hsb
  obtain ⟨rb, hrb⟩ : ∃ rb, rb = g + 1 := ⟨_, rfl⟩
  rw [← hrb] at N0 ⊢
  clear hrb
  go_loopw [16] (fun i wr => ∃ k : Nat, k ≤ n ∧ i = .int .i64 (k : Int) ∧ Hid (NI w sb g n (g + 3) #[.slice (some ⟨g, 0, none⟩) n n, .int .i64 0, .map (some rb), .slice none 0 0] k wr)) (fun i _ => n - (intOf i).toNat)
  case atStart => exact ⟨0, Nat.zero_le _, rfl, N0⟩
  case round =>
    clear N0
    obtain ⟨k, hk, rfl, HN⟩ := hrel
    by_cases hlt : k < n
    · obtain ⟨⟨u, c1⟩, f1, hN1⟩ := HN.out.step (by omega) (by have := HSB.out; omega) (by have := HSB.out; omega) HS1.out hlt
      have hd1 : decide ((k : Int) < (n : Int)) = true := by rw [decide_eq_true_eq]; omega
      have k0 : (0 : Int) ≤ (k : Int) := by omega
      have k1 : (k : Int) < (n : Int) := by omega
      have wk : wrap64 ((k : Int) + 1) = (k : Int) + 1 := by unfold wrap64; omega
      have c0 : wr.cell? ⟨sb, 0, none⟩ = some (.slice (some ⟨g, 0, none⟩) n n) := by rw [cell_of_row wr sb 0 _ _ _ HN.out.st]; rfl
      obtain ⟨W5, hW5⟩ : ∃ W5, wr.alloc (.map #[] 0) = W5 := ⟨_, rfl⟩
      rw [hW5] at c1 f1 hN1
      have HN1 := hide hN1
      clear hN1
      go_wp2_with fail
      go_roundw
      case rel => exact ⟨k + 1, by omega, by go_num, HN1⟩
      case measure => simp [intOf]; omega
    · have e : k = n := by omega
      subst e
      go_wp2_with fail
      go_ret
      refine ⟨sb, fun i => (g + 3 + i, []), by have := HSB.out; have := HS1.out; omega, rfl, ⟨?_, fun i hi => HN.out.mb i hi, fun i j _ _ hij => by dsimp only; omega, n1, n2⟩, fun _ _ => rfl, fun i _ => by have := HS1.out; dsimp only; omega, HN.out.low⟩
      obtain ⟨arr, q1, q2, q3⟩ := HN.out.ar
      exact ⟨_, _, _, _, HN.out.st, arr, q1, q3⟩
end Go.Proofs.YtehacdijleommaaGreatDoor.CI
namespace Go.Proofs.YtehacdijleommaaGreatDoor.CI
open Go.RowKit Go.Extern

theorem ST.put {W W' : World} {sb n i : Nat} {m : Nat → Nat × List (Ky × Nat)} {p : Ky × Nat} (h : ST W sb n m) (hi : i < n) (hm : MB W' (m i).1 ((m i).2 ++ [p])) (hg : W.grownBy W' (some (m i).1)) : ST W' sb n (upm m i p) := by
  obtain ⟨es, clock, hb, _⟩ := h.mb i hi
  have nc : ∀ (x : Nat) (c : Array Value) (t : TypeId) (fz : Nat × Nat), W.heap[x]? = some (Obj.cells c t fz) → W'.heap[x]? = some (Obj.cells c t fz) := fun x c t fz hx => by
    refine (hg.block x (Array.getElem?_eq_some_iff.1 hx).1 (fun e => ?_)).trans hx
    cases e
    rw [hb] at hx; cases hx
  have e1 : ∀ j, (upm m i p j).1 = (m j).1 := fun j => by unfold upm; split <;> simp_all
  obtain ⟨g, x1, x2, x3, h1, arr, h2, h3⟩ := h.hdr
  refine ⟨⟨g, x1, x2, x3, nc _ _ _ _ h1, arr, nc _ _ _ _ h2, fun j hj => by rw [e1]; exact h3 j hj⟩, fun j hj => ?_, fun j j' hj hj' hne => by rw [e1, e1]; exact h.ne j j' hj hj' hne, h.lo, h.hi⟩
  by_cases e : j = i
  · subst e
    unfold upm
    rw [if_pos rfl]
    exact hm
  · unfold upm
    rw [if_neg e]
    exact (h.mb j hj).kept (hg.block _ (h.mb j hj).lt (fun e' => h.ne j i hj hi e (Option.some.inj e')))
set_option maxRecDepth 100000 in
set_option maxHeartbeats 2000000 in
theorem putS_new (k : Ky) (N : Int) (V : Int) (B sb n : Nat) (m : Nat → Nat × List (Ky × Nat)) (w : World) (h : ST w sb n m) (hk : KOK k) (hc : lk (m (si k n)).2 k = none) (hN : 0 ≤ N) (hB : B ≤ (m (si k n)).1) (hBw : B ≤ w.heap.size) :
    Calls Tryz.prog 30 #[.pointer (some ⟨sb, 0, none⟩), .agg #[.int .i64 k.1, .int .i64 k.2], .int .i64 N, .int .i64 V] w fun e w' => ∃ c, e = .returned .nilIface ∧ ST w' sb n (upm m (si k n) (k, c)) ∧ CH w' c c [(N, V)] ∧ w.heap.size ≤ c ∧ Below B w w' := by
  obtain ⟨W1, hW1⟩ : ∃ W1, w.alloc (.cells #[.int .i64 k.1, .int .i64 k.2] 29) = W1 := ⟨_, rfl⟩
  have hb1 : Below w.heap.size w W1 := by rw [← hW1]; exact (Below.refl _ _).alloc (Nat.le_refl _) _
  have hk1 : W1.heap[w.heap.size]? = some (.cells #[.int .i64 k.1, .int .i64 k.2] 29 (0, 0)) := by rw [← hW1]; exact alloc_newV w _
  have d0 : W1.cell? ⟨w.heap.size, 0, none⟩ = some (.int .i64 k.1) := by rw [cell_of_row _ _ 0 _ _ _ hk1]; rfl
  have d1 : W1.cell? ⟨w.heap.size, 1, none⟩ = some (.int .i64 k.2) := by rw [cell_of_row _ _ 1 _ _ _ hk1]; rfl
  have HK1 := hide hk1
  have HB1 := hide hb1
  have H1 := hide (h.later hb1)
  have HL := hide (si_lt k h.lo h.hi)
  have HU := hide (under_no k sb n m W1 H1.out hk hc)
  have HZ := hide (show w.heap.size < W1.heap.size from (Array.getElem?_eq_some_iff.1 hk1).1)
  have HKK := hide hk
  have HCC := hide hc
  clear h hk1 hb1 hk hc
  go_enter Tryz.func30, Tryz.ntmps30
  go_wp2_with fail
  refine HU.out.mono ?_
  rintro e w2 ⟨c, hcl, rfl, hc2, hb2⟩
  have HCL := hide hcl
  have C2 := hide hc2
  have B2 := hide hb2
  clear hcl hc2 hb2 HU
  go_wp2_with fail
  refine (put_yes N V c c [] w2 C2.out trivial (fun p hp => by cases hp) (by simp) hN (fun p hp => by simp at hp)).mono ?_
  rintro e w3 ⟨rfl, hc3, hf3⟩
  have C3 : Hid (CH w3 c c [(N, V)]) := hide hc3
  have B3 : Hid (Below W1.heap.size W1 w3) := hide (B2.out.trans ((hf3.below C2.out).mono HCL.out))
  clear hc3 hf3 C2
  have S3 := hide (H1.out.later B3.out)
  have K3 := hide ((B3.out.block _ HZ.out).trans HK1.out)
  have HX0 := hide ((Below.refl w3.heap.size w3).drew)
  haveI : Nonempty (Gr w3) := ⟨⟨_, HX0.out⟩⟩
  have y0 : ∀ x : Gr w3, x.1.cell? ⟨w.heap.size, 0, none⟩ = some (.int .i64 k.1) := fun x => by rw [cell_of_row x.1 _ 0 _ _ _ ((x.2.block _ (Array.getElem?_eq_some_iff.1 K3.out).1).trans K3.out)]; rfl
  have y1 : ∀ x : Gr w3, x.1.cell? ⟨w.heap.size, 1, none⟩ = some (.int .i64 k.2) := fun x => by rw [cell_of_row x.1 _ 1 _ _ _ ((x.2.block _ (Array.getElem?_eq_some_iff.1 K3.out).1).trans K3.out)]; rfl
  have HSH := hide (fun W : Gr w3 => shardOf_any k sb n m W.1 (S3.out.later W.2))
  clear d0 d1
  go_wp2_with fail
  refine region_qtails (C := fun w' => ∃ x : Gr w3, w' = x.1) 5 0 rfl (by kernel_rfl) (by kernel_rfl) ⟨⟨_, HX0.out⟩, rfl⟩ ?_
  simp only [List.take_succ_cons, List.take_zero, List.drop_succ_cons, List.drop_zero]
  repeat (first
    | go_big_quiet_skip
    | (go_big_quiet_want; (go_big_quiet_op; first
        | go_big_quiet_on
        | (apply Exists.intro; refine ⟨fun x => ?_, ?_⟩; (go_at_call 58; exact x.call (HSH.out x)); go_big_quiet_on))))
  refine wpQuiet_nil ?_
  rintro w4 ⟨x, rfl⟩
  obtain ⟨w4, hx⟩ := x
  dsimp only
  have S4 := hide (S3.out.later hx)
  have C4 := hide (C3.out.later hx)
  have B4 := hide (B3.out.trans (hx.mono B3.out.size))
  obtain ⟨w5, r5, m5, g5⟩ := (S4.out.mb _ HL.out).put_new c HKK.out HCC.out
  have R5 : Hid ((Instr.mapUpdate 51 (.map (some (m (si k n)).1)) (.agg #[.int .i64 k.1, .int .i64 k.2]) (.pointer (some ⟨c, 0, none⟩))).run Tryz.prog w4 = .ok () w5) := hide r5
  have S5 := hide (S4.out.put HL.out m5 g5)
  have C5 : Hid (CH w5 c c [(N, V)]) := hide (by
    obtain ⟨es, clock, hb, _⟩ := S4.out.mb _ HL.out
    obtain ⟨q1, v, em, hh, ho, hn⟩ := C4.out
    have nc : ∀ (x : Nat) (c : Array Value) (t : TypeId) (fz : Nat × Nat), w4.heap[x]? = some (Obj.cells c t fz) → w5.heap[x]? = w4.heap[x]? := fun x c t fz hx => g5.block x (Array.getElem?_eq_some_iff.1 hx).1 (fun e => by cases e; rw [hb] at hx; cases hx)
    refine ⟨q1, v, em, (nc _ _ _ _ hh).trans hh, ho.kept (fun g hg => ?_), hn⟩
    rcases ho.2 with ⟨rfl, _⟩ | ⟨g', off, cap, cur, rfl, _, h2, _⟩
    · cases hg
    · obtain rfl : g' = g := Option.some.inj hg
      exact nc _ _ _ _ h2)
  have B5 : Hid (Below B w w5) := hide (by
    have a1 : Below B w w4 := (HB1.out.trans (B4.out.mono HB1.out.size)).mono hBw
    exact ⟨g5.os.trans a1.os, g5.tape.trans a1.tape, g5.output.trans a1.output, Nat.le_trans a1.size g5.size, fun x hx => (g5.block x (by have := a1.size; omega) (fun e => by have := Option.some.inj e; omega)).trans (a1.block x hx)⟩)
  clear hx y0 y1 HSH this HX0 r5 m5 g5
  generalize (m (si k n)).1 = mi at *
  refine wp_mapUpdate rfl _ _ _ 51 rfl _ _ _ rfl rfl rfl R5.out ?_
  go_wp2_with fail
  go_ret
  exact ⟨c, rfl, S5.out, C5.out, by have := HCL.out; have := HZ.out; omega, B5.out⟩
set_option maxRecDepth 100000 in
set_option maxHeartbeats 1000000 in
theorem putS_no (k : Ky) (N : Int) (V : Int) (B c sb n : Nat) (m : Nat → Nat × List (Ky × Nat)) (L : List Ver) (w : World) (h : ST w sb n m) (hk : KOK k) (hc : lk (m (si k n)).2 k = some c) (hC : CH w B c L) (hr : Ris L) (hm : ∀ p ∈ L, p.1 ≤ 9223372036854775807) (hl : L.length ≤ 4611686018427387904) (hN : N < 0 ∨ ∃ p, L[L.length - 1]? = some p ∧ N ≤ p.1) :
    Calls Tryz.prog 30 #[.pointer (some ⟨sb, 0, none⟩), .agg #[.int .i64 k.1, .int .i64 k.2], .int .i64 N, .int .i64 V] w fun e w' => e = .returned (errV 1) ∧ Below w.heap.size w w' := by
  obtain ⟨W1, hW1⟩ : ∃ W1, w.alloc (.cells #[.int .i64 k.1, .int .i64 k.2] 29) = W1 := ⟨_, rfl⟩
  have hb1 : Below w.heap.size w W1 := by rw [← hW1]; exact (Below.refl _ _).alloc (Nat.le_refl _) _
  have hk1 : W1.heap[w.heap.size]? = some (.cells #[.int .i64 k.1, .int .i64 k.2] 29 (0, 0)) := by rw [← hW1]; exact alloc_newV w _
  have d0 : W1.cell? ⟨w.heap.size, 0, none⟩ = some (.int .i64 k.1) := by rw [cell_of_row _ _ 0 _ _ _ hk1]; rfl
  have d1 : W1.cell? ⟨w.heap.size, 1, none⟩ = some (.int .i64 k.2) := by rw [cell_of_row _ _ 1 _ _ _ hk1]; rfl
  have HB1 := hide hb1
  have HU := hide (under_yes k c sb n m W1 (h.later hb1) hk hc)
  have HP := hide (fun (W : World) (hC : CH W B c L) => put_no N V B c L W hC hr hm hl hN)
  have C1 := hide (hC.later hb1)
  rw [errV_pos (show (1 : Int) ≤ 1 by omega)] at HP ⊢
  clear h hk1 hb1 hk hc hC hr hm hl hN
  go_enter Tryz.func30, Tryz.ntmps30
  go_wp2_with fail
  refine HU.out.mono ?_
  rintro e w2 ⟨rfl, hb2⟩
  have C2 := hide (C1.out.later hb2)
  have B2 := hide (HB1.out.trans (hb2.mono HB1.out.size))
  clear hb2 HU C1 d0 d1
  go_wp2_with fail
  refine (HP.out _ C2.out).mono ?_
  rintro e w3 ⟨rfl, hb3⟩
  have B3 := hide (B2.out.trans (hb3.mono B2.out.size))
  clear hb3 HP C2
  go_wp2_with fail
  go_ret
  exact ⟨rfl, B3.out⟩
set_option maxRecDepth 100000 in
set_option maxHeartbeats 1000000 in
theorem lastS_yes (k : Ky) (B c sb n q : Nat) (p : Ver) (m : Nat → Nat × List (Ky × Nat)) (L : List Ver) (w : World) (h : ST w sb n m) (hk : KOK k) (hc : lk (m (si k n)).2 k = some c) (hC : CH w B c L) (hr : Ris L) (hl : L.length ≤ 4611686018427387904) (h0 : ab 9223372036854775807 L = q + 1) (hp : L[q]? = some p) :
    Calls Tryz.prog 32 #[.pointer (some ⟨sb, 0, none⟩), .agg #[.int .i64 k.1, .int .i64 k.2]] w fun e w' => e = .returned (.tuple #[.int .i64 p.2, .int .i64 p.1, .bool true]) ∧ Below w.heap.size w w' := by
  obtain ⟨W1, hW1⟩ : ∃ W1, w.alloc (.cells #[.int .i64 k.1, .int .i64 k.2] 29) = W1 := ⟨_, rfl⟩
  have hb1 : Below w.heap.size w W1 := by rw [← hW1]; exact (Below.refl _ _).alloc (Nat.le_refl _) _
  have hk1 : W1.heap[w.heap.size]? = some (.cells #[.int .i64 k.1, .int .i64 k.2] 29 (0, 0)) := by rw [← hW1]; exact alloc_newV w _
  have d0 : W1.cell? ⟨w.heap.size, 0, none⟩ = some (.int .i64 k.1) := by rw [cell_of_row _ _ 0 _ _ _ hk1]; rfl
  have d1 : W1.cell? ⟨w.heap.size, 1, none⟩ = some (.int .i64 k.2) := by rw [cell_of_row _ _ 1 _ _ _ hk1]; rfl
  have HB1 := hide hb1
  have HU := hide (under_yes k c sb n m W1 (h.later hb1) hk hc)
  have HP := hide (fun (W : World) (hC : CH W B c L) => last_yes B c L q p W hC hr hl h0 hp)
  have C1 := hide (hC.later hb1)
  clear h hk1 hb1 hk hc hC hr hl h0 hp
  go_enter Tryz.func32, Tryz.ntmps32
  go_wp2_with fail
  refine HU.out.mono ?_
  rintro e w2 ⟨rfl, hb2⟩
  have C2 := hide (C1.out.later hb2)
  have B2 := hide (HB1.out.trans (hb2.mono HB1.out.size))
  clear hb2 HU C1 d0 d1
  go_wp2_with fail
  refine (HP.out _ C2.out).mono ?_
  rintro e w3 ⟨rfl, hb3⟩
  have B3 := hide (B2.out.trans (hb3.mono B2.out.size))
  clear hb3 HP C2
  go_wp2_with fail
  go_ret3
  exact ⟨rfl, B3.out⟩
end Go.Proofs.YtehacdijleommaaGreatDoor.CI
