/-
  My own text: Put, Last and Shards of a store; a version is laid down, and found.
-/
import Derived.Test.YtnjjehlfgoggfaaDoorSM3
import Derived.Test.YtnjjehlfgoggfaaDoorErrV
namespace Go.Proofs.YtnjjehlfgoggfaaDoor
open Go.RowKit Go.Extern

theorem wp_mapUpdate {P : Program} {w w' : World} {ops : Array Oper} {rest : List Oper} {o : Oper} {a : Act} {Q : Exit → Act → World → Prop} (hg : o.guard = none) (m x v : Operand) (t : TypeId) (hop : o.op = Op.mapUpdate t m x v)
    (M X V : Value) (hm : a.eval m = M) (hx : a.eval x = X) (hv : a.eval v = V) (hrun : (Instr.mapUpdate t M X V).run P w = .ok () w') (hK : wpList P ops Q rest (a.put o.dst undef) w') : wpList P ops Q (o :: rest) a w := by
  refine wpList_plain hg fun K' hK' => ?_
  unfold Oper.wp
  simp [execOp, hop, hm, hx, hv, hrun, Result.andThen]
  exact hK' _ _ hK
/-- One key more in one shard. -/
def upm (m : Nat → Nat × List (Ky × Nat)) (i : Nat) (p : Ky × Nat) : Nat → Nat × List (Ky × Nat) := fun j => if j = i then ((m i).1, (m i).2 ++ [p]) else m j
theorem ST.put {W W' : World} {sb n i : Nat} {m : Nat → Nat × List (Ky × Nat)} {p : Ky × Nat} (h : ST W sb n m) (hi : i < n) (hm : MB W' (m i).1 ((m i).2 ++ [p])) (hg : W.grownBy W' (some (m i).1)) : ST W' sb n (upm m i p) := by
  obtain ⟨es, clock, hb, _⟩ := h.mb i hi
  have nc : ∀ (x : Nat) (c : Array Value) (t : TypeId) (fz : Nat × Nat), W.heap[x]? = some (Obj.cells c t fz) → W'.heap[x]? = some (Obj.cells c t fz) := fun x c t fz hx => by
    refine (hg.block x (Array.getElem?_eq_some_iff.1 hx).1 (fun e => ?_)).trans hx
    cases e
    rw [hb] at hx; cases hx
  have e1 : ∀ j, (upm m i p j).1 = (m j).1 := fun j => by unfold upm; split <;> simp_all
  obtain ⟨g, x1, x2, x3, h1, arr, h2, h3⟩ := h.hdr
  refine ⟨⟨g, x1, x2, x3, nc _ _ _ _ h1, arr, nc _ _ _ _ h2, fun j hj => by rw [e1]; exact h3 j hj⟩, fun j hj => ?_, fun j j' hj hj' hne => by rw [e1, e1]; exact h.ne j j' hj hj' hne, h.lo, h.hi⟩
  by_cases e : j = i
  · subst e
    unfold upm
    rw [if_pos rfl]
    exact hm
  · unfold upm
    rw [if_neg e]
    exact (h.mb j hj).kept (hg.block _ (h.mb j hj).lt (fun e' => h.ne j i hj hi e (Option.some.inj e')))
set_option maxRecDepth 100000 in
set_option maxHeartbeats 2000000 in
theorem putS_new (k : Ky) (N : Int) (V : List UInt8) (B sb n : Nat) (m : Nat → Nat × List (Ky × Nat)) (w : World) (h : ST w sb n m) (hk : KOK k) (hc : lk (m (si k n)).2 k = none) (hN : 0 ≤ N) (hB : B ≤ (m (si k n)).1) (hBw : B ≤ w.heap.size) :
    Calls Tryd.prog 18 #[.pointer (some ⟨sb, 0, none⟩), .agg #[.int .i64 k.1, .int .i64 k.2], .int .i64 N, .string ⟨V.toArray⟩] w fun e w' => ∃ c, e = .returned .nilIface ∧ ST w' sb n (upm m (si k n) (k, c)) ∧ CH w' c c [(N, V)] ∧ w.heap.size ≤ c ∧ Below B w w' := by
  obtain ⟨W1, hW1⟩ : ∃ W1, w.alloc (.cells #[.int .i64 k.1, .int .i64 k.2] 29) = W1 := ⟨_, rfl⟩
  have hb1 : Below w.heap.size w W1 := by rw [← hW1]; exact (Below.refl _ _).alloc (Nat.le_refl _) _
  have hk1 : W1.heap[w.heap.size]? = some (.cells #[.int .i64 k.1, .int .i64 k.2] 29 (0, 0)) := by rw [← hW1]; exact alloc_newV w _
  have d0 : W1.cell? ⟨w.heap.size, 0, none⟩ = some (.int .i64 k.1) := by rw [cell_of_row _ _ 0 _ _ _ hk1]; rfl
  have d1 : W1.cell? ⟨w.heap.size, 1, none⟩ = some (.int .i64 k.2) := by rw [cell_of_row _ _ 1 _ _ _ hk1]; rfl
  have HK1 := hide hk1
  have HB1 := hide hb1
  have H1 := hide (h.later hb1)
  have HL := hide (si_lt k h.lo h.hi)
  have HU := hide (under_no k sb n m W1 H1.out hk hc)
  have HZ := hide (show w.heap.size < W1.heap.size from (Array.getElem?_eq_some_iff.1 hk1).1)
  have HKK := hide hk
  have HCC := hide hc
  clear h hk1 hb1 hk hc
  go_enter Tryd.func18, Tryd.ntmps18
  go_wp2_with fail
  refine HU.out.mono ?_
  rintro e w2 ⟨c, hcl, rfl, hc2, hb2⟩
  have HCL := hide hcl
  have C2 := hide hc2
  have B2 := hide hb2
  clear hcl hc2 hb2 HU
  go_wp2_with fail
  refine (put_yes N V c c [] w2 C2.out trivial (fun p hp => by cases hp) (by simp) hN (fun p hp => by simp at hp)).mono ?_
  rintro e w3 ⟨rfl, hc3, hf3⟩
  have C3 : Hid (CH w3 c c [(N, V)]) := hide hc3
  have B3 : Hid (Below W1.heap.size W1 w3) := hide (B2.out.trans ((hf3.below C2.out).mono HCL.out))
  clear hc3 hf3 C2
  have S3 := hide (H1.out.later B3.out)
  have K3 := hide ((B3.out.block _ HZ.out).trans HK1.out)
  have HX0 := hide ((Below.refl w3.heap.size w3).drew)
  haveI : Nonempty (Gr w3) := ⟨⟨_, HX0.out⟩⟩
  have y0 : ∀ x : Gr w3, x.1.cell? ⟨w.heap.size, 0, none⟩ = some (.int .i64 k.1) := fun x => by rw [cell_of_row x.1 _ 0 _ _ _ ((x.2.block _ (Array.getElem?_eq_some_iff.1 K3.out).1).trans K3.out)]; rfl
  have y1 : ∀ x : Gr w3, x.1.cell? ⟨w.heap.size, 1, none⟩ = some (.int .i64 k.2) := fun x => by rw [cell_of_row x.1 _ 1 _ _ _ ((x.2.block _ (Array.getElem?_eq_some_iff.1 K3.out).1).trans K3.out)]; rfl
  have HSH := hide (fun W : Gr w3 => shardOf_any k sb n m W.1 (S3.out.later W.2))
  clear d0 d1
  go_wp2_with fail
  refine region_qtails (C := fun w' => ∃ x : Gr w3, w' = x.1) 5 0 rfl (by kernel_rfl) (by kernel_rfl) ⟨⟨_, HX0.out⟩, rfl⟩ ?_
  simp only [List.take_succ_cons, List.take_zero, List.drop_succ_cons, List.drop_zero]
  repeat (first
    | go_big_quiet_skip
    | (go_big_quiet_want; (go_big_quiet_op; first
        | go_big_quiet_on
        | (apply Exists.intro; refine ⟨fun x => ?_, ?_⟩; (go_at_call 35; exact x.call (HSH.out x)); go_big_quiet_on))))
  refine wpQuiet_nil ?_
  rintro w4 ⟨x, rfl⟩
  obtain ⟨w4, hx⟩ := x
  dsimp only
  have S4 := hide (S3.out.later hx)
  have C4 := hide (C3.out.later hx)
  have B4 := hide (B3.out.trans (hx.mono B3.out.size))
  obtain ⟨w5, r5, m5, g5⟩ := (S4.out.mb _ HL.out).put_new c HKK.out HCC.out
  have R5 : Hid ((Instr.mapUpdate 50 (.map (some (m (si k n)).1)) (.agg #[.int .i64 k.1, .int .i64 k.2]) (.pointer (some ⟨c, 0, none⟩))).run Tryd.prog w4 = .ok () w5) := hide r5
  have S5 := hide (S4.out.put HL.out m5 g5)
  have C5 : Hid (CH w5 c c [(N, V)]) := hide (by
    obtain ⟨es, clock, hb, _⟩ := S4.out.mb _ HL.out
    obtain ⟨q1, v, em, hh, ho, hn⟩ := C4.out
    have nc : ∀ (x : Nat) (c : Array Value) (t : TypeId) (fz : Nat × Nat), w4.heap[x]? = some (Obj.cells c t fz) → w5.heap[x]? = w4.heap[x]? := fun x c t fz hx => g5.block x (Array.getElem?_eq_some_iff.1 hx).1 (fun e => by cases e; rw [hb] at hx; cases hx)
    refine ⟨q1, v, em, (nc _ _ _ _ hh).trans hh, ho.kept (fun g hg => ?_), hn⟩
    rcases ho.2 with ⟨rfl, _⟩ | ⟨g', off, cap, cur, rfl, _, h2, _⟩
    · cases hg
    · obtain rfl : g' = g := Option.some.inj hg
      exact nc _ _ _ _ h2)
  have B5 : Hid (Below B w w5) := hide (by
    have a1 : Below B w w4 := (HB1.out.trans (B4.out.mono HB1.out.size)).mono hBw
    exact ⟨g5.os.trans a1.os, g5.tape.trans a1.tape, g5.output.trans a1.output, Nat.le_trans a1.size g5.size, fun x hx => (g5.block x (by have := a1.size; omega) (fun e => by have := Option.some.inj e; omega)).trans (a1.block x hx)⟩)
  clear hx y0 y1 HSH this HX0 r5 m5 g5
  generalize (m (si k n)).1 = mi at *
  refine wp_mapUpdate rfl _ _ _ 50 rfl _ _ _ rfl rfl rfl R5.out ?_
  go_wp2_with fail
  go_ret
  exact ⟨c, rfl, S5.out, C5.out, by have := HCL.out; have := HZ.out; omega, B5.out⟩
set_option maxRecDepth 100000 in
set_option maxHeartbeats 1000000 in
theorem putS_no (k : Ky) (N : Int) (V : List UInt8) (B c sb n : Nat) (m : Nat → Nat × List (Ky × Nat)) (L : List Ver) (w : World) (h : ST w sb n m) (hk : KOK k) (hc : lk (m (si k n)).2 k = some c) (hC : CH w B c L) (hr : Ris L) (hm : ∀ p ∈ L, p.1 ≤ 9223372036854775807) (hl : L.length ≤ 4611686018427387904) (hN : N < 0 ∨ ∃ p, L[L.length - 1]? = some p ∧ N ≤ p.1) :
    Calls Tryd.prog 18 #[.pointer (some ⟨sb, 0, none⟩), .agg #[.int .i64 k.1, .int .i64 k.2], .int .i64 N, .string ⟨V.toArray⟩] w fun e w' => e = .returned (errV 1) ∧ Below w.heap.size w w' := by
  obtain ⟨W1, hW1⟩ : ∃ W1, w.alloc (.cells #[.int .i64 k.1, .int .i64 k.2] 29) = W1 := ⟨_, rfl⟩
  have hb1 : Below w.heap.size w W1 := by rw [← hW1]; exact (Below.refl _ _).alloc (Nat.le_refl _) _
  have hk1 : W1.heap[w.heap.size]? = some (.cells #[.int .i64 k.1, .int .i64 k.2] 29 (0, 0)) := by rw [← hW1]; exact alloc_newV w _
  have d0 : W1.cell? ⟨w.heap.size, 0, none⟩ = some (.int .i64 k.1) := by rw [cell_of_row _ _ 0 _ _ _ hk1]; rfl
  have d1 : W1.cell? ⟨w.heap.size, 1, none⟩ = some (.int .i64 k.2) := by rw [cell_of_row _ _ 1 _ _ _ hk1]; rfl
  have HB1 := hide hb1
  have HU := hide (under_yes k c sb n m W1 (h.later hb1) hk hc)
  have HP := hide (fun (W : World) (hC : CH W B c L) => put_no N V B c L W hC hr hm hl hN)
  have C1 := hide (hC.later hb1)
  rw [errV_pos (show (1 : Int) ≤ 1 by omega)] at HP ⊢
  clear h hk1 hb1 hk hc hC hr hm hl hN
  go_enter Tryd.func18, Tryd.ntmps18
  go_wp2_with fail
  refine HU.out.mono ?_
  rintro e w2 ⟨rfl, hb2⟩
  have C2 := hide (C1.out.later hb2)
  have B2 := hide (HB1.out.trans (hb2.mono HB1.out.size))
  clear hb2 HU C1 d0 d1
  go_wp2_with fail
  refine (HP.out _ C2.out).mono ?_
  rintro e w3 ⟨rfl, hb3⟩
  have B3 := hide (B2.out.trans (hb3.mono B2.out.size))
  clear hb3 HP C2
  go_wp2_with fail
  go_ret
  exact ⟨rfl, B3.out⟩
set_option maxRecDepth 100000 in
set_option maxHeartbeats 1000000 in
theorem lastS_yes (k : Ky) (B c sb n q : Nat) (p : Ver) (m : Nat → Nat × List (Ky × Nat)) (L : List Ver) (w : World) (h : ST w sb n m) (hk : KOK k) (hc : lk (m (si k n)).2 k = some c) (hC : CH w B c L) (hr : Ris L) (hl : L.length ≤ 4611686018427387904) (h0 : ab 9223372036854775807 L = q + 1) (hp : L[q]? = some p) :
    Calls Tryd.prog 14 #[.pointer (some ⟨sb, 0, none⟩), .agg #[.int .i64 k.1, .int .i64 k.2]] w fun e w' => e = .returned (.tuple #[.string ⟨p.2.toArray⟩, .int .i64 p.1, .bool true]) ∧ Below w.heap.size w w' := by
  obtain ⟨W1, hW1⟩ : ∃ W1, w.alloc (.cells #[.int .i64 k.1, .int .i64 k.2] 29) = W1 := ⟨_, rfl⟩
  have hb1 : Below w.heap.size w W1 := by rw [← hW1]; exact (Below.refl _ _).alloc (Nat.le_refl _) _
  have hk1 : W1.heap[w.heap.size]? = some (.cells #[.int .i64 k.1, .int .i64 k.2] 29 (0, 0)) := by rw [← hW1]; exact alloc_newV w _
  have d0 : W1.cell? ⟨w.heap.size, 0, none⟩ = some (.int .i64 k.1) := by rw [cell_of_row _ _ 0 _ _ _ hk1]; rfl
  have d1 : W1.cell? ⟨w.heap.size, 1, none⟩ = some (.int .i64 k.2) := by rw [cell_of_row _ _ 1 _ _ _ hk1]; rfl
  have HB1 := hide hb1
  have HU := hide (under_yes k c sb n m W1 (h.later hb1) hk hc)
  have HP := hide (fun (W : World) (hC : CH W B c L) => last_yes B c L q p W hC hr hl h0 hp)
  have C1 := hide (hC.later hb1)
  clear h hk1 hb1 hk hc hC hr hl h0 hp
  go_enter Tryd.func14, Tryd.ntmps14
  go_wp2_with fail
  refine HU.out.mono ?_
  rintro e w2 ⟨rfl, hb2⟩
  have C2 := hide (C1.out.later hb2)
  have B2 := hide (HB1.out.trans (hb2.mono HB1.out.size))
  clear hb2 HU C1 d0 d1
  go_wp2_with fail
  refine (HP.out _ C2.out).mono ?_
  rintro e w3 ⟨rfl, hb3⟩
  have B3 := hide (B2.out.trans (hb3.mono B2.out.size))
  clear hb3 HP C2
  go_wp2_with fail
  go_ret3
  exact ⟨rfl, B3.out⟩
set_option maxRecDepth 100000 in
theorem shardsS_any (sb n : Nat) (m : Nat → Nat × List (Ky × Nat)) (w : World) (h : ST w sb n m) :
    Calls Tryd.prog 20 #[.pointer (some ⟨sb, 0, none⟩)] w fun e w' => e = .returned (.int .i64 (n : Int)) ∧ Below w.heap.size w w' := by
  obtain ⟨g, x1, x2, x3, q1, _⟩ := h.hdr
  have c0 : w.cell? ⟨sb, 0, none⟩ = some (.slice (some ⟨g, 0, none⟩) n n) := by rw [cell_of_row _ _ 0 _ _ _ q1]; rfl
  clear h q1
  go_enter Tryd.func20, Tryd.ntmps20
  go_wp2_with fail
  go_ret
  exact ⟨rfl, Below.refl _ _⟩
end Go.Proofs.YtnjjehlfgoggfaaDoor
