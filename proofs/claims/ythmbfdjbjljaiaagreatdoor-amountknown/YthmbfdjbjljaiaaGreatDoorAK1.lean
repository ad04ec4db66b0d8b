/-
  My own text: what the closed law on amounts leans on; products.
-/
import Derived.Test.YthmbfdjbjljaiaaGreatDoorLMulDiv
import Derived.Test.YthmbfdjbjljaiaaGreatDoorHeld
namespace Go.Proofs.YthmbfdjbjljaiaaGreatDoor
open Go.RowKit

def IB (w : World) (g n : Nat) (lo hi : Int) : Prop := g < w.heap.size ∧ ∀ j, j < n → ∃ x : Int, w.cell? ⟨g, j, none⟩ = some (.int .i64 x) ∧ lo ≤ x ∧ x ≤ hi
theorem IB.low {w w' : World} {g n : Nat} {lo hi : Int} (h : IB w g n lo hi) (hb : Below w.heap.size w w') : IB w' g n lo hi :=
  ⟨Nat.lt_of_lt_of_le h.1 hb.size, fun j hj => by
    obtain ⟨x, hx, h2⟩ := h.2 j hj
    exact ⟨x, (hb.cell (p := ⟨g, j, none⟩) h.1).trans hx, h2⟩⟩
theorem IB.new (w : World) (L : List Int) (t : TypeId) (lo hi : Int) (hl : ∀ x ∈ L, lo ≤ x ∧ x ≤ hi) : IB (w.alloc (.cells (L.map (Value.int .i64)).toArray t)) w.heap.size L.length lo hi := by
  have h := (MapKept.heap_alloc w (.cells (L.map (Value.int .i64)).toArray t)).1
  refine ⟨by simp, fun j hj => ⟨L[j], ?_, hl _ (List.getElem_mem hj)⟩⟩
  unfold World.cell?
  rw [h]
  simp [hj]
theorem below_new {B : Nat} {w w' : World} (hb : Below B w w') (hB : B ≤ w.heap.size) (o : Obj) : Below B w (w'.alloc o) := hb.alloc (Nat.le_trans hB hb.size) o
theorem below_on {B : Nat} {w w1 w2 : World} (hb : Below B w w1) (h2 : Below w1.heap.size w1 w2) (hB : B ≤ w.heap.size) : Below B w w2 := hb.trans (h2.mono (Nat.le_trans hB hb.size))
def GrowK (w0 : World) : Type := { w' : World // Below w0.heap.size w0 w' }
theorem GrowK.call {w0 : World} (z : GrowK w0) {P : Program} {f : FuncId} {args : Array Value} {v : Value} (h : Calls P f args z.1 fun e w' => e = .returned v ∧ Below z.1.heap.size z.1 w') :
    Calls P f args z.1 fun e w' => e = .returned v ∧ ∃ r : GrowK w0, w' = r.1 :=
  h.mono fun _ w' ⟨he, hb⟩ => ⟨he, ⟨w', z.2.trans (hb.mono z.2.size)⟩, rfl⟩
theorem quiet_cell {P : Program} {o : Oper} {a : Act} {C : World → Prop} {K : Act → Prop} (ty : TypeId) (x : Operand) (h : o.op = .load ty x) (b n : Nat) (hx : a.eval x = .pointer (some ⟨b, n, none⟩)) (v : Int)
    (hc : ∀ w, C w → w.cell? ⟨b, n, none⟩ = some (.int .i64 v)) (hu : P.underlying ty = some (.int .i64)) (hk : K (a.put o.dst (.int .i64 v))) : o.quiet P a C K :=
  ⟨_, fun w hw => by
    have h1 := hc w hw
    have hr : (Instr.loadAt ty (.pointer (some ⟨b, n, none⟩))).run P w = .ok (.int .i64 v) w := by
      have hA : (isAgg ty).run P w = .ok false w := by unfold isAgg; simp [Sem.run_bind, run_underlying hu]
      simp [go_sem, Instr.loadAt, Instr.sureAddr, hA, h1]
    unfold Oper.quietAt
    simp [execOp, h, hx, hr, Oper.quietUpon], hk⟩
set_option maxRecDepth 100000 in
set_option maxHeartbeats 4000000 in
theorem products_known (w : World) (hE : ErrType w) :
    Calls Tryz.prog 5 #[] w fun e w' => e = .returned (.bool true) ∧ Below w.heap.size w w' := by
  have HE := hide hE
  have HA := hide (IB.new w [-1, 0, 1, 2, 3, 5, 7, 4294967296, 2305843009213693952, 4611686018427387904, 9223372036854775806, 9223372036854775807] 2 (-1) 9223372036854775807 (by decide))
  have HB0 := hide (below_new (Below.refl w.heap.size w) (Nat.le_refl _) (.cells (([-1, 0, 1, 2, 3, 5, 7, 4294967296, 2305843009213693952, 4611686018427387904, 9223372036854775806, 9223372036854775807] : List Int).map (Value.int .i64)).toArray 2))
  clear hE
  go_enter Tryz.func5, Tryz.ntmps5
  go_wp2_with fail
  go_loopw [2] (fun i wr => ∃ k : Nat, k ≤ 12 ∧ i = .int .i64 k ∧ Hid (Below w.heap.size w wr) ∧ Hid (IB wr w.heap.size 12 (-1) 9223372036854775807)) (fun i _ => 12 - (intOf i).toNat)
  case atStart => exact ⟨0, Nat.zero_le _, rfl, HB0, HA⟩
  case round =>
    clear HA HB0
    obtain ⟨i1, hi1, rfl, HB, HI⟩ := hrel
    by_cases hl1 : i1 < 12
    · have hd1 : decide ((i1 : Int) < 12) = true := by rw [decide_eq_true_eq]; omega
      go_wp2_with fail
      go_loopw [3] (fun i wr => ∃ k : Nat, k ≤ 12 ∧ i = .int .i64 k ∧ Hid (Below w.heap.size w wr) ∧ Hid (IB wr w.heap.size 12 (-1) 9223372036854775807)) (fun i _ => 12 - (intOf i).toNat)
      case atStart => exact ⟨0, Nat.zero_le _, rfl, HB, HI⟩
      case round =>
        clear HB HI
        obtain ⟨i2, hi2, rfl, HB, HI⟩ := hrel
        by_cases hl2 : i2 < 12
        · have hd2 : decide ((i2 : Int) < 12) = true := by rw [decide_eq_true_eq]; omega
          go_wp2_with fail
          go_loopw [4] (fun i wr => ∃ k : Nat, k ≤ 12 ∧ i = .int .i64 k ∧ Hid (Below w.heap.size w wr) ∧ Hid (IB wr w.heap.size 12 (-1) 9223372036854775807)) (fun i _ => 12 - (intOf i).toNat)
          case atStart => exact ⟨0, Nat.zero_le _, rfl, HB, HI⟩
          case round =>
            clear HB HI
            obtain ⟨i3, hi3, rfl, HB, HI⟩ := hrel
            by_cases hl3 : i3 < 12
            · have hd3 : decide ((i3 : Int) < 12) = true := by rw [decide_eq_true_eq]; omega
              go_wp2_with fail
              go_loopw [5] (fun m wr => ∃ t : Int, -1 ≤ t ∧ t ≤ 5 ∧ m = .int .i64 t ∧ Hid (Below w.heap.size w wr) ∧ Hid (IB wr w.heap.size 12 (-1) 9223372036854775807)) (fun m _ => (5 - intOf m).toNat)
              case atStart => exact ⟨-1, by omega, by omega, rfl, HB, HI⟩
              case round =>
                clear HB HI
                obtain ⟨t, t0, t1, rfl, HB, HI⟩ := hrel
                by_cases htl : t < 5
                · have hd4 : decide (t ≤ 4) = true := by rw [decide_eq_true_eq]; omega
                  obtain ⟨x, hx, x0, x1⟩ := HI.out.2 i1 hl1
                  obtain ⟨y, hy, y0, y1⟩ := HI.out.2 i2 hl2
                  obtain ⟨z, hz, z0, z1⟩ := HI.out.2 i3 hl3
                  have hlx : w.heap.size < wr.heap.size := HI.out.1
                  have HX0 : Hid (Below wr.heap.size wr wr.drew) := hide (Below.refl _ _).drew
                  have HCX : Hid (∀ W, Below wr.heap.size wr W → W.cell? ⟨w.heap.size, i1, none⟩ = some (.int .i64 x)) := hide (fun W hW => (hW.cell (p := ⟨w.heap.size, i1, none⟩) hlx).trans hx)
                  have HCY : Hid (∀ W, Below wr.heap.size wr W → W.cell? ⟨w.heap.size, i2, none⟩ = some (.int .i64 y)) := hide (fun W hW => (hW.cell (p := ⟨w.heap.size, i2, none⟩) hlx).trans hy)
                  have HCZ : Hid (∀ W, Below wr.heap.size wr W → W.cell? ⟨w.heap.size, i3, none⟩ = some (.int .i64 z)) := hide (fun W hW => (hW.cell (p := ⟨w.heap.size, i3, none⟩) hlx).trans hz)
                  clear hx hy hz
                  go_wp2_with fail
                  haveI : Nonempty (GrowK wr) := ⟨⟨_, HX0.out⟩⟩
                  refine region_class (C := fun W => ∃ z : GrowK wr, W = z.1) (by kernel_rfl) (by kernel_rfl) ⟨⟨_, HX0.out⟩, rfl⟩ ?_
                  repeat (first
                    | go_big_quiet_skip
                    | (go_big_quiet_want; first
                        | (refine quiet_cell 2 _ rfl w.heap.size i1 rfl x (fun W ⟨z, hz⟩ => by subst hz; exact HCX.out _ z.2) Tryz.underlying2 ?_; simp only [Act.put, List.setIfInBounds_toArray, List.set_cons_zero, List.set_cons_succ]; go_big_quiet_on)
                        | (refine quiet_cell 2 _ rfl w.heap.size i2 rfl y (fun W ⟨z, hz⟩ => by subst hz; exact HCY.out _ z.2) Tryz.underlying2 ?_; simp only [Act.put, List.setIfInBounds_toArray, List.set_cons_zero, List.set_cons_succ]; go_big_quiet_on)
                        | (refine quiet_cell 2 _ rfl w.heap.size i3 rfl z (fun W ⟨z, hz⟩ => by subst hz; exact HCZ.out _ z.2) Tryz.underlying2 ?_; simp only [Act.put, List.setIfInBounds_toArray, List.set_cons_zero, List.set_cons_succ]; go_big_quiet_on)
                        | (go_big_quiet_op; first
                            | go_big_quiet_on
                            | (apply Exists.intro; refine ⟨fun q => ?_, ?_⟩; (first
                                | (go_at_call 15; exact q.call (mulDiv_law x y z t q.1 (HE.out.below (below_on HB.out q.2 (Nat.le_refl _))) x1 y1 z1))); go_big_quiet_on))))
                  refine wpQuiet_nil ?_
                  rintro w3 ⟨q3, rfl⟩
                  obtain ⟨w3, hw3⟩ := q3
                  dsimp only
                  have HB3 := hide (below_on HB.out hw3 (Nat.le_refl _))
                  have HI3 := hide (HI.out.low hw3)
                  clear HX0 this hw3 HB HI HCX HCY HCZ
                  go_wp2_with fail
                  go_roundw
                  case rel => exact ⟨t + 1, by omega, by omega, by go_num, HB3, HI3⟩
                  case measure => simp [intOf]; omega
                · have ht' : t = 5 := by omega
                  subst ht'
                  go_wp2_with fail
                  go_roundw
                  case rel => exact ⟨i3 + 1, by omega, by go_num, HB, HI⟩
                  case measure => simp [intOf]; omega
            · have h' : i3 = 12 := by omega
              subst h'
              rw [show ((12 : Nat) : Int) = 12 from rfl]
              go_wp2_with fail
              go_roundw
              case rel => exact ⟨i2 + 1, by omega, by go_num, HB, HI⟩
              case measure => simp [intOf]; omega
        · have h' : i2 = 12 := by omega
          subst h'
          rw [show ((12 : Nat) : Int) = 12 from rfl]
          go_wp2_with fail
          go_roundw
          case rel => exact ⟨i1 + 1, by omega, by go_num, HB, HI⟩
          case measure => simp [intOf]; omega
    · have h' : i1 = 12 := by omega
      subst h'
      rw [show ((12 : Nat) : Int) = 12 from rfl]
      clear HI hl1 hi1
      go_wp2_with fail
      go_loopw [7] (fun m wr => ∃ t : Int, 0 ≤ t ∧ t ≤ 4 ∧ m = .int .i64 t ∧ Hid (Below w.heap.size w wr)) (fun m _ => (4 - intOf m).toNat)
      case atStart => exact ⟨0, by omega, by omega, rfl, HB⟩
      case round =>
        clear HB
        obtain ⟨t, t0, t1, rfl, HB⟩ := hrel
        by_cases htl : t < 4
        · have hd4 : decide (t ≤ 3) = true := by rw [decide_eq_true_eq]; omega
          have hB0 := HB.out
          go_wp2_with fail
          refine (mulDiv_law _ _ _ _ _ (HE.out.below hB0) (by omega) (by omega) (by omega)).mono ?_
          rintro e v0 ⟨rfl, hb⟩
          have hB1 := below_on hB0 hb (Nat.le_refl _)
          clear hb
          go_wp2_with fail
          refine (mulDiv_law _ _ _ _ _ (HE.out.below hB1) (by omega) (by omega) (by omega)).mono ?_
          rintro e v1 ⟨rfl, hb⟩
          have hB2 := below_on hB1 hb (Nat.le_refl _)
          clear hb
          go_wp2_with fail
          refine (mulDiv_law _ _ _ _ _ (HE.out.below hB2) (by omega) (by omega) (by omega)).mono ?_
          rintro e v2 ⟨rfl, hb⟩
          have hB3 := below_on hB2 hb (Nat.le_refl _)
          clear hb
          go_wp2_with fail
          refine (mulDiv_law _ _ _ _ _ (HE.out.below hB3) (by omega) (by omega) (by omega)).mono ?_
          rintro e v3 ⟨rfl, hb⟩
          have hB4 := below_on hB3 hb (Nat.le_refl _)
          clear hb
          go_wp2_with fail
          go_roundw
          case rel => exact ⟨t + 1, by omega, by omega, by go_num, hide hB4⟩
          case measure => simp [intOf]; omega
        · have ht' : t = 4 := by omega
          subst ht'
          have hB0 := HB.out
          go_wp2_with fail
          have h0 := fun W : World => mulDiv_any 5 1 2 3 W (by omega) (by omega) (by omega)
          rw [show mdV 5 1 2 3 = 2 from by decide, show errV (mdE 5 1 2 3) = .nilIface from rfl] at h0
          refine (h0 _).mono ?_
          rintro e v0 ⟨rfl, hb⟩
          have hB1 := below_on hB0 hb (Nat.le_refl _)
          clear hb h0
          go_wp2_with fail
          have h1 := fun W : World => mulDiv_any 7 1 2 3 W (by omega) (by omega) (by omega)
          rw [show mdV 7 1 2 3 = 4 from by decide, show errV (mdE 7 1 2 3) = .nilIface from rfl] at h1
          refine (h1 _).mono ?_
          rintro e v1 ⟨rfl, hb⟩
          have hB2 := below_on hB1 hb (Nat.le_refl _)
          clear hb h1
          go_wp2_with fail
          have h2 := fun W : World => mulDiv_any 5 1 2 2 W (by omega) (by omega) (by omega)
          rw [show mdV 5 1 2 2 = 3 from by decide, show errV (mdE 5 1 2 2) = .nilIface from rfl] at h2
          refine (h2 _).mono ?_
          rintro e v2 ⟨rfl, hb⟩
          have hB3 := below_on hB2 hb (Nat.le_refl _)
          clear hb h2
          go_wp2_with fail
          go_ret
          exact ⟨rfl, hB3⟩
end Go.Proofs.YthmbfdjbjljaiaaGreatDoor
