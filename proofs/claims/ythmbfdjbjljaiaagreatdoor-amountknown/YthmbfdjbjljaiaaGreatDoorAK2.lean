/-
  My own text: the closed law on amounts: texts.
-/
import Derived.Test.YthmbfdjbjljaiaaGreatDoorLTexts
import Derived.Test.YthmbfdjbjljaiaaGreatDoorAK1
namespace Go.Proofs.YthmbfdjbjljaiaaGreatDoor
open Go.RowKit

def IS (w : World) (g n : Nat) : Prop := g < w.heap.size ∧ ∀ j, j < n → ∃ l : List UInt8, w.cell? ⟨g, j, none⟩ = some (.string ⟨l.toArray⟩) ∧ l.length ≤ 1000
theorem IS.low {w w' : World} {g n : Nat} (h : IS w g n) (hb : Below w.heap.size w w') : IS w' g n :=
  ⟨Nat.lt_of_lt_of_le h.1 hb.size, fun j hj => by
    obtain ⟨x, hx, h2⟩ := h.2 j hj
    exact ⟨x, (hb.cell (p := ⟨g, j, none⟩) h.1).trans hx, h2⟩⟩
theorem IS.new (w : World) (L : List (List UInt8)) (t : TypeId) (hl : ∀ x ∈ L, x.length ≤ 1000) : IS (w.alloc (.cells (L.map fun x => Value.string ⟨x.toArray⟩).toArray t)) w.heap.size L.length := by
  have h := (MapKept.heap_alloc w (.cells (L.map fun x => Value.string ⟨x.toArray⟩).toArray t)).1
  refine ⟨by simp, fun j hj => ⟨L[j], ?_, hl _ (List.getElem_mem hj)⟩⟩
  unfold World.cell?
  rw [h]
  simp [hj]
theorem quiet_cellV {P : Program} {o : Oper} {a : Act} {C : World → Prop} {K : Act → Prop} (ty : TypeId) (x : Operand) (h : o.op = .load ty x) (b n : Nat) (hx : a.eval x = .pointer (some ⟨b, n, none⟩)) (v : Value)
    (hc : ∀ w, C w → w.cell? ⟨b, n, none⟩ = some v) (hA : ∀ w, (isAgg ty).run P w = .ok false w) (hk : K (a.put o.dst v)) : o.quiet P a C K :=
  ⟨_, fun w hw => by
    have h1 := hc w hw
    have hr : (Instr.loadAt ty (.pointer (some ⟨b, n, none⟩))).run P w = .ok v w := by
      simp [go_sem, Instr.loadAt, Instr.sureAddr, hA w, h1]
    unfold Oper.quietAt
    simp [execOp, h, hx, hr, Oper.quietUpon], hk⟩
theorem Tryz.aggStr (w : World) : (isAgg 9).run Tryz.prog w = .ok false w := by unfold isAgg; simp [Sem.run_bind, run_underlying Tryz.underlying9]
def txtL : List (List UInt8) := [[], [46], [46, 46], [48], [48, 48], [55, 46], [46, 53], [48, 49, 50, 46, 51], [49, 46, 50, 51], [49, 46, 50, 51, 48], [49, 46, 50, 46, 51], [45, 49], [43, 49], [32, 49], [49, 32], [49, 101, 51], [97], [49, 44, 53], [217, 161], [57, 50, 50, 51, 51, 55, 50, 48, 51, 54, 56, 53, 52, 55, 55, 53, 56, 48, 55], [57, 50, 50, 51, 51, 55, 50, 48, 51, 54, 56, 53, 52, 55, 55, 53, 56, 48, 56], [57, 50, 50, 51, 51, 55, 50, 48, 51, 54, 56, 53, 52, 55, 55, 53, 56, 46, 48, 55], [57, 50, 50, 51, 51, 55, 50, 48, 51, 54, 56, 53, 52, 55, 55, 53, 56, 46, 48, 56], [57, 46, 50, 50, 51, 51, 55, 50, 48, 51, 54, 56, 53, 52, 55, 55, 53, 56, 48, 55], [57, 46, 50, 50, 51, 51, 55, 50, 48, 51, 54, 56, 53, 52, 55, 55, 53, 56, 48, 56], [48, 46, 48, 48, 48, 48, 48, 48, 48, 48, 48, 48, 48, 48, 48, 48, 48, 48, 48, 49], [48, 46, 48, 48, 48, 48, 48, 48, 48, 48, 48, 48, 48, 48, 48, 48, 48, 48, 48, 48, 49], [49, 56, 52, 52, 54, 55, 52, 52, 48, 55, 51, 55, 48, 57, 53, 53, 49, 54, 49, 55]]
theorem fmt1234 : fmtV 1234 2 = ⟨#[49, 50, 46, 51, 52]⟩ := by
  rw [show (1234 : Int) = ((1234 : Nat) : Int) from rfl, show (2 : Int) = ((2 : Nat) : Int) from rfl, (fmt_ok 1234 2 (by omega)).1]
  simp [fmtL, Lib.decDigits, dgs]
theorem fmt5 : fmtV 5 3 = ⟨#[48, 46, 48, 48, 53]⟩ := by
  rw [show (5 : Int) = ((5 : Nat) : Int) from rfl, show (3 : Int) = ((3 : Nat) : Int) from rfl, (fmt_ok 5 3 (by omega)).1]
  simp [fmtL, Lib.decDigits, dgs]
set_option maxRecDepth 100000 in
set_option maxHeartbeats 4000000 in
theorem texts_known (w : World) (hE : ErrType w) (hP : Pow w) :
    Calls Tryz.prog 7 #[] w fun e w' => e = .returned (.bool true) ∧ Below w.heap.size w w' := by
  have HE := hide hE
  have HP := hide hP
  have HB0 : Hid (Below w.heap.size w ((w.alloc (.cells (txtL.map fun x => Value.string ⟨x.toArray⟩).toArray 9)).alloc (.cells (([-9223372036854775808, -1, 0, 1, 5, 9, 10, 1234, 9223372036854775807] : List Int).map (Value.int .i64)).toArray 2))) := hide (below_new (below_new (Below.refl _ _) (Nat.le_refl _) _) (Nat.le_refl _) _)
  have HS0 : Hid (IS ((w.alloc (.cells (txtL.map fun x => Value.string ⟨x.toArray⟩).toArray 9)).alloc (.cells (([-9223372036854775808, -1, 0, 1, 5, 9, 10, 1234, 9223372036854775807] : List Int).map (Value.int .i64)).toArray 2)) w.heap.size 28) := hide ((IS.new w txtL 9 (by decide)).low ((Below.refl _ _).alloc (Nat.le_refl _) _))
  have HN0 : Hid (IB ((w.alloc (.cells (txtL.map fun x => Value.string ⟨x.toArray⟩).toArray 9)).alloc (.cells (([-9223372036854775808, -1, 0, 1, 5, 9, 10, 1234, 9223372036854775807] : List Int).map (Value.int .i64)).toArray 2)) (w.heap.size + 1) 9 (-9223372036854775808) 9223372036854775807) := hide (by
    have h := IB.new (w.alloc (.cells (txtL.map fun x => Value.string ⟨x.toArray⟩).toArray 9)) [-9223372036854775808, -1, 0, 1, 5, 9, 10, 1234, 9223372036854775807] 2 (-9223372036854775808) 9223372036854775807 (by decide)
    rw [show (w.alloc (.cells (txtL.map fun x => Value.string ⟨x.toArray⟩).toArray 9)).heap.size = w.heap.size + 1 by simp] at h
    exact h)
  clear hE hP
  go_enter Tryz.func7, Tryz.ntmps7
  go_wp2_with fail
  go_loopw [3] (fun m wr => ∃ t : Int, -1 ≤ t ∧ t ≤ 20 ∧ m = .int .i64 t ∧ Hid (Below w.heap.size w wr) ∧ Hid (IS wr w.heap.size 28) ∧ Hid (IB wr (w.heap.size + 1) 9 (-9223372036854775808) 9223372036854775807)) (fun m _ => (20 - intOf m).toNat)
  case atStart => exact ⟨-1, by omega, by omega, rfl, HB0, HS0, HN0⟩
  case round =>
    clear HB0 HS0 HN0
    obtain ⟨t, t0, t1, rfl, HB, HS, HN⟩ := hrel
    by_cases htl : t < 20
    · have hd0 : decide (t ≤ 19) = true := by rw [decide_eq_true_eq]; omega
      go_wp2_with fail
      go_loopw [4] (fun i wr => ∃ k : Nat, k ≤ 28 ∧ i = .int .i64 k ∧ Hid (Below w.heap.size w wr) ∧ Hid (IS wr w.heap.size 28) ∧ Hid (IB wr (w.heap.size + 1) 9 (-9223372036854775808) 9223372036854775807)) (fun i _ => 28 - (intOf i).toNat)
      case atStart => exact ⟨0, Nat.zero_le _, rfl, HB, HS, HN⟩
      case round =>
        clear HB HS HN
        obtain ⟨k, hk, rfl, HB, HS, HN⟩ := hrel
        by_cases hkl : k < 28
        · have hd1 : decide ((k : Int) < 28) = true := by rw [decide_eq_true_eq]; omega
          go_wp2_with fail
          go_loopw [5] (fun i wr => ∃ k : Nat, k ≤ 9 ∧ i = .int .i64 k ∧ Hid (Below w.heap.size w wr) ∧ Hid (IS wr w.heap.size 28) ∧ Hid (IB wr (w.heap.size + 1) 9 (-9223372036854775808) 9223372036854775807)) (fun i _ => 9 - (intOf i).toNat)
          case atStart => exact ⟨0, Nat.zero_le _, rfl, HB, HS, HN⟩
          case round =>
            clear HB HS HN
            obtain ⟨j, hj, rfl, HB, HS, HN⟩ := hrel
            by_cases hjl : j < 9
            · have hd2 : decide ((j : Int) < 9) = true := by rw [decide_eq_true_eq]; omega
              obtain ⟨x, hx, x0, x1⟩ := HN.out.2 j hjl
              obtain ⟨l, hc, hll⟩ := HS.out.2 k hkl
              have hlx := HN.out.1
              have hly := HS.out.1
              have HX0 : Hid (Below wr.heap.size wr wr.drew) := hide (Below.refl _ _).drew
              have HCX : Hid (∀ W, Below wr.heap.size wr W → W.cell? ⟨w.heap.size + 1, j, none⟩ = some (.int .i64 x)) := hide (fun W hW => (hW.cell (p := ⟨w.heap.size + 1, j, none⟩) hlx).trans hx)
              have HCY : Hid (∀ W, Below wr.heap.size wr W → W.cell? ⟨w.heap.size, k, none⟩ = some (.string ⟨l.toArray⟩)) := hide (fun W hW => (hW.cell (p := ⟨w.heap.size, k, none⟩) hly).trans hc)
              have k0 : (0 : Int) ≤ (k : Int) := by omega
              have k1 : (k : Int) < 28 := by omega
              have j0 : (0 : Int) ≤ (j : Int) := by omega
              have j1 : (j : Int) < 9 := by omega
              clear hx hc hlx hly
              go_wp2_with fail
              haveI : Nonempty (GrowK wr) := ⟨⟨_, HX0.out⟩⟩
              refine region_class (C := fun W => ∃ z : GrowK wr, W = z.1) (by kernel_rfl) (by kernel_rfl) ⟨⟨_, HX0.out⟩, rfl⟩ ?_
              repeat (first
                | go_big_quiet_skip
                | (go_big_quiet_want; first
                    | (refine quiet_cell 2 _ rfl (w.heap.size + 1) j rfl x (fun W ⟨z, hz⟩ => by subst hz; exact HCX.out _ z.2) Tryz.underlying2 ?_; simp only [Act.put, List.setIfInBounds_toArray, List.set_cons_zero, List.set_cons_succ]; go_big_quiet_on)
                    | (refine quiet_cellV 9 _ rfl w.heap.size k rfl (.string ⟨l.toArray⟩) (fun W ⟨z, hz⟩ => by subst hz; exact HCY.out _ z.2) Tryz.aggStr ?_; simp only [Act.put, List.setIfInBounds_toArray, List.set_cons_zero, List.set_cons_succ]; go_big_quiet_on)
                    | (go_big_quiet_op; first
                        | go_big_quiet_on
                        | (apply Exists.intro; refine ⟨fun q => ?_, ?_⟩; (first
                            | (go_at_call 21; exact q.call (texts_law x l t q.1 (HE.out.below (below_on HB.out q.2 (Nat.le_refl _))) (HP.out.later (below_on HB.out q.2 (Nat.le_refl _))) x1 (by omega)))); go_big_quiet_on))))
              refine wpQuiet_nil ?_
              rintro w3 ⟨q3, rfl⟩
              obtain ⟨w3, hw3⟩ := q3
              dsimp only
              have HB3 := hide (below_on HB.out hw3 (Nat.le_refl _))
              have HS3 := hide (HS.out.low hw3)
              have HN3 := hide (HN.out.low hw3)
              clear HX0 this hw3 HB HS HN HCX HCY
              go_wp2_with fail
              go_roundw
              case rel => exact ⟨j + 1, by omega, by go_num, HB3, HS3, HN3⟩
              case measure => simp [intOf]; omega
            · have h' : j = 9 := by omega
              subst h'
              rw [show ((9 : Nat) : Int) = 9 from rfl]
              go_wp2_with fail
              go_roundw
              case rel => exact ⟨k + 1, by omega, by go_num, HB, HS, HN⟩
              case measure => simp [intOf]; omega
        · have h' : k = 28 := by omega
          subst h'
          rw [show ((28 : Nat) : Int) = 28 from rfl]
          go_wp2_with fail
          go_roundw
          case rel => exact ⟨t + 1, by omega, by omega, by go_num, HB, HS, HN⟩
          case measure => simp [intOf]; omega
    · have h' : t = 20 := by omega
      subst h'
      clear HS HN htl
      have hB0 := HB.out
      have f1 := fun (W : World) (hP : Pow W) => format_any 1234 2 W hP (by omega)
      rw [fmt1234, show errV (fmtE 1234 2) = .nilIface from rfl] at f1
      have f2 := fun (W : World) (hP : Pow W) => format_any 5 3 W hP (by omega)
      rw [fmt5, show errV (fmtE 5 3) = .nilIface from rfl] at f2
      have f3 := fun (W : World) => parse_any [48, 49, 50, 46, 51] 2 W (by decide)
      rw [show pV [48, 49, 50, 46, 51] 2 = 1230 from by decide, show pE [48, 49, 50, 46, 51] 2 = 0 from by decide, errV_zero] at f3
      have F1 := hide f1
      have F2 := hide f2
      have F3 := hide f3
      clear f1 f2 f3
      go_wp2_with fail
      refine (F1.out _ (HP.out.later hB0)).mono ?_
      rintro e v0 ⟨rfl, hb⟩
      have hB1 := below_on hB0 hb (Nat.le_refl _)
      clear hb
      go_wp2_with fail
      refine (F2.out _ (HP.out.later hB1)).mono ?_
      rintro e v1 ⟨rfl, hb⟩
      have hB2 := below_on hB1 hb (Nat.le_refl _)
      clear hb
      go_wp2_with fail
      refine (F3.out _).mono ?_
      rintro e v2 ⟨rfl, hv⟩
      subst hv
      go_wp2_with fail
      go_ret
      exact ⟨rfl, hB2⟩
end Go.Proofs.YthmbfdjbjljaiaaGreatDoor
