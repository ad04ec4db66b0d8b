/-
  My own text: the law BalanceSame (printed by mkbs.py).
-/
import Derived.Test.YtmebomifakmkbaaDoorB8
import Derived.Test.YtmebomifakmkbaaDoorB9
import Derived.Test.YtmebomifakmkbaaDoorBK1
import Derived.Test.YtmebomifakmkbaaDoorGr0
import Derived.Test.YtmebomifakmkbaaDoorHeld
namespace Go.Proofs.YtmebomifakmkbaaDoor
open Go.RowKit

set_option maxRecDepth 100000 in
set_option maxHeartbeats 4000000 in
theorem same_law (a b : Int) (va vb : Value) (A B : List Mk) (w : World) (ha : RM w va A) (hb : RM w vb B) (hla : A.length ≤ 8796093022000) (hlb : B.length ≤ 8796093022000) (hE : ErrType w) :
    Calls Tryd.prog 5 #[.agg #[.int .i64 a, va], .agg #[.int .i64 b, vb]] w fun e w' => e = .returned (.bool true) ∧ Below w.heap.size w w' := by
  have HA := hide ha
  have HB := hide hb
  have HL := hide (And.intro hla hlb)
  obtain ⟨aa, ca, rfl, _, _⟩ := ha
  obtain ⟨ab, cb, rfl, _, _⟩ := hb
  have HWK := hide (fun (W : World) (hb : Below w.heap.size w W) => works_any W (hE.below hb))
  have HLA := hide (fun (W : World) (hw : Below w.heap.size w W) => lentPos_any a _ A W (HA.out.later hw) hla)
  have HLB := hide (fun (W : World) (hw : Below w.heap.size w W) => lentPos_any b _ B W (HB.out.later hw) hlb)
  have B0 := hide (((Below.refl w.heap.size w).alloc (Nat.le_refl _) (.cells #[.int .i64 a, .slice aa A.length ca] 24)).alloc (by simp) (.cells #[.int .i64 b, .slice ab B.length cb] 24))
  have X0 := hide (alloc_block (o := .cells #[.int .i64 b, .slice ab B.length cb] 24) (Px.new w a (.slice aa A.length ca)))
  have Y0 := hide (alloc_new (w.alloc (.cells #[.int .i64 a, .slice aa A.length ca] 24)) (.cells #[.int .i64 b, .slice ab B.length cb] 24))
  rw [show (w.alloc (.cells #[.int .i64 a, .slice aa A.length ca] 24)).heap.size = w.heap.size + 1 by simp] at Y0
  obtain ⟨x0, x1⟩ := pair_cells X0.out rfl
  obtain ⟨y0, y1⟩ := pair_cells Y0.out rfl
  clear hla hlb hE
  go_enter Tryd.func5, Tryd.ntmps5
  go_wp2_with fail
  refine (HLA.out _ B0.out).mono ?_
  rintro e w1 ⟨gx, cx, rfl, hlx, hb⟩
  have bA : Below w1.heap.size w1 (w1.alloc (.cells #[.int .i64 a, .slice (some ⟨gx, 0, none⟩) A.length cx] 24)) := (Below.refl _ _).alloc (Nat.le_refl _) _
  have B1 := hide ((B0.out.trans (hb.mono B0.out.size)).trans (bA.mono (Nat.le_trans B0.out.size hb.size)))
  have X1 := hide (blk_later (blk_later X0.out hb) bA)
  have Y1 := hide (blk_later (blk_later Y0.out hb) bA)
  have P1 := hide (alloc_new w1 (.cells #[.int .i64 a, .slice (some ⟨gx, 0, none⟩) A.length cx] 24))
  have L1 := hide (hlx.later bA)
  clear x0 x1 y0 y1 hb bA hlx
  obtain ⟨x0, x1⟩ := pair_cells X1.out rfl
  obtain ⟨y0, y1⟩ := pair_cells Y1.out rfl
  go_wp2_with fail
  refine (HLB.out _ B1.out).mono ?_
  rintro e w2 ⟨gy, cy, rfl, hly, hb⟩
  have bA : Below w2.heap.size w2 (w2.alloc (.cells #[.int .i64 b, .slice (some ⟨gy, 0, none⟩) B.length cy] 24)) := (Below.refl _ _).alloc (Nat.le_refl _) _
  have B2 := hide ((B1.out.trans (hb.mono B1.out.size)).trans (bA.mono (Nat.le_trans B1.out.size hb.size)))
  have X2 := hide (blk_later (blk_later X1.out hb) bA)
  have Y2 := hide (blk_later (blk_later Y1.out hb) bA)
  have P2 := hide (blk_later (blk_later P1.out hb) bA)
  have Q2 := hide (alloc_new w2 (.cells #[.int .i64 b, .slice (some ⟨gy, 0, none⟩) B.length cy] 24))
  have L2 := hide ((L1.out.later hb).later bA)
  have M2 := hide (hly.later bA)
  clear x0 x1 y0 y1 hb bA hly
  go_wp2_with fail
  generalize w2.alloc (.cells #[.int .i64 b, .slice (some ⟨gy, 0, none⟩) B.length cy] 24) = V at *
  have RA := hide (HA.out.later B2.out)
  have RB := hide (HB.out.later B2.out)
  have HS1 := hide (fun x : Gr V => same_any a b (.slice (some ⟨gx, 0, none⟩) A.length cx) (.slice (some ⟨gy, 0, none⟩) B.length cy) A B x.1 (L2.out.rm.later x.2) (M2.out.rm.later x.2) (by have := HL.out.1; omega) (by have := HL.out.2; omega))
  have HS2 := hide (fun x : Gr V => same_any b a (.slice (some ⟨gy, 0, none⟩) B.length cy) (.slice (some ⟨gx, 0, none⟩) A.length cx) B A x.1 (M2.out.rm.later x.2) (L2.out.rm.later x.2) (by have := HL.out.2; omega) (by have := HL.out.1; omega))
  have HS3 := hide (fun x : Gr V => sameP_any a b (.slice aa A.length ca) (.slice ab B.length cb) A B x.1 (RA.out.later x.2) (RB.out.later x.2) (by have := HL.out.1; omega) (by have := HL.out.2; omega))
  rw [show decide (b = a ∧ B = A) = decide (a = b ∧ A = B) by rw [Bool.eq_iff_iff, decide_eq_true_eq, decide_eq_true_eq]; exact ⟨fun h => ⟨h.1.symm, h.2.symm⟩, fun h => ⟨h.1.symm, h.2.symm⟩⟩] at HS2
  generalize decide (a = b ∧ A = B) = R at *
  have heq : (R != R) = false := by simp
  have g0 : ∀ x : Gr V, x.1.cell? ⟨w.heap.size, 0, none⟩ = some (.int .i64 a) := fun x => (pair_cells (blk_later X2.out x.2) rfl).1
  have g1 : ∀ x : Gr V, x.1.cell? ⟨w.heap.size, 1, none⟩ = some (.slice aa A.length ca) := fun x => (pair_cells (blk_later X2.out x.2) rfl).2
  have g2 : ∀ x : Gr V, x.1.cell? ⟨w.heap.size + 1, 0, none⟩ = some (.int .i64 b) := fun x => (pair_cells (blk_later Y2.out x.2) rfl).1
  have g3 : ∀ x : Gr V, x.1.cell? ⟨w.heap.size + 1, 1, none⟩ = some (.slice ab B.length cb) := fun x => (pair_cells (blk_later Y2.out x.2) rfl).2
  have g4 : ∀ x : Gr V, x.1.cell? ⟨w1.heap.size, 0, none⟩ = some (.int .i64 a) := fun x => (pair_cells (blk_later P2.out x.2) rfl).1
  have g5 : ∀ x : Gr V, x.1.cell? ⟨w1.heap.size, 1, none⟩ = some (.slice (some ⟨gx, 0, none⟩) A.length cx) := fun x => (pair_cells (blk_later P2.out x.2) rfl).2
  have g6 : ∀ x : Gr V, x.1.cell? ⟨w2.heap.size, 0, none⟩ = some (.int .i64 b) := fun x => (pair_cells (blk_later Q2.out x.2) rfl).1
  have g7 : ∀ x : Gr V, x.1.cell? ⟨w2.heap.size, 1, none⟩ = some (.slice (some ⟨gy, 0, none⟩) B.length cy) := fun x => (pair_cells (blk_later Q2.out x.2) rfl).2
  have HG0 := hide ((Below.refl V.heap.size V).drew)
  haveI : Nonempty (Gr V) := ⟨⟨_, HG0.out⟩⟩
  refine region_class (C := fun w' => ∃ x : Gr V, w' = x.1) (by kernel_rfl) (by kernel_rfl) ⟨⟨_, HG0.out⟩, rfl⟩ ?_
  repeat (first
    | go_big_quiet_skip
    | (go_big_quiet_want; (go_big_quiet_op; first
        | go_big_quiet_on
        | (apply Exists.intro; refine ⟨fun x => ?_, ?_⟩; (first
            | (go_at_call 23; exact x.call (HS3.out x))
            | (go_at_call 25; with_reducible exact x.call (HS1.out x))
            | (go_at_call 25; with_reducible exact x.call (HS2.out x))); go_big_quiet_on))))
  refine wpQuiet_nil ?_
  rintro w8 ⟨x, rfl⟩
  obtain ⟨w8, hx8⟩ := x
  dsimp only
  have B8 := hide (B2.out.trans (hx8.mono B2.out.size))
  have X8 := hide (blk_later X2.out hx8)
  have Y8 := hide (blk_later Y2.out hx8)
  have P8 := hide (blk_later P2.out hx8)
  have Q8 := hide (blk_later Q2.out hx8)
  have L8 := hide (L2.out.later hx8)
  have M8 := hide (M2.out.later hx8)
  clear g0 g1 g2 g3 g4 g5 g6 g7 hx8 HS1 HS2 HS3 HG0 this
  have HS4 := hide (fun (W : World) (hb : Below w8.heap.size w8 W) => same_any a a (.slice (some ⟨gx, 0, none⟩) A.length cx) (.slice aa A.length ca) A A W (L8.out.rm.later hb) ((HA.out.later B8.out).later hb) (by have := HL.out.1; omega) (by have := HL.out.1; omega))
  have HS5 := hide (fun (W : World) (hb : Below w8.heap.size w8 W) => same_any b b (.slice ab B.length cb) (.slice (some ⟨gy, 0, none⟩) B.length cy) B B W ((HB.out.later B8.out).later hb) (M8.out.rm.later hb) (by have := HL.out.2; omega) (by have := HL.out.2; omega))
  rw [show decide (a = a ∧ A = A) = true by simp] at HS4
  rw [show decide (b = b ∧ B = B) = true by simp] at HS5
  have HK4 := hide (fun (W : World) (hb : Below w8.heap.size w8 W) => keptPos_any a (.slice aa A.length ca) A _ gx cx W ((HA.out.later B8.out).later hb) (L8.out.later hb) HL.out.1)
  have HK5 := hide (fun (W : World) (hb : Below w8.heap.size w8 W) => keptPos_any b (.slice ab B.length cb) B _ gy cy W ((HB.out.later B8.out).later hb) (M8.out.later hb) HL.out.2)
  obtain ⟨x0, x1⟩ := pair_cells X8.out rfl
  obtain ⟨y0, y1⟩ := pair_cells Y8.out rfl
  obtain ⟨p0, p1⟩ := pair_cells P8.out rfl
  obtain ⟨q0, q1⟩ := pair_cells Q8.out rfl
  have C0 := hide (Below.refl w8.heap.size w8)
  go_wp2_with fail
  refine (HS4.out _ C0.out).mono ?_
  rintro e u1 ⟨rfl, hb⟩
  have C1 := hide (C0.out.trans (hb.mono C0.out.size))
  clear hb x0 x1 y0 y1 p0 p1 q0 q1
  obtain ⟨x0, x1⟩ := pair_cells (blk_later X8.out C1.out) rfl
  obtain ⟨y0, y1⟩ := pair_cells (blk_later Y8.out C1.out) rfl
  obtain ⟨p0, p1⟩ := pair_cells (blk_later P8.out C1.out) rfl
  obtain ⟨q0, q1⟩ := pair_cells (blk_later Q8.out C1.out) rfl
  go_wp2_with fail
  refine (HS5.out _ C1.out).mono ?_
  rintro e u2 ⟨rfl, hb⟩
  have C2 := hide (C1.out.trans (hb.mono C1.out.size))
  clear hb x0 x1 y0 y1 p0 p1 q0 q1
  obtain ⟨x0, x1⟩ := pair_cells (blk_later X8.out C2.out) rfl
  obtain ⟨y0, y1⟩ := pair_cells (blk_later Y8.out C2.out) rfl
  obtain ⟨p0, p1⟩ := pair_cells (blk_later P8.out C2.out) rfl
  obtain ⟨q0, q1⟩ := pair_cells (blk_later Q8.out C2.out) rfl
  go_wp2_with fail
  refine (HK4.out _ C2.out).mono ?_
  rintro e u3 ⟨rfl, hb⟩
  have C3 := hide (C2.out.trans (hb.mono C2.out.size))
  clear hb x0 x1 y0 y1 p0 p1 q0 q1
  obtain ⟨x0, x1⟩ := pair_cells (blk_later X8.out C3.out) rfl
  obtain ⟨y0, y1⟩ := pair_cells (blk_later Y8.out C3.out) rfl
  obtain ⟨p0, p1⟩ := pair_cells (blk_later P8.out C3.out) rfl
  obtain ⟨q0, q1⟩ := pair_cells (blk_later Q8.out C3.out) rfl
  go_wp2_with fail
  refine (HK5.out _ C3.out).mono ?_
  rintro e u4 ⟨rfl, hb⟩
  have C4 := hide (C3.out.trans (hb.mono C3.out.size))
  clear hb x0 x1 y0 y1 p0 p1 q0 q1
  obtain ⟨x0, x1⟩ := pair_cells (blk_later X8.out C4.out) rfl
  obtain ⟨y0, y1⟩ := pair_cells (blk_later Y8.out C4.out) rfl
  obtain ⟨p0, p1⟩ := pair_cells (blk_later P8.out C4.out) rfl
  obtain ⟨q0, q1⟩ := pair_cells (blk_later Q8.out C4.out) rfl
  go_wp2_with fail
  refine (HWK.out _ (B8.out.trans (C4.out.mono B8.out.size))).mono ?_
  rintro e u5 ⟨rfl, hb⟩
  have B9 := hide ((B8.out.trans (C4.out.mono B8.out.size)).trans (hb.mono (Nat.le_trans B8.out.size C4.out.size)))
  clear hb
  go_wp2_with fail
  go_ret
  exact ⟨rfl, B9.out⟩
end Go.Proofs.YtmebomifakmkbaaDoor

