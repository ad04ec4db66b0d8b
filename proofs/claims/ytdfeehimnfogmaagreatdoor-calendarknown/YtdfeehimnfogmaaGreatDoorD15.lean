/-
  My own text: the law on Easter, months and parts of a year.
-/
import Derived.Test.YtdfeehimnfogmaaGreatDoorD8
import Derived.Test.YtdfeehimnfogmaaGreatDoorD10
import Derived.Test.YtdfeehimnfogmaaGreatDoorD14
namespace Go.Proofs.YtdfeehimnfogmaaGreatDoor
open Go.RowKit

/-- A variable of five numbers, in whatever later world. -/
structure Five (w : World) (b : Nat) (x0 x1 x2 x3 x4 : Int) : Prop where
  lt : b < w.heap.size
  c0 : w.cell? ⟨b, 0, none⟩ = some (.int .i64 x0)
  c1 : w.cell? ⟨b, 1, none⟩ = some (.int .i64 x1)
  c2 : w.cell? ⟨b, 2, none⟩ = some (.int .i64 x2)
  c3 : w.cell? ⟨b, 3, none⟩ = some (.int .i64 x3)
  c4 : w.cell? ⟨b, 4, none⟩ = some (.int .i64 x4)
theorem Five.later {w w1 : World} {b : Nat} {x0 x1 x2 x3 x4 : Int} (h : Five w b x0 x1 x2 x3 x4) (hb : Below w.heap.size w w1) : Five w1 b x0 x1 x2 x3 x4 := by
  obtain ⟨hc, _⟩ := bcell hb
  exact ⟨Nat.lt_of_lt_of_le h.lt hb.size, (hc _ _ h.lt).trans h.c0, (hc _ _ h.lt).trans h.c1, (hc _ _ h.lt).trans h.c2, (hc _ _ h.lt).trans h.c3, (hc _ _ h.lt).trans h.c4⟩
theorem Five.new (w : World) (x0 x1 x2 x3 x4 : Int) (t : TypeId) : Five (w.alloc (.cells #[.int .i64 x0, .int .i64 x1, .int .i64 x2, .int .i64 x3, .int .i64 x4] t)) w.heap.size x0 x1 x2 x3 x4 := by
  refine ⟨by simp, ?_, ?_, ?_, ?_, ?_⟩ <;> simp
theorem eaE_b (y : Int) : 0 ≤ eaE y ∧ eaE y ≤ 24 := by unfold eaE; split <;> omega
theorem moE_b (n k : Int) : 0 ≤ moE n k ∧ moE n k ≤ 24 := by unfold moE; split <;> omega
set_option maxRecDepth 100000 in
set_option maxHeartbeats 4000000 in
theorem reckons_law (a b k s y : Int) (w : World) (hL : Lies w) :
    Calls Tryz.prog 24 #[.agg #[.int .i64 a, .int .i64 b, .int .i64 k, .int .i64 s, .int .i64 y]] w fun e w' => e = .returned (.bool true) ∧ Below w.heap.size w w' := by
  have HL := hide hL
  have HB0 : Hid (Below w.heap.size w (w.alloc (.cells #[.int .i64 a, .int .i64 b, .int .i64 k, .int .i64 s, .int .i64 y] 44))) := hide ((Below.refl w.heap.size w).alloc (Nat.le_refl _) _)
  have T := Five.new w a b k s y 44
  have H1 := hide (fun (W : World) (h : Lies W) => Easter_any y W (hide h.m))
  have H2 := hide (fun (W : World) => refEaster_any y W)
  have H3 := hide (fun (W : World) (h : Lies W) => plain_same (eaE y) W (eaE_b y).1 (eaE_b y).2 h.e)
  have H4 := hide (fun (W : World) (h : Lies W) => Months_any a k W (hide h.m))
  have H5 := hide (fun (W : World) => refMonths_any a k W)
  have H6 := hide (fun (W : World) (h : Lies W) => plain_same (moE a k) W (moE_b a k).1 (moE_b a k).2 h.e)
  have H7 := hide (fun (W : World) (h : Lies W) => Fraction_any a b s W (hide h.m))
  have H8 := hide (fun (W : World) => refFraction_any a b s W)
  have H9 := hide (fun (W : World) (h : Lies W) => plain_same (frE a b s) W (frE_b a b s).1 (frE_b a b s).2 h.e)
  clear hL
  generalize eaV y = v1 at *
  generalize eaE y = e1 at *
  generalize moV a k = v2 at *
  generalize moE a k = e2 at *
  generalize frA a b s = v3 at *
  generalize frW a b s = v4 at *
  generalize frE a b s = e3 at *
  generalize errV e1 = x1 at *
  generalize errV e2 = x2 at *
  generalize errV e3 = x3 at *
  go_enter Tryz.func24, Tryz.ntmps24
  go_wp2_with fail
  refine (H1.out _ (HL.out.below HB0.out)).mono ?_
  rintro e w1 ⟨rfl, hb1⟩
  have T1 := T.later hb1
  have HB1 := hide (HB0.out.trans (hb1.mono HB0.out.size))
  clear T hb1 HB0
  have c4 := T1.c4
  go_wp2_with fail
  refine (H2.out _).mono ?_
  rintro e w2 ⟨rfl, hb2⟩
  have T2 := T1.later hb2
  have HB2 := hide (HB1.out.trans (hb2.mono HB1.out.size))
  clear T1 hb2 HB1 c4
  go_wp2_with fail
  refine (H3.out _ (HL.out.below HB2.out)).mono ?_
  rintro e w3 ⟨rfl, hb3⟩
  have T3 := T2.later hb3
  have HB3 := hide (HB2.out.trans (hb3.mono HB2.out.size))
  clear T2 hb3 HB2
  have c0 := T3.c0
  have c2 := T3.c2
  go_wp2_with fail
  refine (H4.out _ (HL.out.below HB3.out)).mono ?_
  rintro e w4 ⟨rfl, hb4⟩
  have T4 := T3.later hb4
  have HB4 := hide (HB3.out.trans (hb4.mono HB3.out.size))
  clear T3 hb4 HB3 c0 c2
  have c0 := T4.c0
  have c2 := T4.c2
  go_wp2_with fail
  refine (H5.out _).mono ?_
  rintro e w5 ⟨rfl, hb5⟩
  have T5 := T4.later hb5
  have HB5 := hide (HB4.out.trans (hb5.mono HB4.out.size))
  clear T4 hb5 HB4 c0 c2
  go_wp2_with fail
  refine (H6.out _ (HL.out.below HB5.out)).mono ?_
  rintro e w6 ⟨rfl, hb6⟩
  have T6 := T5.later hb6
  have HB6 := hide (HB5.out.trans (hb6.mono HB5.out.size))
  clear T5 hb6 HB5
  have c0 := T6.c0
  have c1 := T6.c1
  have c3 := T6.c3
  go_wp2_with fail
  refine (H7.out _ (HL.out.below HB6.out)).mono ?_
  rintro e w7 ⟨rfl, hb7⟩
  have T7 := T6.later hb7
  have HB7 := hide (HB6.out.trans (hb7.mono HB6.out.size))
  clear T6 hb7 HB6 c0 c1 c3
  have c0 := T7.c0
  have c1 := T7.c1
  have c3 := T7.c3
  go_wp2_with fail
  refine (H8.out _).mono ?_
  rintro e w8 ⟨rfl, hb8⟩
  have HB8 := hide (HB7.out.trans (hb8.mono HB7.out.size))
  clear T7 hb8 HB7 c0 c1 c3
  go_wp2_with fail
  refine (H9.out _ (HL.out.below HB8.out)).mono ?_
  rintro e w9 ⟨rfl, hb9⟩
  have HB9 := hide (HB8.out.trans (hb9.mono HB8.out.size))
  clear hb9 HB8
  go_wp2_with fail
  go_ret
  exact ⟨rfl, HB9.out⟩
end Go.Proofs.YtdfeehimnfogmaaGreatDoor
