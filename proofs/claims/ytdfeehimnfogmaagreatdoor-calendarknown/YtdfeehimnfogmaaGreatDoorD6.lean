/-
  My own text: the law on dates, numbers, days of the week and weeks.
-/
import Derived.Test.YtdfeehimnfogmaaGreatDoorD5
namespace Go.Proofs.YtdfeehimnfogmaaGreatDoor
open Go.RowKit

theorem numE_b (y m d : Int) : 0 ≤ numE y m d ∧ numE y m d ≤ 24 := by unfold numE; split <;> omega
theorem ofE_b (n : Int) : 0 ≤ ofE n ∧ ofE n ≤ 24 := by unfold ofE; split <;> omega
theorem ofV_parts (n : Int) : ∃ a b c, ofV n = dateV a b c := by
  unfold ofV; split
  · exact ⟨_, _, _, rfl⟩
  · exact ⟨_, _, _, rfl⟩
/-- What is laid and stays: the errors' type, the months' lengths. -/
structure Lies (w : World) : Prop where
  e : ErrType w
  m : MDays w
theorem Lies.below {w w' : World} (h : Lies w) (hb : Below w.heap.size w w') : Lies w' := ⟨h.e.below hb, h.m.below hb⟩
theorem plain_same (k : Int) (w : World) (h1 : 0 ≤ k) (h2 : k ≤ 24) (hE : ErrType w) :
    Calls Tryz.prog 45 #[errV k, .int .i64 k] w fun e w' => e = .returned (.bool true) ∧ Below w.heap.size w w' := by
  have h := plain_errV k k w h1 h2 hE
  rw [beq_self_eq_true] at h
  exact h
theorem Tryz.neqDate (a b c : Int) (w : World) : (binOp .neq 25 (.agg #[.int .i64 a, .int .i64 b, .int .i64 c]) (.agg #[.int .i64 a, .int .i64 b, .int .i64 c])).run Tryz.prog w = .ok (.bool false) w := by
  simp [go_sem]
set_option maxRecDepth 100000 in
set_option maxHeartbeats 2000000 in
theorem dates_law (y m d n : Int) (w : World) (hL : Lies w) :
    Calls Tryz.prog 23 #[dateV y m d, .int .i64 n] w fun e w' => e = .returned (.bool true) ∧ Below w.heap.size w w' := by
  have HL := hide hL
  have HB0 : Hid (Below w.heap.size w (w.alloc (.cells #[.int .i64 y, .int .i64 m, .int .i64 d] 25))) := hide (below_date w y m d)
  have T := Trio.new w y m d 25
  have HN := hide (fun (W : World) (h : Lies W) => Number_any y m d W (hide h.m))
  have HRN := hide (fun (W : World) => refNumber_any y m d W)
  have HPN := hide (fun (W : World) (h : Lies W) => plain_same (numE y m d) W (numE_b y m d).1 (numE_b y m d).2 h.e)
  have HO := hide (fun (W : World) (h : Lies W) => Of_any n W (hide h.m))
  have HRO := hide (fun (W : World) => refOf_any n W)
  have HPO := hide (fun (W : World) (h : Lies W) => plain_same (ofE n) W (ofE_b n).1 (ofE_b n).2 h.e)
  have HW := hide (fun (W : World) => Weekday_any n W)
  have HRW := hide (fun (W : World) => refWeekday_any n W)
  have HK := hide (fun (W : World) (h : Lies W) => Week_any n W (hide h.m))
  have HRK := hide (fun (W : World) => refWeek_any n W)
  clear hL
  obtain ⟨a, b, c, hof⟩ := ofV_parts n
  rw [hof] at HO HRO
  clear hof
  unfold dateV at HN HRN HO HRO ⊢
  generalize numV y m d = nv at *
  generalize numE y m d = ne at *
  generalize ofE n = oe at *
  generalize wdV n = wd at *
  generalize wyV n = wy at *
  generalize wkV n = wk at *
  generalize errV ne = nev at *
  generalize errV oe = oev at *
  go_enter Tryz.func23, Tryz.ntmps23
  go_wp2_with fail
  refine (HN.out _ (HL.out.below HB0.out)).mono ?_
  rintro e w1 ⟨rfl, hb1⟩
  have T1 := T.later hb1
  have c0 := T1.c0
  have c1 := T1.c1
  have c2 := T1.c2
  have HB1 := hide (HB0.out.trans (hb1.mono HB0.out.size))
  clear T hb1 HB0
  go_wp2_with fail
  refine (HRN.out _).mono ?_
  rintro e w2 ⟨rfl, hb2⟩
  have HB2 := hide (HB1.out.trans (hb2.mono HB1.out.size))
  clear T1 c0 c1 c2 hb2 HB1
  go_wp2_with fail
  refine (HPN.out _ (HL.out.below HB2.out)).mono ?_
  rintro e w3 ⟨rfl, hb3⟩
  have HB3 := hide (HB2.out.trans (hb3.mono HB2.out.size))
  clear hb3 HB2
  go_wp2_with fail
  refine (HO.out _ (HL.out.below HB3.out)).mono ?_
  rintro e w4 ⟨rfl, hb4⟩
  have HB4 := hide (HB3.out.trans (hb4.mono HB3.out.size))
  clear hb4 HB3
  have HB5 : Hid (Below w.heap.size w (w4.alloc (.cells #[.int .i64 a, .int .i64 b, .int .i64 c] 25))) := hide (HB4.out.alloc HB4.out.size _)
  have T := Trio.new w4 a b c 25
  go_wp2_with fail
  refine (HRO.out _).mono ?_
  rintro e w6 ⟨rfl, hb6⟩
  have T6 := T.later hb6
  have HB6 := hide (HB5.out.trans (hb6.mono HB5.out.size))
  have HB7 : Hid (Below w.heap.size w (w6.alloc (.cells #[.int .i64 a, .int .i64 b, .int .i64 c] 25))) := hide (HB6.out.alloc HB6.out.size _)
  have T7 := T6.alloc (.cells #[.int .i64 a, .int .i64 b, .int .i64 c] 25)
  have c0 := T7.c0
  have c1 := T7.c1
  have c2 := T7.c2
  have hnq := Tryz.neqDate a b c
  clear HB4 HB5 T hb6 T6 HB6
  go_wp2_with fail
  refine (HPO.out _ (HL.out.below HB7.out)).mono ?_
  rintro e w8 ⟨rfl, hb8⟩
  have HB8 := hide (HB7.out.trans (hb8.mono HB7.out.size))
  clear T7 c0 c1 c2 hb8 HB7
  go_wp2_with fail
  refine (HW.out _).mono ?_
  rintro e w9 ⟨rfl, rfl⟩
  go_wp2_with fail
  refine (HRW.out _).mono ?_
  rintro e w9 ⟨rfl, rfl⟩
  go_wp2_with fail
  refine (HPO.out _ (HL.out.below HB8.out)).mono ?_
  rintro e w10 ⟨rfl, hb10⟩
  have HB10 := hide (HB8.out.trans (hb10.mono HB8.out.size))
  clear hb10 HB8
  go_wp2_with fail
  refine (HK.out _ (HL.out.below HB10.out)).mono ?_
  rintro e w11 ⟨rfl, hb11⟩
  have HB11 := hide (HB10.out.trans (hb11.mono HB10.out.size))
  clear hb11 HB10
  go_wp2_with fail
  refine (HRK.out _).mono ?_
  rintro e w12 ⟨rfl, hb12⟩
  have HB12 := hide (HB11.out.trans (hb12.mono HB11.out.size))
  clear hb12 HB11
  go_wp2_with fail
  refine (HPO.out _ (HL.out.below HB12.out)).mono ?_
  rintro e w13 ⟨rfl, hb13⟩
  have HB13 := hide (HB12.out.trans (hb13.mono HB12.out.size))
  clear hb13 HB12
  go_wp2_with fail
  go_ret
  exact ⟨rfl, HB13.out⟩
end Go.Proofs.YtdfeehimnfogmaaGreatDoor
