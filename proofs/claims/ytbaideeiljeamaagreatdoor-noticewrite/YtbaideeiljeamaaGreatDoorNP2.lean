/-
  My own text: how the program tells a notice's fields: texts, days, links, the code; whether a place belongs there.
-/
import Derived.Test.YtbaideeiljeamaaGreatDoorNP1
namespace Go.Proofs.YtbaideeiljeamaaGreatDoor
open Go.RowKit

set_option maxRecDepth 100000 in
set_option maxHeartbeats 1000000 in
theorem cloneN_any (s : List UInt8) (w : World) (hs : s.length ≤ 140737488355328) :
    Calls Tryz.prog 86 #[.string ⟨s.toArray⟩] w fun e w' => e = .returned (.string ⟨s.toArray⟩) ∧ Below w.heap.size w w' := by
  have H := hide (Tryz.stringslite_Clone ⟨s.toArray⟩ w (by rw [LC.bytes_size]; omega))
  go_enter Tryz.func86, Tryz.ntmps86
  go_wp2_with fail
  refine H.out.mono ?_
  rintro e w1 ⟨rfl, hb1⟩
  go_wp2_with fail
  go_ret
  exact ⟨rfl, hb1⟩
set_option maxRecDepth 100000 in
set_option maxHeartbeats 1000000 in
/-- A text's form tells it. -/
theorem tellRef_any (g cb b o : Nat) (s : List UInt8) (w : World) (hF : w.cell? ⟨cb, 0, none⟩ = some (.func (Fn.func 39) #[] #[])) (hC : Calls Tryz.prog 39 #[.pointer (some ⟨g, 0, none⟩)] w fun e w' => e = .returned (.pointer (some ⟨b, o, none⟩)) ∧ w' = w) (hs : w.cell? ⟨b, o, none⟩ = some (.string ⟨s.toArray⟩)) (hl : s.length ≤ 140737488355328) :
    Calls Tryz.prog 85 #[.pointer (some ⟨g, 0, none⟩), .pointer (some ⟨cb, 0, none⟩)] w fun e w' => e = .returned (.string ⟨s.toArray⟩) ∧ Below w.heap.size w w' := by
  have HC := hide hC
  have HK := hide (cloneN_any s w hl)
  clear hC
  go_enter Tryz.func85, Tryz.ntmps85
  go_wp2_with fail
  refine HC.out.mono ?_
  rintro e w1 ⟨rfl, hw⟩
  obtain rfl := hw.symm
  clear HC
  go_wp2_with fail
  refine HK.out.mono ?_
  rintro e w2 ⟨rfl, hb2⟩
  go_wp2_with fail
  go_ret
  exact ⟨rfl, hb2⟩
set_option maxRecDepth 100000 in
set_option maxHeartbeats 1000000 in
/-- A text's form tells it. -/
theorem tellPrev_any (g cb b o : Nat) (s : List UInt8) (w : World) (hF : w.cell? ⟨cb, 0, none⟩ = some (.func (Fn.func 44) #[] #[])) (hC : Calls Tryz.prog 44 #[.pointer (some ⟨g, 0, none⟩)] w fun e w' => e = .returned (.pointer (some ⟨b, o, none⟩)) ∧ w' = w) (hs : w.cell? ⟨b, o, none⟩ = some (.string ⟨s.toArray⟩)) (hl : s.length ≤ 140737488355328) :
    Calls Tryz.prog 85 #[.pointer (some ⟨g, 0, none⟩), .pointer (some ⟨cb, 0, none⟩)] w fun e w' => e = .returned (.string ⟨s.toArray⟩) ∧ Below w.heap.size w w' := by
  have HC := hide hC
  have HK := hide (cloneN_any s w hl)
  clear hC
  go_enter Tryz.func85, Tryz.ntmps85
  go_wp2_with fail
  refine HC.out.mono ?_
  rintro e w1 ⟨rfl, hw⟩
  obtain rfl := hw.symm
  clear HC
  go_wp2_with fail
  refine HK.out.mono ?_
  rintro e w2 ⟨rfl, hb2⟩
  go_wp2_with fail
  go_ret
  exact ⟨rfl, hb2⟩
set_option maxRecDepth 100000 in
set_option maxHeartbeats 1000000 in
/-- A text's form tells it. -/
theorem tellAccount_any (g cb b o : Nat) (s : List UInt8) (w : World) (hF : w.cell? ⟨cb, 0, none⟩ = some (.func (Fn.func 59) #[] #[])) (hC : Calls Tryz.prog 59 #[.pointer (some ⟨g, 0, none⟩)] w fun e w' => e = .returned (.pointer (some ⟨b, o, none⟩)) ∧ w' = w) (hs : w.cell? ⟨b, o, none⟩ = some (.string ⟨s.toArray⟩)) (hl : s.length ≤ 140737488355328) :
    Calls Tryz.prog 85 #[.pointer (some ⟨g, 0, none⟩), .pointer (some ⟨cb, 0, none⟩)] w fun e w' => e = .returned (.string ⟨s.toArray⟩) ∧ Below w.heap.size w w' := by
  have HC := hide hC
  have HK := hide (cloneN_any s w hl)
  clear hC
  go_enter Tryz.func85, Tryz.ntmps85
  go_wp2_with fail
  refine HC.out.mono ?_
  rintro e w1 ⟨rfl, hw⟩
  obtain rfl := hw.symm
  clear HC
  go_wp2_with fail
  refine HK.out.mono ?_
  rintro e w2 ⟨rfl, hb2⟩
  go_wp2_with fail
  go_ret
  exact ⟨rfl, hb2⟩
set_option maxRecDepth 100000 in
set_option maxHeartbeats 1000000 in
/-- A text's form tells it. -/
theorem tellAgent_any (g cb b o : Nat) (s : List UInt8) (w : World) (hF : w.cell? ⟨cb, 0, none⟩ = some (.func (Fn.func 60) #[] #[])) (hC : Calls Tryz.prog 60 #[.pointer (some ⟨g, 0, none⟩)] w fun e w' => e = .returned (.pointer (some ⟨b, o, none⟩)) ∧ w' = w) (hs : w.cell? ⟨b, o, none⟩ = some (.string ⟨s.toArray⟩)) (hl : s.length ≤ 140737488355328) :
    Calls Tryz.prog 85 #[.pointer (some ⟨g, 0, none⟩), .pointer (some ⟨cb, 0, none⟩)] w fun e w' => e = .returned (.string ⟨s.toArray⟩) ∧ Below w.heap.size w w' := by
  have HC := hide hC
  have HK := hide (cloneN_any s w hl)
  clear hC
  go_enter Tryz.func85, Tryz.ntmps85
  go_wp2_with fail
  refine HC.out.mono ?_
  rintro e w1 ⟨rfl, hw⟩
  obtain rfl := hw.symm
  clear HC
  go_wp2_with fail
  refine HK.out.mono ?_
  rintro e w2 ⟨rfl, hb2⟩
  go_wp2_with fail
  go_ret
  exact ⟨rfl, hb2⟩
set_option maxRecDepth 100000 in
set_option maxHeartbeats 1000000 in
/-- A text's form tells it. -/
theorem tellOther_any (g cb b o : Nat) (s : List UInt8) (w : World) (hF : w.cell? ⟨cb, 0, none⟩ = some (.func (Fn.func 63) #[] #[])) (hC : Calls Tryz.prog 63 #[.pointer (some ⟨g, 0, none⟩)] w fun e w' => e = .returned (.pointer (some ⟨b, o, none⟩)) ∧ w' = w) (hs : w.cell? ⟨b, o, none⟩ = some (.string ⟨s.toArray⟩)) (hl : s.length ≤ 140737488355328) :
    Calls Tryz.prog 85 #[.pointer (some ⟨g, 0, none⟩), .pointer (some ⟨cb, 0, none⟩)] w fun e w' => e = .returned (.string ⟨s.toArray⟩) ∧ Below w.heap.size w w' := by
  have HC := hide hC
  have HK := hide (cloneN_any s w hl)
  clear hC
  go_enter Tryz.func85, Tryz.ntmps85
  go_wp2_with fail
  refine HC.out.mono ?_
  rintro e w1 ⟨rfl, hw⟩
  obtain rfl := hw.symm
  clear HC
  go_wp2_with fail
  refine HK.out.mono ?_
  rintro e w2 ⟨rfl, hb2⟩
  go_wp2_with fail
  go_ret
  exact ⟨rfl, hb2⟩
theorem atRef_any (g : Nat) (w : World) : Calls Tryz.prog 39 #[.pointer (some ⟨g, 0, none⟩)] w fun e w' => e = .returned (.pointer (some ⟨g, 0, none⟩)) ∧ w' = w := by
  go_enter Tryz.func39, Tryz.ntmps39
  go_wp2_with fail
  go_ret
  exact ⟨rfl, rfl⟩
theorem atPrev_any (g : Nat) (w : World) : Calls Tryz.prog 44 #[.pointer (some ⟨g, 0, none⟩)] w fun e w' => e = .returned (.pointer (some ⟨g, 1, none⟩)) ∧ w' = w := by
  go_enter Tryz.func44, Tryz.ntmps44
  go_wp2_with fail
  go_ret
  exact ⟨rfl, rfl⟩
theorem atTrade_any (g : Nat) (w : World) : Calls Tryz.prog 51 #[.pointer (some ⟨g, 0, none⟩)] w fun e w' => e = .returned (.pointer (some ⟨g, 5, none⟩)) ∧ w' = w := by
  go_enter Tryz.func51, Tryz.ntmps51
  go_wp2_with fail
  go_ret
  exact ⟨rfl, rfl⟩
theorem atSettle_any (g : Nat) (w : World) : Calls Tryz.prog 52 #[.pointer (some ⟨g, 0, none⟩)] w fun e w' => e = .returned (.pointer (some ⟨g, 6, none⟩)) ∧ w' = w := by
  go_enter Tryz.func52, Tryz.ntmps52
  go_wp2_with fail
  go_ret
  exact ⟨rfl, rfl⟩
theorem atAccount_any (g : Nat) (w : World) : Calls Tryz.prog 59 #[.pointer (some ⟨g, 0, none⟩)] w fun e w' => e = .returned (.pointer (some ⟨g, 20, none⟩)) ∧ w' = w := by
  go_enter Tryz.func59, Tryz.ntmps59
  go_wp2_with fail
  go_ret
  exact ⟨rfl, rfl⟩
theorem atAgent_any (g : Nat) (w : World) : Calls Tryz.prog 60 #[.pointer (some ⟨g, 0, none⟩)] w fun e w' => e = .returned (.pointer (some ⟨g, 21, none⟩)) ∧ w' = w := by
  go_enter Tryz.func60, Tryz.ntmps60
  go_wp2_with fail
  go_ret
  exact ⟨rfl, rfl⟩
theorem atOther_any (g : Nat) (w : World) : Calls Tryz.prog 63 #[.pointer (some ⟨g, 0, none⟩)] w fun e w' => e = .returned (.pointer (some ⟨g, 22, none⟩)) ∧ w' = w := by
  go_enter Tryz.func63, Tryz.ntmps63
  go_wp2_with fail
  go_ret
  exact ⟨rfl, rfl⟩
theorem isCancel_any (n : Ntc) (v : Value) (g : Nat) (w : World) (hn : NOk n) (hX : Bx w g n v) : Calls Tryz.prog 45 #[.pointer (some ⟨g, 0, none⟩)] w fun e w' => e = .returned (.bool n.cn) ∧ w' = w := by
  have c := hX.cn hn.code
  go_enter Tryz.func45, Tryz.ntmps45
  go_wp2_with fail
  go_ret
  exact ⟨rfl, rfl⟩
theorem isReceive_any (n : Ntc) (v : Value) (g : Nat) (w : World) (hn : NOk n) (hX : Bx w g n v) : Calls Tryz.prog 61 #[.pointer (some ⟨g, 0, none⟩)] w fun e w' => e = .returned (.bool n.rc) ∧ w' = w := by
  have c := hX.rc hn.code
  go_enter Tryz.func61, Tryz.ntmps61
  go_wp2_with fail
  go_ret
  exact ⟨rfl, rfl⟩
theorem isDeliver_any (n : Ntc) (v : Value) (g : Nat) (w : World) (hn : NOk n) (hX : Bx w g n v) : Calls Tryz.prog 62 #[.pointer (some ⟨g, 0, none⟩)] w fun e w' => e = .returned (.bool (!n.rc)) ∧ w' = w := by
  have c := hX.rc hn.code
  go_enter Tryz.func62, Tryz.ntmps62
  go_wp2_with fail
  go_ret
  exact ⟨rfl, rfl⟩
theorem isPay_any (n : Ntc) (v : Value) (g : Nat) (w : World) (hn : NOk n) (hX : Bx w g n v) : Calls Tryz.prog 64 #[.pointer (some ⟨g, 0, none⟩)] w fun e w' => e = .returned (.bool n.py) ∧ w' = w := by
  have c := hX.py hn.code
  go_enter Tryz.func64, Tryz.ntmps64
  go_wp2_with fail
  go_ret
  exact ⟨rfl, rfl⟩
set_option maxRecDepth 100000 in
set_option maxHeartbeats 1000000 in
/-- A day's form tells it. -/
theorem tellTrade_any (g cb b o : Nat) (d : Int) (w : World) (hF : w.cell? ⟨cb, 0, none⟩ = some (.func (Fn.func 51) #[] #[])) (hC : Calls Tryz.prog 51 #[.pointer (some ⟨g, 0, none⟩)] w fun e w' => e = .returned (.pointer (some ⟨b, o, none⟩)) ∧ w' = w) (hs : w.cell? ⟨b, o, none⟩ = some (.int .i64 d)) (hd : dayB d = true) (hP : AM.Pow w) (HM : Hid (MDays w)) :
    Calls Tryz.prog 88 #[.pointer (some ⟨g, 0, none⟩), .pointer (some ⟨cb, 0, none⟩)] w fun e w' => e = .returned (.string ⟨(dayT d).toArray⟩) ∧ Below w.heap.size w w' := by
  have HC := hide hC
  have hb : 1 ≤ d ∧ d ≤ 3652059 := by unfold dayB at hd; simpa using hd
  have hy := yearI_b hb.1 hb.2
  have hm := monthN_b hb.1
  have hdd := dayN_b hb.1
  have HOF := hide (Of_any d w HM)
  have e1 : ofV d = dateV (yearI d) (monthI d) (dayI d) := by unfold ofV; rw [if_pos hd]
  have e2 : ofE d = 0 := by unfold ofE; rw [if_pos hd]
  rw [e1, e2, errV_zero] at HOF
  unfold dayT
  obtain ⟨Y, hY⟩ : ∃ Y : Nat, (Y : Int) = yearI d := ⟨(yearI d).toNat, by omega⟩
  obtain ⟨M, hM⟩ : ∃ M : Nat, (M : Int) = monthI d := ⟨(monthI d).toNat, by omega⟩
  obtain ⟨D, hD⟩ : ∃ D : Nat, (D : Int) = dayI d := ⟨(dayI d).toNat, by omega⟩
  rw [← hY, ← hM, ← hD] at HOF ⊢
  simp only [Int.toNat_natCast] at *
  unfold dateV at HOF
  have hYb : Y ≤ 9999 := by omega
  have hMb : M ≤ 12 := by omega
  have hDb : D ≤ 31 := by omega
  have HP := hide hP
  clear e1 e2 hY hM hD hy hm hdd hb hd HM hC hP
  have H1 := hide (fun (W : World) (h : AM.Pow W) => padded_any Y 4 W h (by omega) (by omega))
  have H2 := hide (fun (W : World) (h : AM.Pow W) => padded_any M 2 W h (by omega) (by omega))
  have H3 := hide (fun (W : World) (h : AM.Pow W) => padded_any D 2 W h (by omega) (by omega))
  have l1 := pd_len_le (N := Y) (least := 4) (by omega) (by omega)
  have l2 := pd_len_le (N := M) (least := 2) (by omega) (by omega)
  have l3 := pd_len_le (N := D) (least := 2) (by omega) (by omega)
  obtain ⟨T1, t1⟩ : ∃ T, Hid (pdT Y 4 = T) := ⟨_, hide rfl⟩
  obtain ⟨T2, t2⟩ : ∃ T, Hid (pdT M 2 = T) := ⟨_, hide rfl⟩
  obtain ⟨T3, t3⟩ : ∃ T, Hid (pdT D 2 = T) := ⟨_, hide rfl⟩
  rw [t1.out] at H1 l1 ⊢
  rw [t2.out] at H2 l2 ⊢
  rw [t3.out] at H3 l3 ⊢
  rw [show ((4 : Nat) : Int) = 4 from rfl] at H1
  rw [show ((2 : Nat) : Int) = 2 from rfl] at H2 H3
  clear t1 t2 t3
  have a1 : (⟨T1.toArray⟩ : ByteArray) ++ ⟨T2.toArray⟩ = ⟨(T1 ++ T2).toArray⟩ := by apply ByteArray.ext; simp
  have a2 : (⟨(T1 ++ T2).toArray⟩ : ByteArray) ++ ⟨T3.toArray⟩ = ⟨(T1 ++ T2 ++ T3).toArray⟩ := by apply ByteArray.ext; simp
  go_enter Tryz.func88, Tryz.ntmps88
  go_wp2_with fail
  refine HC.out.mono ?_
  rintro e w1 ⟨rfl, hw⟩
  obtain rfl := hw.symm
  clear HC
  go_wp2_with fail
  refine HOF.out.mono ?_
  rintro e w1 ⟨rfl, hb1⟩
  have B1 := hide hb1
  clear hb1 HOF hs hF
  have BX := hide ((Below.refl w1.heap.size w1).alloc (Nat.le_refl _) (.cells #[.int .i64 (Y : Int), .int .i64 (M : Int), .int .i64 (D : Int)] 108))
  generalize hWX : w1.alloc (.cells #[.int .i64 (Y : Int), .int .i64 (M : Int), .int .i64 (D : Int)] 108) = WX at BX
  have HC0 : Hid (WX.cell? ⟨w1.heap.size, 0, none⟩ = some (.int .i64 (Y : Int))) := hide (by rw [← hWX]; simp)
  have HC1 : Hid (WX.cell? ⟨w1.heap.size, 1, none⟩ = some (.int .i64 (M : Int))) := hide (by rw [← hWX]; simp)
  have HC2 : Hid (WX.cell? ⟨w1.heap.size, 2, none⟩ = some (.int .i64 (D : Int))) := hide (by rw [← hWX]; simp)
  have hlt : w1.heap.size < WX.heap.size := by rw [← hWX]; simp
  have B2 := hide (B1.out.trans (BX.out.mono B1.out.size))
  have HX0 := hide ((Below.refl WX.heap.size WX).drew)
  have q0 : ∀ x : Gr WX, x.1.cell? ⟨w1.heap.size, 0, none⟩ = some (.int .i64 (Y : Int)) := fun x => (x.2.cell (p := ⟨w1.heap.size, 0, none⟩) hlt).trans HC0.out
  have q1 : ∀ x : Gr WX, x.1.cell? ⟨w1.heap.size, 1, none⟩ = some (.int .i64 (M : Int)) := fun x => (x.2.cell (p := ⟨w1.heap.size, 1, none⟩) hlt).trans HC1.out
  have q2 : ∀ x : Gr WX, x.1.cell? ⟨w1.heap.size, 2, none⟩ = some (.int .i64 (D : Int)) := fun x => (x.2.cell (p := ⟨w1.heap.size, 2, none⟩) hlt).trans HC2.out
  have HPx : Hid (∀ x : Gr WX, AM.Pow x.1) := hide (fun x => HP.out.later (B2.out.trans (x.2.mono B2.out.size)))
  go_wp2_with fail
  haveI : Nonempty (Gr WX) := ⟨⟨_, HX0.out⟩⟩
  refine region_class (C := fun w' => ∃ x : Gr WX, w' = x.1) (by kernel_rfl) (by kernel_rfl) ⟨⟨_, HX0.out⟩, rfl⟩ ?_
  repeat (first
    | go_big_quiet_skip
    | (go_big_quiet_want; (go_big_quiet_op; first
        | go_big_quiet_on
        | (apply Exists.intro; refine ⟨fun x => ?_, ?_⟩; (first
            | (go_at_call_of 90 (Value.int .i64 (Y : Int)); exact x.call (H1.out x.1 (HPx.out x)))
            | (go_at_call_of 90 (Value.int .i64 (M : Int)); exact x.call (H2.out x.1 (HPx.out x)))
            | (go_at_call_of 90 (Value.int .i64 (D : Int)); exact x.call (H3.out x.1 (HPx.out x)))); go_big_quiet_on))))
  refine wpQuiet_nil ?_
  rintro w3 ⟨x, rfl⟩
  have B3 := hide (B2.out.trans (x.2.mono B2.out.size))
  obtain ⟨w3, hw3⟩ := x
  dsimp only at B3 ⊢
  go_wp2_with fail
  go_ret
  exact ⟨by rw [List.append_assoc]; rfl, B3.out⟩
set_option maxRecDepth 100000 in
set_option maxHeartbeats 1000000 in
/-- A day's form tells it. -/
theorem tellSettle_any (g cb b o : Nat) (d : Int) (w : World) (hF : w.cell? ⟨cb, 0, none⟩ = some (.func (Fn.func 52) #[] #[])) (hC : Calls Tryz.prog 52 #[.pointer (some ⟨g, 0, none⟩)] w fun e w' => e = .returned (.pointer (some ⟨b, o, none⟩)) ∧ w' = w) (hs : w.cell? ⟨b, o, none⟩ = some (.int .i64 d)) (hd : dayB d = true) (hP : AM.Pow w) (HM : Hid (MDays w)) :
    Calls Tryz.prog 88 #[.pointer (some ⟨g, 0, none⟩), .pointer (some ⟨cb, 0, none⟩)] w fun e w' => e = .returned (.string ⟨(dayT d).toArray⟩) ∧ Below w.heap.size w w' := by
  have HC := hide hC
  have hb : 1 ≤ d ∧ d ≤ 3652059 := by unfold dayB at hd; simpa using hd
  have hy := yearI_b hb.1 hb.2
  have hm := monthN_b hb.1
  have hdd := dayN_b hb.1
  have HOF := hide (Of_any d w HM)
  have e1 : ofV d = dateV (yearI d) (monthI d) (dayI d) := by unfold ofV; rw [if_pos hd]
  have e2 : ofE d = 0 := by unfold ofE; rw [if_pos hd]
  rw [e1, e2, errV_zero] at HOF
  unfold dayT
  obtain ⟨Y, hY⟩ : ∃ Y : Nat, (Y : Int) = yearI d := ⟨(yearI d).toNat, by omega⟩
  obtain ⟨M, hM⟩ : ∃ M : Nat, (M : Int) = monthI d := ⟨(monthI d).toNat, by omega⟩
  obtain ⟨D, hD⟩ : ∃ D : Nat, (D : Int) = dayI d := ⟨(dayI d).toNat, by omega⟩
  rw [← hY, ← hM, ← hD] at HOF ⊢
  simp only [Int.toNat_natCast] at *
  unfold dateV at HOF
  have hYb : Y ≤ 9999 := by omega
  have hMb : M ≤ 12 := by omega
  have hDb : D ≤ 31 := by omega
  have HP := hide hP
  clear e1 e2 hY hM hD hy hm hdd hb hd HM hC hP
  have H1 := hide (fun (W : World) (h : AM.Pow W) => padded_any Y 4 W h (by omega) (by omega))
  have H2 := hide (fun (W : World) (h : AM.Pow W) => padded_any M 2 W h (by omega) (by omega))
  have H3 := hide (fun (W : World) (h : AM.Pow W) => padded_any D 2 W h (by omega) (by omega))
  have l1 := pd_len_le (N := Y) (least := 4) (by omega) (by omega)
  have l2 := pd_len_le (N := M) (least := 2) (by omega) (by omega)
  have l3 := pd_len_le (N := D) (least := 2) (by omega) (by omega)
  obtain ⟨T1, t1⟩ : ∃ T, Hid (pdT Y 4 = T) := ⟨_, hide rfl⟩
  obtain ⟨T2, t2⟩ : ∃ T, Hid (pdT M 2 = T) := ⟨_, hide rfl⟩
  obtain ⟨T3, t3⟩ : ∃ T, Hid (pdT D 2 = T) := ⟨_, hide rfl⟩
  rw [t1.out] at H1 l1 ⊢
  rw [t2.out] at H2 l2 ⊢
  rw [t3.out] at H3 l3 ⊢
  rw [show ((4 : Nat) : Int) = 4 from rfl] at H1
  rw [show ((2 : Nat) : Int) = 2 from rfl] at H2 H3
  clear t1 t2 t3
  have a1 : (⟨T1.toArray⟩ : ByteArray) ++ ⟨T2.toArray⟩ = ⟨(T1 ++ T2).toArray⟩ := by apply ByteArray.ext; simp
  have a2 : (⟨(T1 ++ T2).toArray⟩ : ByteArray) ++ ⟨T3.toArray⟩ = ⟨(T1 ++ T2 ++ T3).toArray⟩ := by apply ByteArray.ext; simp
  go_enter Tryz.func88, Tryz.ntmps88
  go_wp2_with fail
  refine HC.out.mono ?_
  rintro e w1 ⟨rfl, hw⟩
  obtain rfl := hw.symm
  clear HC
  go_wp2_with fail
  refine HOF.out.mono ?_
  rintro e w1 ⟨rfl, hb1⟩
  have B1 := hide hb1
  clear hb1 HOF hs hF
  have BX := hide ((Below.refl w1.heap.size w1).alloc (Nat.le_refl _) (.cells #[.int .i64 (Y : Int), .int .i64 (M : Int), .int .i64 (D : Int)] 108))
  generalize hWX : w1.alloc (.cells #[.int .i64 (Y : Int), .int .i64 (M : Int), .int .i64 (D : Int)] 108) = WX at BX
  have HC0 : Hid (WX.cell? ⟨w1.heap.size, 0, none⟩ = some (.int .i64 (Y : Int))) := hide (by rw [← hWX]; simp)
  have HC1 : Hid (WX.cell? ⟨w1.heap.size, 1, none⟩ = some (.int .i64 (M : Int))) := hide (by rw [← hWX]; simp)
  have HC2 : Hid (WX.cell? ⟨w1.heap.size, 2, none⟩ = some (.int .i64 (D : Int))) := hide (by rw [← hWX]; simp)
  have hlt : w1.heap.size < WX.heap.size := by rw [← hWX]; simp
  have B2 := hide (B1.out.trans (BX.out.mono B1.out.size))
  have HX0 := hide ((Below.refl WX.heap.size WX).drew)
  have q0 : ∀ x : Gr WX, x.1.cell? ⟨w1.heap.size, 0, none⟩ = some (.int .i64 (Y : Int)) := fun x => (x.2.cell (p := ⟨w1.heap.size, 0, none⟩) hlt).trans HC0.out
  have q1 : ∀ x : Gr WX, x.1.cell? ⟨w1.heap.size, 1, none⟩ = some (.int .i64 (M : Int)) := fun x => (x.2.cell (p := ⟨w1.heap.size, 1, none⟩) hlt).trans HC1.out
  have q2 : ∀ x : Gr WX, x.1.cell? ⟨w1.heap.size, 2, none⟩ = some (.int .i64 (D : Int)) := fun x => (x.2.cell (p := ⟨w1.heap.size, 2, none⟩) hlt).trans HC2.out
  have HPx : Hid (∀ x : Gr WX, AM.Pow x.1) := hide (fun x => HP.out.later (B2.out.trans (x.2.mono B2.out.size)))
  go_wp2_with fail
  haveI : Nonempty (Gr WX) := ⟨⟨_, HX0.out⟩⟩
  refine region_class (C := fun w' => ∃ x : Gr WX, w' = x.1) (by kernel_rfl) (by kernel_rfl) ⟨⟨_, HX0.out⟩, rfl⟩ ?_
  repeat (first
    | go_big_quiet_skip
    | (go_big_quiet_want; (go_big_quiet_op; first
        | go_big_quiet_on
        | (apply Exists.intro; refine ⟨fun x => ?_, ?_⟩; (first
            | (go_at_call_of 90 (Value.int .i64 (Y : Int)); exact x.call (H1.out x.1 (HPx.out x)))
            | (go_at_call_of 90 (Value.int .i64 (M : Int)); exact x.call (H2.out x.1 (HPx.out x)))
            | (go_at_call_of 90 (Value.int .i64 (D : Int)); exact x.call (H3.out x.1 (HPx.out x)))); go_big_quiet_on))))
  refine wpQuiet_nil ?_
  rintro w3 ⟨x, rfl⟩
  have B3 := hide (B2.out.trans (x.2.mono B2.out.size))
  obtain ⟨w3, hw3⟩ := x
  dsimp only at B3 ⊢
  go_wp2_with fail
  go_ret
  exact ⟨by rw [List.append_assoc]; rfl, B3.out⟩
set_option maxRecDepth 100000 in
set_option maxHeartbeats 1000000 in
/-- The last link of a notice. -/
theorem lastLink_any (n : Ntc) (b off m cap g : Nat) (w : World) (hn : NOk n) (hX : Bx w g n (.slice (some ⟨b, off, none⟩) (m + 1) cap)) (hm : m ≤ 1000) :
    Calls Tryz.prog 49 #[.pointer (some ⟨g, 0, none⟩)] w fun e w' => e = .returned (.pointer (some ⟨b, off + m * 2, none⟩)) ∧ Below w.heap.size w w' := by
  have c := hX.links hn.code
  have n1 : IntKind.i64.wrap (((m + 1 : Nat) : Int) - 1) = (m : Int) := by rw [IntKind.wrap_i64]; omega
  have m0 : (0 : Int) ≤ (m : Int) := by omega
  have m1 : (m : Int) < ((m + 1 : Nat) : Int) := by omega
  go_enter Tryz.func49, Tryz.ntmps49
  go_wp2_with fail
  go_quiet (fail)
  go_wp2_with fail
  go_ret
  exact ⟨rfl, TG.below_dN (Below.refl _ _) _⟩
end Go.Proofs.YtbaideeiljeamaaGreatDoor
