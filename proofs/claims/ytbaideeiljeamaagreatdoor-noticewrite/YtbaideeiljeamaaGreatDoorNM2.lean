/-
  My own text: NM1, NM2 in one.
-/
import Derived.Test.YtbaideeiljeamaaGreatDoorN5
import Derived.Test.YtbaideeiljeamaaGreatDoorTexts
import Derived.Test.YtbaideeiljeamaaGreatDoorTKB
import Derived.Test.YtbaideeiljeamaaGreatDoorQRz
import Derived.Test.YtbaideeiljeamaaGreatDoorN7
namespace Go.Proofs.YtbaideeiljeamaaGreatDoor
open Go.RowKit

/-- A number with noughts ahead. -/
def pdT (N least : Nat) : List UInt8 := List.replicate (least - Lib.nDigits N) 48 ++ Lib.decDigits N
theorem nd_le {N e : Nat} (h0 : 1 ≤ e) (h : N < 10 ^ e) : Lib.nDigits N ≤ e := by
  rcases Nat.lt_or_ge e (Lib.nDigits N) with hc | hc
  · have h1 := AM.pow_le_nd (n := N) (by omega)
    have h2 : (10 : Nat) ^ e ≤ 10 ^ (Lib.nDigits N - 1) := Nat.pow_le_pow_right (by omega) (by omega)
    omega
  · exact hc
theorem pd_of {N e least : Nat} (h0 : 1 ≤ least) (h1 : least ≤ e) (h2 : N < 10 ^ e) (h3 : e = least ∨ 10 ^ (e - 1) ≤ N) : AM.dgs N e = pdT N least := by
  unfold pdT
  rw [AM.dec_dgs]
  rcases h3 with rfl | h3
  · have hnd := nd_le h0 h2
    have := AM.dgs_pad (n := N) (e := Lib.nDigits N) (e - Lib.nDigits N) (Lib.lt_pow_nDigits N)
    rw [show e - Lib.nDigits N + Lib.nDigits N = e by omega] at this
    exact this
  · have hnd := AM.nd_of (m := N) (e := e) (by omega) h2 (.inr h3)
    rw [hnd, show least - e = 0 by omega]; rfl
theorem nd_small {N : Nat} (h : N ≤ 9223372036854775807) : Lib.nDigits N ≤ 19 := nd_le (by omega) (by omega)
theorem pd_len (N least : Nat) : (pdT N least).length = max least (Lib.nDigits N) := by
  unfold pdT
  rw [AM.dec_dgs, List.length_append, List.length_replicate, AM.dgs_len]; omega
theorem pd_len_le {N least : Nat} (h : N ≤ 9223372036854775807) (hl : least ≤ 18) : (pdT N least).length ≤ 19 := by
  have := nd_small h
  rw [pd_len]; omega
theorem digitsT_any (N least : Nat) (w : World) (hN : N ≤ 9223372036854775807) (h0 : 1 ≤ least) (hl : least ≤ 18) :
    Calls Tryz.prog 31 #[.int .i64 N, .int .i64 least] w fun e w' => e = .returned (.string ⟨(pdT N least).toArray⟩) ∧ Below w.heap.size w w' := by
  refine (AM.digits_any N least w hN hl).mono ?_
  rintro e w' ⟨e', rfl, h1, _, h2, h3, hb⟩
  exact ⟨by rw [pd_of h0 h1 h2 h3], hb⟩
theorem dayN_b {n : Int} (h1 : 1 ≤ n) : 1 ≤ dayI n ∧ dayI n ≤ 31 := by
  obtain ⟨a, _⟩ := dateI_right h1
  have := a.d1; have := a.d2; have := mdays_b (yearI n) (monthI n); omega
theorem monthN_b {n : Int} (h1 : 1 ≤ n) : 1 ≤ monthI n ∧ monthI n ≤ 12 := by
  obtain ⟨a, _⟩ := dateI_right h1
  exact ⟨a.m1, a.m2⟩
/-- A day as a text. -/
def dayT (d : Int) : List UInt8 := pdT (yearI d).toNat 4 ++ pdT (monthI d).toNat 2 ++ pdT (dayI d).toNat 2
set_option maxRecDepth 100000 in
set_option maxHeartbeats 1000000 in
theorem refDate_any (d : Int) (w : World) (hd : dayB d = true) :
    Calls Tryz.prog 29 #[.int .i64 d] w fun e w' => e = .returned (.string ⟨(dayT d).toArray⟩) ∧ Below w.heap.size w w' := by
  have hb : 1 ≤ d ∧ d ≤ 3652059 := by unfold dayB at hd; simpa using hd
  have hy := yearI_b hb.1 hb.2
  have hm := monthN_b hb.1
  have hdd := dayN_b hb.1
  have HOF := hide (refOf_any d w)
  have e1 : ofV d = dateV (yearI d) (monthI d) (dayI d) := by unfold ofV; rw [if_pos hd]
  have e2 : ofE d = 0 := by unfold ofE; rw [if_pos hd]
  rw [e1, e2] at HOF
  unfold dayT
  obtain ⟨Y, hY⟩ : ∃ Y : Nat, (Y : Int) = yearI d := ⟨(yearI d).toNat, by omega⟩
  obtain ⟨M, hM⟩ : ∃ M : Nat, (M : Int) = monthI d := ⟨(monthI d).toNat, by omega⟩
  obtain ⟨D, hD⟩ : ∃ D : Nat, (D : Int) = dayI d := ⟨(dayI d).toNat, by omega⟩
  rw [← hY, ← hM, ← hD] at HOF ⊢
  simp only [Int.toNat_natCast] at *
  unfold dateV at HOF
  have hYb : Y ≤ 9999 := by omega
  have hMb : M ≤ 12 := by omega
  have hDb : D ≤ 31 := by omega
  clear e1 e2 hY hM hD hy hm hdd hb hd
  have H1 := hide (fun W : World => digitsT_any Y 4 W (by omega) (by omega) (by omega))
  have H2 := hide (fun W : World => digitsT_any M 2 W (by omega) (by omega) (by omega))
  have H3 := hide (fun W : World => digitsT_any D 2 W (by omega) (by omega) (by omega))
  have l1 := pd_len_le (N := Y) (least := 4) (by omega) (by omega)
  have l2 := pd_len_le (N := M) (least := 2) (by omega) (by omega)
  have l3 := pd_len_le (N := D) (least := 2) (by omega) (by omega)
  obtain ⟨T1, t1⟩ : ∃ T, Hid (pdT Y 4 = T) := ⟨_, hide rfl⟩
  obtain ⟨T2, t2⟩ : ∃ T, Hid (pdT M 2 = T) := ⟨_, hide rfl⟩
  obtain ⟨T3, t3⟩ : ∃ T, Hid (pdT D 2 = T) := ⟨_, hide rfl⟩
  rw [t1.out] at H1 l1 ⊢
  rw [t2.out] at H2 l2 ⊢
  rw [t3.out] at H3 l3 ⊢
  clear t1 t2 t3
  have a1 : (⟨T1.toArray⟩ : ByteArray) ++ ⟨T2.toArray⟩ = ⟨(T1 ++ T2).toArray⟩ := by apply ByteArray.ext; simp
  have a2 : (⟨(T1 ++ T2).toArray⟩ : ByteArray) ++ ⟨T3.toArray⟩ = ⟨(T1 ++ T2 ++ T3).toArray⟩ := by apply ByteArray.ext; simp
  go_enter Tryz.func29, Tryz.ntmps29
  go_wp2_with fail
  refine HOF.out.mono ?_
  rintro e w1 ⟨rfl, hb1⟩
  have B1 := hide hb1
  clear hb1 HOF
  have BX := hide ((Below.refl w1.heap.size w1).alloc (Nat.le_refl _) (.cells #[.int .i64 (Y : Int), .int .i64 (M : Int), .int .i64 (D : Int)] 108))
  generalize hWX : w1.alloc (.cells #[.int .i64 (Y : Int), .int .i64 (M : Int), .int .i64 (D : Int)] 108) = WX at BX
  have HC0 : Hid (WX.cell? ⟨w1.heap.size, 0, none⟩ = some (.int .i64 (Y : Int))) := hide (by rw [← hWX]; simp)
  have HC1 : Hid (WX.cell? ⟨w1.heap.size, 1, none⟩ = some (.int .i64 (M : Int))) := hide (by rw [← hWX]; simp)
  have HC2 : Hid (WX.cell? ⟨w1.heap.size, 2, none⟩ = some (.int .i64 (D : Int))) := hide (by rw [← hWX]; simp)
  have hlt : w1.heap.size < WX.heap.size := by rw [← hWX]; simp
  have B2 := hide (B1.out.trans (BX.out.mono B1.out.size))
  have HX0 := hide ((Below.refl WX.heap.size WX).drew)
  have q0 : ∀ x : Gr WX, x.1.cell? ⟨w1.heap.size, 0, none⟩ = some (.int .i64 (Y : Int)) := fun x => (x.2.cell (p := ⟨w1.heap.size, 0, none⟩) hlt).trans HC0.out
  have q1 : ∀ x : Gr WX, x.1.cell? ⟨w1.heap.size, 1, none⟩ = some (.int .i64 (M : Int)) := fun x => (x.2.cell (p := ⟨w1.heap.size, 1, none⟩) hlt).trans HC1.out
  have q2 : ∀ x : Gr WX, x.1.cell? ⟨w1.heap.size, 2, none⟩ = some (.int .i64 (D : Int)) := fun x => (x.2.cell (p := ⟨w1.heap.size, 2, none⟩) hlt).trans HC2.out
  go_wp2_with fail
  haveI : Nonempty (Gr WX) := ⟨⟨_, HX0.out⟩⟩
  refine region_class (C := fun w' => ∃ x : Gr WX, w' = x.1) (by kernel_rfl) (by kernel_rfl) ⟨⟨_, HX0.out⟩, rfl⟩ ?_
  repeat (first
    | go_big_quiet_skip
    | (go_big_quiet_want; (go_big_quiet_op; first
        | go_big_quiet_on
        | (apply Exists.intro; refine ⟨fun x => ?_, ?_⟩; (first
            | (go_at_call_of 31 (Value.int .i64 (Y : Int)); exact x.call (H1.out x.1))
            | (go_at_call_of 31 (Value.int .i64 (M : Int)); exact x.call (H2.out x.1))
            | (go_at_call_of 31 (Value.int .i64 (D : Int)); exact x.call (H3.out x.1))); go_big_quiet_on))))
  refine wpQuiet_nil ?_
  rintro w3 ⟨x, rfl⟩
  have B3 := hide (B2.out.trans (x.2.mono B2.out.size))
  obtain ⟨w3, hw3⟩ := x
  dsimp only at B3 ⊢
  go_wp2_with fail
  go_ret
  exact ⟨by rw [List.append_assoc]; rfl, B3.out⟩
set_option maxRecDepth 100000 in
theorem refField_any (a b c : List UInt8) (w : World) :
    Calls Tryz.prog 26 #[.string ⟨a.toArray⟩, .string ⟨b.toArray⟩, .string ⟨c.toArray⟩] w fun e w' => e = .returned (.agg (TG.iC ⟨a, b, c, []⟩ (.slice none 0 0))) ∧ Below w.heap.size w w' := by
  go_enter Tryz.func26, Tryz.ntmps26
  go_wp2_with fail
  exact bodyPost_ret (v := .agg #[.string ⟨a.toArray⟩, .string ⟨b.toArray⟩, .string ⟨c.toArray⟩, .string ⟨#[]⟩, .slice none 0 0]) (by simp [results, Tryz.results26, go_sem]) rfl ⟨rfl, (Below.refl _ _).alloc (Nat.le_refl _) _⟩
end Go.Proofs.YtbaideeiljeamaaGreatDoor
namespace Go.Proofs.YtbaideeiljeamaaGreatDoor
open Go.RowKit

def fldT (a b c : List UInt8) : TG.Tr := .mk ⟨a, b, c, []⟩ []
def blkT (n : List UInt8) (l : List TG.Tr) : TG.Tr := .mk ⟨[], [], [], n⟩ l
def funcT (n : Ntc) : List UInt8 := if n.cn then [67, 65, 78, 67] else [78, 69, 87, 77]
def typeT (n : Ntc) : List UInt8 := if n.rc then (if n.py then [53, 52, 49] else [53, 52, 48]) else if n.py then [53, 52, 51] else [53, 52, 50]
def sideT (n : Ntc) : List UInt8 := if n.rc then [68, 69, 65, 71] else [82, 69, 65, 71]
def kindT (k : Int) : List UInt8 := if k = 1 then [87, 73, 84, 72] else if k = 2 then [66, 69, 70, 79] else [65, 70, 84, 69]
def codeT (n : Ntc) : List UInt8 := [73, 83, 73, 78, 32] ++ n.code
def qtyT (n : Ntc) : List UInt8 := [85, 78, 73, 84, 47] ++ pdT n.qty.toNat 1 ++ [44]
def monT (n : Ntc) : List UInt8 := n.cur ++ pdT n.amt.toNat 1 ++ [44]
def linkT (p : Lnk) : TG.Tr := blkT [76, 73, 78, 75] [fldT [50, 50, 70] [76, 73, 78, 75] (kindT p.1), fldT [50, 48, 67] [82, 69, 76, 65] p.2]
def gen3T (n : Ntc) : List TG.Tr := [fldT [50, 48, 67] [83, 69, 77, 69] n.ref, fldT [50, 51, 71] [] (funcT n), fldT [50, 50, 70] [84, 89, 80, 69] (typeT n)]
def gen4T (n : Ntc) : List TG.Tr := gen3T n ++ (if n.cn then [fldT [50, 48, 67] [80, 82, 69, 86] n.prev] else [])
def genlT (n : Ntc) (ls : List Lnk) : List TG.Tr := gen4T n ++ ls.map linkT
def tradT (n : Ntc) : List TG.Tr := [fldT [57, 56, 65] [84, 82, 65, 68] (dayT n.tr), fldT [57, 56, 65] [83, 69, 84, 84] (dayT n.st), fldT [51, 53, 66] [] (codeT n), fldT [50, 50, 70] [80, 82, 73, 82] (pdT n.pri.toNat 4)]
def fiacT (n : Ntc) : List TG.Tr := [fldT [51, 54, 66] [83, 69, 84, 84] (qtyT n), fldT [57, 55, 65] [83, 65, 70, 69] n.acc]
def sidesT (n : Ntc) : List TG.Tr := [fldT [57, 53, 80] (sideT n) n.agt, fldT [57, 55, 65] [83, 65, 70, 69] n.oth]
def amtT (n : Ntc) : TG.Tr := blkT [65, 77, 84] [fldT [49, 57, 65] [83, 69, 84, 84] (monT n)]
def setdT (n : Ntc) : List TG.Tr := [blkT [83, 69, 84, 80, 82, 84, 89] (sidesT n)] ++ (if n.py then [amtT n] else [])
/-- A notice as a message. -/
def msgT (n : Ntc) (ls : List Lnk) : List TG.Tr := [blkT [71, 69, 78, 76] (genlT n ls), blkT [84, 82, 65, 68, 68, 69, 84] (tradT n), blkT [70, 73, 65, 67] (fiacT n), blkT [83, 69, 84, 68, 69, 84] (setdT n)]

set_option maxRecDepth 100000 in
theorem refKind_any (k : Int) (w : World) :
    Calls Tryz.prog 28 #[.int .i64 k] w fun e w' => e = .returned (.string ⟨(kindT k).toArray⟩) ∧ Below w.heap.size w w' := by
  unfold kindT
  by_cases h1 : k = 1
  · subst h1
    go_enter Tryz.func28, Tryz.ntmps28
    go_wp2_with fail
    go_ret
    exact ⟨rfl, Below.refl _ _⟩
  · by_cases h2 : k = 2
    · subst h2
      go_enter Tryz.func28, Tryz.ntmps28
      go_wp2_with fail
      go_ret
      exact ⟨rfl, Below.refl _ _⟩
    · rw [if_neg h1, if_neg h2]
      have d1 : (k == 1) = false := beq_eq_false_iff_ne.2 h1
      have d2 : (k == 2) = false := beq_eq_false_iff_ne.2 h2
      go_enter Tryz.func28, Tryz.ntmps28
      go_wp2_with fail
      go_ret
      exact ⟨rfl, Below.refl _ _⟩
set_option maxRecDepth 100000 in
set_option maxHeartbeats 1000000 in
theorem refType_any (n : Ntc) (v : Value) (w : World) (hn : NOk n) :
    Calls Tryz.prog 27 #[.agg (nC n v)] w fun e w' => e = .returned (.string ⟨(typeT n).toArray⟩) ∧ Below w.heap.size w w' := by
  have X0 := Bx.new w n v
  have B0 := hide ((Below.refl w.heap.size w).alloc (Nat.le_refl _) (.cells (nC n v) 26))
  have c3 := X0.rc hn.code
  have c4 := X0.py hn.code
  unfold typeT
  cases hr : n.rc <;> cases hp : n.py <;> rw [hr] at c3 <;> rw [hp] at c4 <;> clear hr hp X0
  all_goals
    go_enter Tryz.func27, Tryz.ntmps27
    go_wp2_with fail
    go_ret
    exact ⟨rfl, B0.out⟩
set_option maxRecDepth 100000 in
set_option maxHeartbeats 1000000 in
theorem refSide_any (n : Ntc) (v : Value) (w : World) (hn : NOk n) :
    Calls Tryz.prog 32 #[.agg (nC n v)] w fun e w' => e = .returned (.string ⟨(sideT n).toArray⟩) ∧ Below w.heap.size w w' := by
  have X0 := Bx.new w n v
  have B0 := hide ((Below.refl w.heap.size w).alloc (Nat.le_refl _) (.cells (nC n v) 26))
  have c3 := X0.rc hn.code
  unfold sideT
  cases hr : n.rc <;> rw [hr] at c3 <;> clear hr X0
  all_goals
    go_enter Tryz.func32, Tryz.ntmps32
    go_wp2_with fail
    go_ret
    exact ⟨rfl, B0.out⟩
end Go.Proofs.YtbaideeiljeamaaGreatDoor
