/-
  My own text: how the program tells a notice's fields: numbers, amounts, words.
-/
import Derived.Test.YtbaideeiljeamaaGreatDoorNM2
namespace Go.Proofs.YtbaideeiljeamaaGreatDoor
open Go.RowKit

theorem pd_rep {N s : Nat} : List.replicate (s - Lib.nDigits N) 48 ++ Lib.itoa (N : Int) = pdT N s := by rw [Lib.itoa_nonneg]; rfl
set_option maxRecDepth 100000 in
set_option maxHeartbeats 1000000 in
theorem padded_any (N s : Nat) (w : World) (hP : AM.Pow w) (hN : N ≤ 9223372036854775807) (hs : s ≤ 18) :
    Calls Tryz.prog 90 #[.int .i64 (N : Int), .int .i64 (s : Int)] w fun e w' => e = .returned (.string ⟨(pdT N s).toArray⟩) ∧ Below w.heap.size w w' := by
  have HL := hide (Lib.itoa_nonneg N)
  have nd1 := Lib.nDigits_pos N
  have nd2 := Lib.nDigits_le20 N (by omega)
  have hlen : (Lib.itoa (N : Int)).length = Lib.nDigits N := by rw [HL.out, Lib.decDigits_length]
  have HI := hide (Tryz.strconv_Itoa N (by omega) (by omega) w hP)
  have HE := hide (pd_rep (N := N) (s := s))
  obtain ⟨I, hI⟩ : ∃ I, Hid (Lib.itoa (N : Int) = I) := ⟨_, hide rfl⟩
  obtain ⟨d, hd⟩ : ∃ d, Hid (Lib.nDigits N = d) := ⟨_, hide rfl⟩
  rw [hI.out] at HI hlen HE
  rw [hd.out] at hlen nd1 nd2 HE
  clear HL hI hd
  have m1 : max ((s : Int) - (d : Int)) 0 = ((s - d : Nat) : Int) := by omega
  have w1 : wrap64 ((s : Int) - (d : Int)) = (s : Int) - (d : Int) := by unfold wrap64; omega
  have HR := hide (fun W : World => Tryz.strings_Repeat ⟨#[48]⟩ (s - d) W (by omega) (by simp [ByteArray.size]; omega))
  have e1 : Lib.repeatL (⟨#[48]⟩ : ByteArray).data.toList (s - d) = List.replicate (s - d) 48 := AM.rep_zeros (s - d)
  rw [e1] at HR
  have l1 : (List.replicate (s - d) (48 : UInt8)).length ≤ 18 := by simp; omega
  obtain ⟨R, hR⟩ : ∃ R, Hid (List.replicate (s - d) (48 : UInt8) = R) := ⟨_, hide rfl⟩
  rw [hR.out] at HR l1 HE
  have a1 : (⟨R.toArray⟩ : ByteArray) ++ ⟨I.toArray⟩ = ⟨(R ++ I).toArray⟩ := by apply ByteArray.ext; simp
  rw [← HE.out]
  clear hR e1 HE
  go_enter Tryz.func90, Tryz.ntmps90
  go_wp2_with fail
  refine HI.out.mono ?_
  rintro e w2 ⟨rfl, k, os, hw2⟩
  have B2 : Hid (Below w.heap.size w w2) := hide (by rw [hw2]; exact AM.below_grow w k os)
  clear hw2 HI
  go_wp2_with fail
  refine (HR.out w2).mono ?_
  rintro e w3 ⟨rfl, hb3⟩
  have B3 := hide (B2.out.trans (hb3.mono B2.out.size))
  clear hb3 HR
  go_wp2_with fail
  go_ret
  exact ⟨rfl, B3.out⟩
set_option maxRecDepth 100000 in
set_option maxHeartbeats 1000000 in
theorem tellAmount_any (N : Nat) (w : World) (hP : AM.Pow w) (hN : N ≤ 9223372036854775807) :
    Calls Tryz.prog 97 #[.int .i64 (N : Int)] w fun e w' => e = .returned (.string ⟨(pdT N 1 ++ [44]).toArray⟩) ∧ Below w.heap.size w w' := by
  have HF := hide (AM.format_any (N : Int) 0 w hP (by omega))
  have e1 : AM.fmtV (N : Int) 0 = ⟨(pdT N 1).toArray⟩ := by
    have := (AM.fmt_ok N 0 (by omega)).1
    rw [show ((0 : Nat) : Int) = 0 from rfl] at this
    rw [this]
    have h1 := Lib.nDigits_pos N
    unfold AM.fmtL pdT
    rw [if_pos rfl, show 1 - Lib.nDigits N = 0 by omega]; rfl
  have e2 : AM.fmtE (N : Int) 0 = 0 := (AM.fmt_ok N 0 (by omega)).2
  rw [e1, e2, errV_zero] at HF
  have l1 := pd_len_le (N := N) (least := 1) hN (by omega)
  obtain ⟨T, hT⟩ : ∃ T, Hid (pdT N 1 = T) := ⟨_, hide rfl⟩
  rw [hT.out] at HF l1 ⊢
  have a1 : (⟨T.toArray⟩ : ByteArray) ++ ⟨#[44]⟩ = ⟨(T ++ [44]).toArray⟩ := by apply ByteArray.ext; simp
  clear e1 e2 hT
  go_enter Tryz.func97, Tryz.ntmps97
  go_wp2_with fail
  refine HF.out.mono ?_
  rintro e w2 ⟨rfl, hb2⟩
  go_wp2_with fail
  go_ret
  exact ⟨rfl, hb2⟩
theorem cell_later {w w' : World} (hb : Below w.heap.size w w') {p : Addr} {u : Value} (h : w.cell? p = some u) : w'.cell? p = some u := (hb.cell (World.block_lt_of_cell? _ _ h)).trans h
/-- The tables of words. -/
def Typs (w : World) : Prop := w.cell? ⟨1, 0, none⟩ = some (.string ⟨#[53, 52, 48]⟩) ∧ w.cell? ⟨1, 1, none⟩ = some (.string ⟨#[53, 52, 49]⟩) ∧ w.cell? ⟨1, 2, none⟩ = some (.string ⟨#[53, 52, 50]⟩) ∧ w.cell? ⟨1, 3, none⟩ = some (.string ⟨#[53, 52, 51]⟩)
theorem Typs.later {w w' : World} (h : Typs w) (hb : Below w.heap.size w w') : Typs w' := ⟨cell_later hb h.1, cell_later hb h.2.1, cell_later hb h.2.2.1, cell_later hb h.2.2.2⟩
def LWds (w : World) : Prop := w.cell? ⟨2, 0, none⟩ = some (.string ⟨#[87, 73, 84, 72]⟩) ∧ w.cell? ⟨2, 1, none⟩ = some (.string ⟨#[66, 69, 70, 79]⟩) ∧ w.cell? ⟨2, 2, none⟩ = some (.string ⟨#[65, 70, 84, 69]⟩)
theorem LWds.later {w w' : World} (h : LWds w) (hb : Below w.heap.size w w') : LWds w' := ⟨cell_later hb h.1, cell_later hb h.2.1, cell_later hb h.2.2⟩
set_option maxRecDepth 100000 in
set_option maxHeartbeats 1000000 in
theorem tellFunction_any (n : Ntc) (v : Value) (g : Nat) (w : World) (hn : NOk n) (hX : Bx w g n v) :
    Calls Tryz.prog 40 #[.pointer (some ⟨g, 0, none⟩)] w fun e w' => e = .returned (.string ⟨(funcT n).toArray⟩) ∧ Below w.heap.size w w' := by
  have c2 := hX.cn hn.code
  unfold funcT
  cases hc : n.cn <;> rw [hc] at c2 <;> clear hc
  all_goals
    go_enter Tryz.func40, Tryz.ntmps40
    go_wp2_with fail
    go_ret
    exact ⟨rfl, Below.refl _ _⟩
set_option maxRecDepth 100000 in
set_option maxHeartbeats 1000000 in
theorem tellType_any (n : Ntc) (v : Value) (g : Nat) (w : World) (hn : NOk n) (hX : Bx w g n v) (hT : Typs w) :
    Calls Tryz.prog 42 #[.pointer (some ⟨g, 0, none⟩)] w fun e w' => e = .returned (.string ⟨(typeT n).toArray⟩) ∧ Below w.heap.size w w' := by
  have c3 := hX.rc hn.code
  have c4 := hX.py hn.code
  obtain ⟨t0, t1, t2, t3⟩ := hT
  unfold typeT
  cases hr : n.rc <;> cases hp : n.py <;> rw [hr] at c3 <;> rw [hp] at c4 <;> clear hr hp
  all_goals
    go_enter Tryz.func42, Tryz.ntmps42
    go_wp2_with fail
    go_ret
    exact ⟨rfl, Below.refl _ _⟩
set_option maxRecDepth 100000 in
set_option maxHeartbeats 1000000 in
theorem tellPriority_any (n : Ntc) (v : Value) (g : Nat) (w : World) (hn : NOk n) (hX : Bx w g n v) (hP : AM.Pow w) (h0 : 0 ≤ n.pri) (h1 : n.pri ≤ 9999) :
    Calls Tryz.prog 55 #[.pointer (some ⟨g, 0, none⟩)] w fun e w' => e = .returned (.string ⟨(pdT n.pri.toNat 4).toArray⟩) ∧ Below w.heap.size w w' := by
  have c := hX.pri hn.code
  obtain ⟨N, hN⟩ : ∃ N : Nat, n.pri = (N : Int) := ⟨n.pri.toNat, by omega⟩
  rw [hN] at c h1 ⊢
  have H := hide (padded_any N 4 w hP (by omega) (by omega))
  rw [show ((4 : Nat) : Int) = 4 from rfl] at H
  simp only [Int.toNat_natCast]
  clear hN h0
  go_enter Tryz.func55, Tryz.ntmps55
  go_wp2_with fail
  refine H.out.mono ?_
  rintro e w2 ⟨rfl, hb2⟩
  go_wp2_with fail
  go_ret
  exact ⟨rfl, hb2⟩
set_option maxRecDepth 100000 in
set_option maxHeartbeats 1000000 in
theorem tellQty_any (n : Ntc) (v : Value) (g : Nat) (w : World) (hn : NOk n) (hX : Bx w g n v) (hP : AM.Pow w) (h0 : 0 ≤ n.qty) (h1 : n.qty ≤ 9223372036854775807) :
    Calls Tryz.prog 57 #[.pointer (some ⟨g, 0, none⟩)] w fun e w' => e = .returned (.string ⟨(qtyT n).toArray⟩) ∧ Below w.heap.size w w' := by
  have c := hX.qty hn.code
  unfold qtyT
  obtain ⟨N, hN⟩ : ∃ N : Nat, n.qty = (N : Int) := ⟨n.qty.toNat, by omega⟩
  rw [hN] at c h1 ⊢
  have H := hide (tellAmount_any N w hP (by omega))
  have l1 := pd_len_le (N := N) (least := 1) (by omega) (by omega)
  simp only [Int.toNat_natCast]
  obtain ⟨T, hT⟩ : ∃ T, Hid (pdT N 1 = T) := ⟨_, hide rfl⟩
  rw [hT.out] at H l1 ⊢
  obtain ⟨U, hU, hUl⟩ : ∃ U, Hid (T ++ [44] = U) ∧ U.length ≤ 20 := ⟨T ++ [44], hide rfl, by simp; omega⟩
  rw [hU.out] at H
  have a1 : (⟨#[85, 78, 73, 84, 47]⟩ : ByteArray) ++ ⟨U.toArray⟩ = ⟨([85, 78, 73, 84, 47] ++ U).toArray⟩ := by apply ByteArray.ext; simp
  have e1 : Hid ([85, 78, 73, 84, 47] ++ T ++ [44] = [85, 78, 73, 84, 47] ++ U) := hide (by rw [← hU.out]; simp)
  rw [e1.out]
  clear hN h0 hT hU e1
  go_enter Tryz.func57, Tryz.ntmps57
  go_wp2_with fail
  refine H.out.mono ?_
  rintro e w2 ⟨rfl, hb2⟩
  go_wp2_with fail
  go_ret
  exact ⟨rfl, hb2⟩
end Go.Proofs.YtbaideeiljeamaaGreatDoor
