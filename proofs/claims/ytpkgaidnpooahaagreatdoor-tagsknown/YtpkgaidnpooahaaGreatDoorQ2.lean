/-
  My own text: Q1, Q2 in one.
-/
import Derived.Test.YtpkgaidnpooahaaGreatDoorT7
import Derived.Defers
import Derived.Recover
import Derived.Deep.RegionWith
namespace Go.Proofs.YtpkgaidnpooahaaGreatDoor
open Go.RowKit

/-- A line: its number, its place, its text, whether it is ended. -/
structure Lin where
  no : Int
  bg : Int
  tx : List UInt8
  en : Bool
def lnC (n : Lin) : Array Value := #[.int .i64 n.no, .int .i64 n.bg, .string ⟨n.tx.toArray⟩, .bool n.en]
def Lx (w : World) (g : Nat) (n : Lin) : Prop := w.heap[g]? = some (.cells (lnC n) 98 (0, 0))
theorem Lx.lt {w : World} {g : Nat} {n : Lin} (h : Lx w g n) : g < w.heap.size := (Array.getElem?_eq_some_iff.1 h).1
theorem Lx.later {w w' : World} {g : Nat} {n : Lin} (h : Lx w g n) (hb : Below w.heap.size w w') : Lx w' g n := (hb.block g h.lt).trans h
theorem Lx.new (w : World) (n : Lin) : Lx (w.alloc (.cells (lnC n) 98)) w.heap.size n := alloc_new w _
theorem Lx.alloc {w : World} {g : Nat} {n : Lin} (h : Lx w g n) (o : Obj) : Lx (w.alloc o) g n := alloc_block h
theorem Lx.num {w : World} {g : Nat} {n : Lin} (h : Lx w g n) : w.cell? ⟨g, 0, none⟩ = some (.int .i64 n.no) := by rw [cell_of_row _ _ 0 _ _ _ h]; rfl
theorem Lx.beg {w : World} {g : Nat} {n : Lin} (h : Lx w g n) : w.cell? ⟨g, 1, none⟩ = some (.int .i64 n.bg) := by rw [cell_of_row _ _ 1 _ _ _ h]; rfl
theorem Lx.text {w : World} {g : Nat} {n : Lin} (h : Lx w g n) : w.cell? ⟨g, 2, none⟩ = some (.string ⟨n.tx.toArray⟩) := by rw [cell_of_row _ _ 2 _ _ _ h]; rfl
theorem Lx.ends {w : World} {g : Nat} {n : Lin} (h : Lx w g n) : w.cell? ⟨g, 3, none⟩ = some (.bool n.en) := by rw [cell_of_row _ _ 3 _ _ _ h]; rfl
theorem Lx.range {w : World} {g : Nat} {n : Lin} (h : Lx w g n) : w.rangeAt g 0 (lnC n).toList := fun j u hj => by
  rw [Nat.zero_add, cell_of_row _ _ j _ _ _ h]; simpa using hj
def fltV (no n at_ : Int) : Value := .iface 66 (.agg #[.int .i64 no, .int .i64 n, .int .i64 at_])
/-- What a call ends with that gives up. -/
def gone (no n at_ : Int) : Ending := .panicked [{ v := fltV no n at_, recovered := false }]
set_option maxRecDepth 100000 in
theorem refuse_no (n : Lin) (no at_ : Int) (w : World) :
    Calls Tryz.prog 65 #[.agg (lnC n), .bool false, .int .i64 no, .int .i64 at_] w fun e w' => e = .returned (.tuple #[]) ∧ Below w.heap.size w w' := by
  go_enter Tryz.func65, Tryz.ntmps65
  go_wp2_with fail
  go_end0
  exact ⟨rfl, (Below.refl _ _).alloc (Nat.le_refl _) _⟩
set_option maxRecDepth 100000 in
theorem refuse_yes (n : Lin) (no at_ : Int) (w : World) :
    Calls Tryz.prog 65 #[.agg (lnC n), .bool true, .int .i64 no, .int .i64 at_] w fun e w' => e = gone no n.no at_ ∧ Below w.heap.size w w' := by
  have c0 := (Lx.new w n).num
  go_enter Tryz.func65, Tryz.ntmps65
  go_wp2_with fail
  exact ⟨rfl, rfl, (Below.refl _ _).alloc (Nat.le_refl _) _⟩
end Go.Proofs.YtpkgaidnpooahaaGreatDoor
namespace Go.Proofs.YtpkgaidnpooahaaGreatDoor
open Go.RowKit

set_option maxRecDepth 100000 in
set_option maxHeartbeats 1000000 in
theorem firstSet_any (l : List UInt8) (w : World) (hl : l.length ≤ 140737488355328) :
    Calls Tryz.prog 86 #[.func (Fn.func 87) #[] #[], .string ⟨l.toArray⟩] w fun e w' => e = .returned (.int .i64 (fstNot inS l : Int)) ∧ w' = w := by
  go_enter Tryz.func86, Tryz.ntmps86
  go_wp2_with fail
  go_loop [8] (fun i => ∃ k : Nat, k ≤ l.length ∧ i = .int .i64 k ∧ Hid (∀ j, j < k → inS (l.getD j 0) = true)) (fun i => l.length - (intOf i).toNat)
  case atStart => exact ⟨0, Nat.zero_le _, rfl, hide (fun j hj => by omega)⟩
  case round =>
    obtain ⟨k, hk, rfl, HA⟩ := hrel
    by_cases hlt : k < l.length
    · have hs1 : k < (⟨l.toArray⟩ : ByteArray).size := by rw [bytes_size]; exact hlt
      obtain ⟨c, hc, Hc⟩ : ∃ c, (⟨l.toArray⟩ : ByteArray)[k]'hs1 = c ∧ Hid (l.getD k 0 = c) := ⟨_, rfl, by rw [getD_at hlt]; exact hide rfl⟩
      have HS := hide (fun W : World => tIsOfSet_any c W)
      cases hb : inS c
      · have HR := hide (fstNot_at (p := inS) hlt HA.out (by rw [Hc.out]; exact hb))
        have hb' := hb
        rw [hb'] at HS
        go_wp2_with fail
        refine (HS.out _).mono ?_
        rintro e w' ⟨rfl, rfl⟩
        go_wp2_with fail
        go_ret
        exact ⟨ret_i (by rw [HR.out]), rfl⟩
      · have HX : Hid (∀ j, j < k + 1 → inS (l.getD j 0) = true) := hide (fun j hj => by
          by_cases e : j = k
          · subst e; rw [Hc.out]; exact hb
          · exact HA.out j (by omega))
        have hb' := hb
        rw [hb'] at HS
        go_wp2_with fail
        refine (HS.out _).mono ?_
        rintro e w' ⟨rfl, rfl⟩
        go_wp2_with fail
        go_round
        case rel => exact ⟨k + 1, by omega, by go_num, HX⟩
        case measure => simp [intOf]; omega
    · have hk' : k = l.length := by omega
      subst hk'
      have HR := hide (fstNot_all (p := inS) HA.out)
      go_wp2_with fail
      go_ret
      exact ⟨ret_i (by rw [HR.out]), rfl⟩
def chkE (n : Lin) : Option (Int × Int) := if !n.en then some (2, n.tx.length + 1) else if fstNot inS n.tx < n.tx.length then some (6, fstNot inS n.tx + 1) else if n.tx.isEmpty then some (4, 1) else none
/-- The end of a call that gives up, or not. -/
def ends (o : Option (Int × Int)) (n : Int) (v : Value) : Ending := match o with
  | some (no, at_) => gone no n at_
  | none => .returned v
set_option maxRecDepth 100000 in
set_option maxHeartbeats 2000000 in
theorem check_line (n : Lin) (w : World) (hl : n.tx.length ≤ 1048576) :
    Calls Tryz.prog 66 #[.agg (lnC n)] w fun e w' => e = ends (chkE n) n.no (.tuple #[]) ∧ Below w.heap.size w w' := by
  obtain ⟨no, bg, tx, en⟩ := n
  dsimp only at hl
  have X0 := hide (Lx.new w ⟨no, bg, tx, en⟩)
  have B0 := hide ((Below.refl w.heap.size w).alloc (Nat.le_refl _) (.cells (lnC ⟨no, bg, tx, en⟩) 98))
  have c0 := X0.out.num
  have c1 := X0.out.beg
  have c2 := X0.out.text
  have c3 := X0.out.ends
  dsimp only at c0 c1 c2 c3
  have HFN := hide (fun W : World => firstSet_any tx W (by omega))
  cases en
  · have HE : Hid (chkE ⟨no, bg, tx, false⟩ = some (2, (tx.length : Int) + 1)) := hide rfl
    have HR := hide (fun W : World => refuse_yes ⟨no, bg, tx, false⟩ 2 ((tx.length : Int) + 1) W)
    go_enter Tryz.func66, Tryz.ntmps66
    go_wp2_with fail
    refine (HR.out _).mono ?_
    rintro e w1 ⟨rfl, hb1⟩
    refine ⟨rfl, ?_, B0.out.trans (hb1.mono B0.out.size)⟩
    rw [HE.out]; rfl
  · have HR := hide (fun W : World => refuse_no ⟨no, bg, tx, true⟩ 2 ((tx.length : Int) + 1) W)
    have HLE := hide (fstNot_le inS tx)
    obtain ⟨k, Hk⟩ : ∃ k, Hid (fstNot inS tx = k) := ⟨_, hide rfl⟩
    rw [Hk.out] at HFN HLE
    have hkl : k ≤ 1048576 := by have := HLE.out; omega
    go_enter Tryz.func66, Tryz.ntmps66
    go_wp2_with fail
    refine (HR.out _).mono ?_
    rintro e w1 ⟨rfl, hb1⟩
    have B1 := hide (B0.out.trans (hb1.mono B0.out.size))
    have X1 := hide (X0.out.later hb1)
    clear hb1 c0 c1 c2 c3
    have c0 := X1.out.num
    have c1 := X1.out.beg
    have c2 := X1.out.text
    have c3 := X1.out.ends
    dsimp only at c0 c1 c2 c3
    go_wp2_with fail
    refine (HFN.out _).mono ?_
    rintro e w2 ⟨rfl, rfl⟩
    by_cases hlt : k < tx.length
    · have HE : Hid (chkE ⟨no, bg, tx, true⟩ = some (6, (k : Int) + 1)) := by
        show _ = _
        unfold chkE
        dsimp only
        rw [Hk.out, if_neg (by decide), if_pos hlt]
      have HR2 := hide (fun W : World => refuse_yes ⟨no, bg, tx, true⟩ 6 ((k : Int) + 1) W)
      have hd : decide ((k : Int) < (tx.length : Int)) = true := decide_eq_true (by omega)
      go_wp2_with fail
      refine (HR2.out _).mono ?_
      rintro e w3 ⟨rfl, hb3⟩
      refine ⟨rfl, ?_, B1.out.trans (hb3.mono B1.out.size)⟩
      rw [HE.out]; rfl
    · have HR2 := hide (fun W : World => refuse_no ⟨no, bg, tx, true⟩ 6 ((k : Int) + 1) W)
      have hd : decide ((k : Int) < (tx.length : Int)) = false := decide_eq_false (by omega)
      go_wp2_with fail
      refine (HR2.out _).mono ?_
      rintro e w3 ⟨rfl, hb3⟩
      have B3 := hide (B1.out.trans (hb3.mono B1.out.size))
      have X3 := hide (X1.out.later hb3)
      clear hb3 c0 c1 c2 c3
      have c0 := X3.out.num
      have c1 := X3.out.beg
      have c2 := X3.out.text
      have c3 := X3.out.ends
      dsimp only at c0 c1 c2 c3
      cases hte : tx.isEmpty
      · have HE : Hid (chkE ⟨no, bg, tx, true⟩ = none) := by
          show _ = _
          unfold chkE
          dsimp only
          rw [Hk.out, if_neg (by decide), if_neg hlt, hte]; rfl
        have hq := str_eq_f hte
        have HR4 := hide (fun W : World => refuse_no ⟨no, bg, tx, true⟩ 4 1 W)
        go_wp2_with fail
        refine (HR4.out _).mono ?_
        rintro e w4 ⟨rfl, hb4⟩
        go_wp2_with fail
        go_end0
        refine ⟨?_, B3.out.trans (hb4.mono B3.out.size)⟩
        rw [HE.out]; rfl
      · have HE : Hid (chkE ⟨no, bg, tx, true⟩ = some (4, 1)) := by
          show _ = _
          unfold chkE
          dsimp only
          rw [Hk.out, if_neg (by decide), if_neg hlt, hte]; rfl
        have hq := str_eq_t hte
        have HR4 := hide (fun W : World => refuse_yes ⟨no, bg, tx, true⟩ 4 1 W)
        go_wp2_with fail
        refine (HR4.out _).mono ?_
        rintro e w4 ⟨rfl, hb4⟩
        refine ⟨rfl, ?_, B3.out.trans (hb4.mono B3.out.size)⟩
        rw [HE.out]; rfl
end Go.Proofs.YtpkgaidnpooahaaGreatDoor
