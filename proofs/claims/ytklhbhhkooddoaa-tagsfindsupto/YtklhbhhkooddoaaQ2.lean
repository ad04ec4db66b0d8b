/-
  My own text: what is wrong with a line of whatever kind; a field's first line.
-/
import Derived.Test.YtklhbhhkooddoaaQ1
import Derived.Deep.RegionWith
namespace Go.Proofs.Ytklhbhhkooddoaa
open Go.RowKit

set_option maxRecDepth 100000 in
set_option maxHeartbeats 1000000 in
theorem firstSet_any (l : List UInt8) (w : World) (hl : l.length ≤ 140737488355328) :
    Calls Try.prog 54 #[.func (Fn.func 61) #[] #[], .string ⟨l.toArray⟩] w fun e w' => e = .returned (.int .i64 (fstNot inS l : Int)) ∧ w' = w := by
  go_enter Try.func54, Try.ntmps54
  go_wp2_with fail
  go_loop [8] (fun i => ∃ k : Nat, k ≤ l.length ∧ i = .int .i64 k ∧ Hid (∀ j, j < k → inS (l.getD j 0) = true)) (fun i => l.length - (intOf i).toNat)
  case atStart => exact ⟨0, Nat.zero_le _, rfl, hide (fun j hj => by omega)⟩
  case round =>
    obtain ⟨k, hk, rfl, HA⟩ := hrel
    by_cases hlt : k < l.length
    · have hs1 : k < (⟨l.toArray⟩ : ByteArray).size := by rw [bytes_size]; exact hlt
      obtain ⟨c, hc, Hc⟩ : ∃ c, (⟨l.toArray⟩ : ByteArray)[k]'hs1 = c ∧ Hid (l.getD k 0 = c) := ⟨_, rfl, by rw [getD_at hlt]; exact hide rfl⟩
      have HS := hide (fun W : World => tIsOfSet_any c W)
      cases hb : inS c
      · have HR := hide (fstNot_at (p := inS) hlt HA.out (by rw [Hc.out]; exact hb))
        have hb' := hb
        rw [hb'] at HS
        go_wp2_with fail
        refine (HS.out _).mono ?_
        rintro e w' ⟨rfl, rfl⟩
        go_wp2_with fail
        go_ret
        exact ⟨ret_i (by rw [HR.out]), rfl⟩
      · have HX : Hid (∀ j, j < k + 1 → inS (l.getD j 0) = true) := hide (fun j hj => by
          by_cases e : j = k
          · subst e; rw [Hc.out]; exact hb
          · exact HA.out j (by omega))
        have hb' := hb
        rw [hb'] at HS
        go_wp2_with fail
        refine (HS.out _).mono ?_
        rintro e w' ⟨rfl, rfl⟩
        go_wp2_with fail
        go_round
        case rel => exact ⟨k + 1, by omega, by go_num, HX⟩
        case measure => simp [intOf]; omega
    · have hk' : k = l.length := by omega
      subst hk'
      have HR := hide (fstNot_all (p := inS) HA.out)
      go_wp2_with fail
      go_ret
      exact ⟨ret_i (by rw [HR.out]), rfl⟩
def chkE (n : Lin) : Option (Int × Int) := if !n.en then some (2, n.tx.length + 1) else if fstNot inS n.tx < n.tx.length then some (6, fstNot inS n.tx + 1) else if n.tx.isEmpty then some (4, 1) else none
/-- The end of a call that gives up, or not. -/
def ends (o : Option (Int × Int)) (n : Int) (v : Value) : Ending := match o with
  | some (no, at_) => gone no n at_
  | none => .returned v
set_option maxRecDepth 100000 in
set_option maxHeartbeats 2000000 in
theorem check_line (n : Lin) (w : World) (hl : n.tx.length ≤ 1048576) :
    Calls Try.prog 48 #[.agg (lnC n)] w fun e w' => e = ends (chkE n) n.no (.tuple #[]) ∧ Below w.heap.size w w' := by
  obtain ⟨no, bg, tx, en⟩ := n
  dsimp only at hl
  have X0 := hide (Lx.new w ⟨no, bg, tx, en⟩)
  have B0 := hide ((Below.refl w.heap.size w).alloc (Nat.le_refl _) (.cells (lnC ⟨no, bg, tx, en⟩) 78))
  have c0 := X0.out.num
  have c1 := X0.out.beg
  have c2 := X0.out.text
  have c3 := X0.out.ends
  dsimp only at c0 c1 c2 c3
  have HFN := hide (fun W : World => firstSet_any tx W (by omega))
  cases en
  · have HE : Hid (chkE ⟨no, bg, tx, false⟩ = some (2, (tx.length : Int) + 1)) := hide rfl
    have HR := hide (fun W : World => refuse_yes ⟨no, bg, tx, false⟩ 2 ((tx.length : Int) + 1) W)
    go_enter Try.func48, Try.ntmps48
    go_wp2_with fail
    refine (HR.out _).mono ?_
    rintro e w1 ⟨rfl, hb1⟩
    refine ⟨rfl, ?_, B0.out.trans (hb1.mono B0.out.size)⟩
    rw [HE.out]; rfl
  · have HR := hide (fun W : World => refuse_no ⟨no, bg, tx, true⟩ 2 ((tx.length : Int) + 1) W)
    have HLE := hide (fstNot_le inS tx)
    obtain ⟨k, Hk⟩ : ∃ k, Hid (fstNot inS tx = k) := ⟨_, hide rfl⟩
    rw [Hk.out] at HFN HLE
    have hkl : k ≤ 1048576 := by have := HLE.out; omega
    go_enter Try.func48, Try.ntmps48
    go_wp2_with fail
    refine (HR.out _).mono ?_
    rintro e w1 ⟨rfl, hb1⟩
    have B1 := hide (B0.out.trans (hb1.mono B0.out.size))
    have X1 := hide (X0.out.later hb1)
    clear hb1 c0 c1 c2 c3
    have c0 := X1.out.num
    have c1 := X1.out.beg
    have c2 := X1.out.text
    have c3 := X1.out.ends
    dsimp only at c0 c1 c2 c3
    go_wp2_with fail
    refine (HFN.out _).mono ?_
    rintro e w2 ⟨rfl, rfl⟩
    by_cases hlt : k < tx.length
    · have HE : Hid (chkE ⟨no, bg, tx, true⟩ = some (6, (k : Int) + 1)) := by
        show _ = _
        unfold chkE
        dsimp only
        rw [Hk.out, if_neg (by decide), if_pos hlt]
      have HR2 := hide (fun W : World => refuse_yes ⟨no, bg, tx, true⟩ 6 ((k : Int) + 1) W)
      have hd : decide ((k : Int) < (tx.length : Int)) = true := decide_eq_true (by omega)
      go_wp2_with fail
      refine (HR2.out _).mono ?_
      rintro e w3 ⟨rfl, hb3⟩
      refine ⟨rfl, ?_, B1.out.trans (hb3.mono B1.out.size)⟩
      rw [HE.out]; rfl
    · have HR2 := hide (fun W : World => refuse_no ⟨no, bg, tx, true⟩ 6 ((k : Int) + 1) W)
      have hd : decide ((k : Int) < (tx.length : Int)) = false := decide_eq_false (by omega)
      go_wp2_with fail
      refine (HR2.out _).mono ?_
      rintro e w3 ⟨rfl, hb3⟩
      have B3 := hide (B1.out.trans (hb3.mono B1.out.size))
      have X3 := hide (X1.out.later hb3)
      clear hb3 c0 c1 c2 c3
      have c0 := X3.out.num
      have c1 := X3.out.beg
      have c2 := X3.out.text
      have c3 := X3.out.ends
      dsimp only at c0 c1 c2 c3
      cases hte : tx.isEmpty
      · have HE : Hid (chkE ⟨no, bg, tx, true⟩ = none) := by
          show _ = _
          unfold chkE
          dsimp only
          rw [Hk.out, if_neg (by decide), if_neg hlt, hte]; rfl
        have hq := str_eq_f hte
        have HR4 := hide (fun W : World => refuse_no ⟨no, bg, tx, true⟩ 4 1 W)
        go_wp2_with fail
        refine (HR4.out _).mono ?_
        rintro e w4 ⟨rfl, hb4⟩
        go_wp2_with fail
        go_end0
        refine ⟨?_, B3.out.trans (hb4.mono B3.out.size)⟩
        rw [HE.out]; rfl
      · have HE : Hid (chkE ⟨no, bg, tx, true⟩ = some (4, 1)) := by
          show _ = _
          unfold chkE
          dsimp only
          rw [Hk.out, if_neg (by decide), if_neg hlt, hte]; rfl
        have hq := str_eq_t hte
        have HR4 := hide (fun W : World => refuse_yes ⟨no, bg, tx, true⟩ 4 1 W)
        go_wp2_with fail
        refine (HR4.out _).mono ?_
        rintro e w4 ⟨rfl, hb4⟩
        refine ⟨rfl, ?_, B3.out.trans (hb4.mono B3.out.size)⟩
        rw [HE.out]; rfl
end Go.Proofs.Ytklhbhhkooddoaa
