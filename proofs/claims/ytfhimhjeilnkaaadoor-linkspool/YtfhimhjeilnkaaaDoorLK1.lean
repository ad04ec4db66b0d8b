/-
  My own text: layer 23: rows of places that are written in place; head.
-/
import Derived.Test.YtfhimhjeilnkaaaDoorLK0
import Derived.Test.YtfhimhjeilnkaaaDoorQIR
import Derived.Test.YtfhimhjeilnkaaaDoorGTR
namespace Go.Proofs.YtfhimhjeilnkaaaDoor
open Go.RowKit

theorem Tryd.infoIn : (Tryd.prog.info? 3).map (fun i => (i.zero, i.size, i.bytes)) = some (some (.int .i64 0), 1, 8) := by kernel_rfl
/-- Block P is a row of these places. -/
def NV (w : World) (P : Nat) (L : List Nat) : Prop := w.rowIs P 3 L.length (fun j => .int .i64 ((L.getD j 0 : Nat) : Int))
theorem NV.cell {w : World} {P : Nat} {L : List Nat} (h : NV w P L) {j x : Nat} (hx : L[j]? = some x) : w.cell? ⟨P, j, none⟩ = some (.int .i64 ((x : Nat) : Int)) := by
  have hj := (List.getElem?_eq_some_iff.1 hx).1
  rw [World.rowIs.cell h hj, List.getD_eq_getElem?_getD, hx]; rfl
theorem NV.frozen {w : World} {P : Nat} {L : List Nat} (h : NV w P L) (j : Nat) : w.frozen? ⟨P, j, none⟩ = false := World.rowIs.frozen h j
theorem NV.lt {w : World} {P : Nat} {L : List Nat} (h : NV w P L) : P < w.heap.size := World.rowIs.lt h
theorem NV.set {w : World} {P : Nat} {L : List Nat} (h : NV w P L) (k x : Nat) : NV (w.setCell ⟨P, k, none⟩ (.int .i64 ((x : Nat) : Int))) P (L.set k x) := by
  have h2 := World.rowIs.set h k (.int .i64 ((x : Nat) : Int))
  unfold NV
  rw [List.length_set]
  refine World.rowIs.congr h2 fun i hi => ?_
  by_cases e : i = k
  · subst e; rw [if_pos rfl, List.getD_eq_getElem?_getD, List.getElem?_set_self hi]; rfl
  · rw [if_neg e, List.getD_eq_getElem?_getD, List.getD_eq_getElem?_getD, List.getElem?_set_ne (fun q => e q.symm)]
theorem NV.block {w w' : World} {P : Nat} {L : List Nat} (h : NV w P L) (e : w'.heap[P]? = w.heap[P]?) : NV w' P L := World.rowIs.of_block h e
theorem NV.later {w w' : World} {P : Nat} {L : List Nat} (h : NV w P L) (hb : Below w.heap.size w w') : NV w' P L := h.block (hb.block P h.lt)
theorem NV.om {w : World} {P B : Nat} {L : List Nat} (h : NV w P L) (hB : B ≤ P) (hl : L.length ≤ maxLen) : IN.OM w B (.slice (some ⟨P, 0, none⟩) L.length L.length) (L.map fun x => ((x : Nat) : Int)) := by
  obtain ⟨c, hb, hs, hc⟩ := h
  refine ⟨by rw [IN.mc_len, List.length_map, Nat.mul_one], .inr ⟨P, L.length, c, by rw [List.length_map], hB, hb, by rw [List.length_map]; exact Nat.le_refl _, hl, by rw [hs, Nat.mul_one], ?_⟩⟩
  rw [List.length_map, Nat.mul_one]
  apply List.ext_getElem?
  intro i
  by_cases hi : i < L.length
  · rw [List.getElem?_take, if_pos hi, Array.getElem?_toList, hc i hi]
    have e : (L.map fun x => ((x : Nat) : Int))[i]? = some ((L.getD i 0 : Nat) : Int) := by
      rw [List.getElem?_map, List.getD_eq_getElem?_getD, List.getElem?_eq_getElem hi]; rfl
    exact (IN.mc_at e).symm
  · rw [List.getElem?_eq_none (by rw [List.length_take]; omega), List.getElem?_eq_none (by rw [IN.mc_len, List.length_map]; omega)]
theorem gb_refl (w : World) (r : Option Nat) : w.grownBy w r := ⟨rfl, rfl, rfl, Nat.le_refl _, fun _ _ _ => rfl⟩
theorem gb_trans {w w1 w2 : World} {r : Option Nat} (h : w.grownBy w1 r) (k : w1.grownBy w2 r) : w.grownBy w2 r :=
  ⟨k.os.trans h.os, k.tape.trans h.tape, k.output.trans h.output, Nat.le_trans h.size k.size, fun b hb hn => (k.block b (Nat.lt_of_lt_of_le hb h.size) hn).trans (h.block b hb hn)⟩
theorem gb_set (w : World) (P k : Nat) (v : Value) : w.grownBy (w.setCell ⟨P, k, none⟩ v) (some P) :=
  ⟨rfl, rfl, rfl, by simp [World.setCell], fun b _ hn => Below.heap_setCell _ _ _ b (fun e => hn (by rw [e]))⟩
theorem nat_ne {a b : Nat} (h : ¬ a = b) : ((a : Int) != (b : Int)) = true := by rw [bne_iff_ne]; omega
theorem nat_eq (a : Nat) : ((a : Int) != (a : Int)) = false := by simp
set_option maxRecDepth 100000 in
set_option maxHeartbeats 1000000 in
theorem head_any (P n cap x : Nat) (R : Nat → Nat) (L : List Nat) (w : World) (hN : NV w P L) (hL : Lead n L R) (hx : x < n) :
    Calls Tryd.prog 31 #[.slice (some ⟨P, 0, none⟩) n cap, .int .i64 (x : Int)] w fun e w' => e = .returned (.int .i64 ((R x : Nat) : Int)) ∧ (∃ L', NV w' P L' ∧ Lead n L' R) ∧ w.grownBy w' (some P) := by
  obtain ⟨r, hr⟩ : ∃ r, Hid (R x = r) := ⟨_, rfl⟩
  rw [hr.out]
  go_enter Tryd.func31, Tryd.ntmps31
  go_wp2_with fail
  go_loopw [1] (fun i wr => ∃ (k : Nat) (L' : List Nat), i = .int .i64 (k : Int) ∧ Hid (k < n ∧ R k = r) ∧ Hid (NV wr P L') ∧ Hid (Lead n L' R) ∧ Hid (w.grownBy wr (some P))) (fun i _ => (intOf i).toNat)
  case atStart => exact ⟨x, L, rfl, hide ⟨hx, hr.out⟩, hide hN, hide hL, hide (gb_refl _ _)⟩
  case round =>
    obtain ⟨k, L', rfl, HK, HN, HL, HG⟩ := hrel
    clear hN hL
    obtain ⟨y, hy, hyk⟩ := HL.out.ex HK.out.1
    have hkn := HK.out.1
    have c1 := HN.out.cell hy
    by_cases e : y = k
    · subst e
      have t := nat_eq y
      have HR := hide ((HL.out.at_ y y hy).2.2 rfl)
      go_wp2_with fail
      go_ret
      exact ⟨ret_i (by have := HK.out.2; rw [HR.out] at this; rw [this]), ⟨L', HN.out, HL.out⟩, HG.out⟩
    · have t := nat_ne e
      obtain ⟨z, hz, hzy⟩ := HL.out.ex (x := y) (by omega)
      have c2 := HN.out.cell hz
      have f0 := HN.out.frozen k
      have HE := hide e
      have HY := hide (And.intro hy hz)
      have y0 : y < n := by omega
      have HZ := hide (And.intro hyk hzy)
      obtain ⟨w1, hw1⟩ : ∃ w1, wr.setCell ⟨P, k, none⟩ (.int .i64 ((z : Nat) : Int)) = w1 := ⟨_, rfl⟩
      have HN1 : Hid (NV w1 P (L'.set k z)) := hide (by rw [← hw1]; exact HN.out.set k z)
      have HG1 : Hid (w.grownBy w1 (some P)) := hide (by rw [← hw1]; exact gb_trans HG.out (gb_set wr P k _))
      have c3 := HN1.out.cell (j := k) (x := z) (List.getElem?_set_self (by rw [HL.out.len]; exact hkn))
      clear e hy hz hyk hzy
      go_wp2_with fail
      go_roundw
      case rel =>
        have h1 := HL.out.at_ k y HY.out.1
        have h2 := HL.out.at_ y z HY.out.2
        exact ⟨z, L'.set k z, rfl, hide ⟨by have := HZ.out; omega, by rw [h2.2.1, h1.2.1]; exact HK.out.2⟩, HN1, hide (HL.out.halve HY.out.1 HY.out.2), HG1⟩
      case measure => have := HZ.out; have := HE.out; simp [intOf]; omega
end Go.Proofs.YtfhimhjeilnkaaaDoor
