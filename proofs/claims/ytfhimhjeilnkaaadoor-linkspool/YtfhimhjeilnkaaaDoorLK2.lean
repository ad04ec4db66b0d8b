/-
  My own text: layer 23: names, checkCount, checkPairs, groups, Groups.
-/
import Derived.Test.YtfhimhjeilnkaaaDoorLK1
import Derived.Test.YtfhimhjeilnkaaaDoorErrV
namespace Go.Proofs.YtfhimhjeilnkaaaDoor
open Go.RowKit

/-- Does a pair name things? -/
def namB (n : Int) (p : Int × Int) : Bool := decide (0 ≤ min p.1 p.2) && decide (max p.1 p.2 < n)
theorem namB_iff {n : Int} {p : Int × Int} : namB n p = true ↔ (0 ≤ p.1 ∧ 0 ≤ p.2) ∧ (p.1 < n ∧ p.2 < n) := by
  unfold namB
  rw [Bool.and_eq_true, decide_eq_true_eq, decide_eq_true_eq]
  omega
set_option maxRecDepth 100000 in
theorem names_any (n a b : Int) (w : World) :
    Calls Tryd.prog 30 #[.int .i64 n, .agg #[.int .i64 a, .int .i64 b]] w fun e w' => e = .returned (.bool (namB n (a, b))) ∧ Below w.heap.size w w' := by
  have B0 := hide ((Below.refl w.heap.size w).alloc (Nat.le_refl _) (.cells #[.int .i64 a, .int .i64 b] 38))
  have N1 := alloc_new w (.cells #[.int .i64 a, .int .i64 b] 38)
  obtain ⟨d0, d1⟩ := TW.cellsA N1 rfl
  clear N1
  have HB : ∀ r : Bool, (r = true ↔ (0 ≤ a ∧ 0 ≤ b) ∧ (a < n ∧ b < n)) → namB n (a, b) = r := fun r hr => by
    rw [Bool.eq_iff_iff, namB_iff, hr]
  have HB := hide HB
  go_enter Tryd.func30, Tryd.ntmps30
  by_cases h0 : a < b
  · have g0 : ¬ b < a := by omega
    by_cases h1 : 0 ≤ a
    · by_cases h2 : b < n
      · go_wp2_with fail
        go_ret
        exact ⟨by first | exact ret_b (HB.out true (by constructor <;> intro _ <;> first | rfl | omega)).symm | rfl, B0.out⟩
      · go_wp2_with fail
        go_ret
        exact ⟨by first | exact ret_b (HB.out false (by constructor <;> intro _ <;> first | (exfalso; omega) | (rename_i q; cases q))).symm | rfl, B0.out⟩
    · go_wp2_with fail
      go_ret
      exact ⟨by first | exact ret_b (HB.out false (by constructor <;> intro _ <;> first | (exfalso; omega) | (rename_i q; cases q))).symm | rfl, B0.out⟩
  · by_cases g0 : b < a
    · by_cases h1 : 0 ≤ b
      · by_cases h2 : a < n
        · go_wp2_with fail
          go_ret
          exact ⟨by first | exact ret_b (HB.out true (by constructor <;> intro _ <;> first | rfl | omega)).symm | rfl, B0.out⟩
        · go_wp2_with fail
          go_ret
          exact ⟨by first | exact ret_b (HB.out false (by constructor <;> intro _ <;> first | (exfalso; omega) | (rename_i q; cases q))).symm | rfl, B0.out⟩
      · go_wp2_with fail
        go_ret
        exact ⟨by first | exact ret_b (HB.out false (by constructor <;> intro _ <;> first | (exfalso; omega) | (rename_i q; cases q))).symm | rfl, B0.out⟩
    · have e : a = b := by omega
      subst e
      by_cases h1 : 0 ≤ a
      · by_cases h2 : a < n
        · go_wp2_with fail
          go_ret
          exact ⟨by first | exact ret_b (HB.out true (by constructor <;> intro _ <;> first | rfl | omega)).symm | rfl, B0.out⟩
        · go_wp2_with fail
          go_ret
          exact ⟨by first | exact ret_b (HB.out false (by constructor <;> intro _ <;> first | (exfalso; omega) | (rename_i q; cases q))).symm | rfl, B0.out⟩
      · go_wp2_with fail
        go_ret
        exact ⟨by first | exact ret_b (HB.out false (by constructor <;> intro _ <;> first | (exfalso; omega) | (rename_i q; cases q))).symm | rfl, B0.out⟩
/-- A number of things. -/
def cntE (n : Int) : Int := if n < 0 then 1 else if n > 4096 then 5 else 0
theorem checkCount_any (n : Int) (w : World) :
    Calls Tryd.prog 20 #[.int .i64 n] w fun e w' => e = .returned (errV (cntE n)) ∧ w' = w := by
  by_cases h : n < 0
  · rw [show cntE n = 1 from if_pos h, errV_pos (by omega)]
    go_enter Tryd.func20, Tryd.ntmps20
    go_wp2_with fail
    go_ret
    exact ⟨rfl, rfl⟩
  · by_cases h2 : n > 4096
    · rw [show cntE n = 5 by unfold cntE; rw [if_neg h, if_pos h2], errV_pos (by omega)]
      go_enter Tryd.func20, Tryd.ntmps20
      go_wp2_with fail
      go_ret
      exact ⟨rfl, rfl⟩
    · rw [show cntE n = 0 by unfold cntE; rw [if_neg h, if_neg h2], errV_zero]
      go_enter Tryd.func20, Tryd.ntmps20
      go_wp2_with fail
      go_ret
      exact ⟨rfl, rfl⟩
/-- A fault's value, its line 0. -/
def ltV (no k : Int) : Value := .iface 48 (.agg #[.int .i64 no, .int .i64 0, .int .i64 k])
/-- The first pair that names no things. -/
def lostP (n : Int) (L : List (Int × Int)) : Option Nat := L.findIdx? fun p => !namB n p
def lostV (n : Int) (L : List (Int × Int)) : Value := match lostP n L with | none => .nilIface | some k => ltV 10 k
theorem lost_none {n : Int} {L : List (Int × Int)} (h : ∀ (j : Nat) (p : Int × Int), L[j]? = some p → namB n p = true) : lostP n L = none := by
  unfold lostP
  rw [List.findIdx?_eq_none_iff]
  intro p hp
  obtain ⟨j, hj⟩ := List.getElem?_of_mem hp
  rw [h j p hj]; rfl
theorem lost_some {n : Int} {L : List (Int × Int)} {k : Nat} {p : Int × Int} (h : ∀ (j : Nat) (p : Int × Int), j < k → L[j]? = some p → namB n p = true) (hp : L[k]? = some p) (hk : namB n p = false) : lostP n L = some k := by
  unfold lostP
  rw [List.findIdx?_eq_some_iff_getElem]
  obtain ⟨hlt, e⟩ := List.getElem?_eq_some_iff.1 hp
  refine ⟨hlt, by rw [e, hk]; rfl, fun j hj => ?_⟩
  rw [h j _ hj (List.getElem?_eq_getElem (by omega))]; simp
set_option maxRecDepth 100000 in
set_option maxHeartbeats 1000000 in
theorem checkPairs_any (n : Int) (v : Value) (L : List (Int × Int)) (w : World) (hv : TW.RM w v L) (hl : L.length ≤ 8796093022200) :
    Calls Tryd.prog 21 #[.int .i64 n, v] w fun e w' => e = .returned (lostV n L) ∧ Below w.heap.size w w' := by
  obtain ⟨a, cap, rfl, _, hr⟩ := hv
  have HR := hide hr
  have HL := hide hl
  have HNA := hide (fun x y W => names_any n x y W)
  clear hr hl
  go_enter Tryd.func21, Tryd.ntmps21
  go_wp2_with fail
  go_loopw [8] (fun i wr => ∃ k : Nat, k ≤ L.length ∧ i = .int .i64 (k : Int) ∧ Hid (∀ (j : Nat) (p : Int × Int), j < k → L[j]? = some p → namB n p = true) ∧ Hid (Below w.heap.size w wr)) (fun i _ => L.length - (intOf i).toNat)
  case atStart => exact ⟨0, Nat.zero_le _, rfl, hide (fun j p hj => by omega), hide (Below.refl _ _)⟩
  case round =>
    obtain ⟨k, hk, rfl, HI, HW⟩ := hrel
    by_cases hlt : k < L.length
    · obtain ⟨⟨q0, q1⟩, hp⟩ : ∃ p, L[k]? = some p := ⟨_, List.getElem?_eq_getElem hlt⟩
      obtain ⟨b, off, rfl, hgl, hc⟩ := HR.out.resolve_left (fun h => by rw [h] at hlt; simp at hlt)
      have z0 : wr.cell? ⟨b, off + k * 2, none⟩ = some (.int .i64 q0) := (HW.out.cell (p := ⟨b, _, none⟩) hgl).trans (hc k _ hp).1
      have z1 : wr.cell? ⟨b, off + k * 2 + 1, none⟩ = some (.int .i64 q1) := (HW.out.cell (p := ⟨b, _, none⟩) hgl).trans (hc k _ hp).2
      have z1' : wr.cell? ⟨b, off + (k * 2 + 1), none⟩ = some (.int .i64 q1) := z1
      have hd1 : decide ((k : Int) < (L.length : Int)) = true := by rw [decide_eq_true_eq]; omega
      have k0 : (0 : Int) ≤ (k : Int) := by omega
      have k1 : (k : Int) < (L.length : Int) := by omega
      have wk : wrap64 ((k : Int) + 1) = (k : Int) + 1 := by have := HL.out; unfold wrap64; omega
      have HP := hide hp
      clear hp hc
      cases hE : namB n (q0, q1) with
      | true =>
        have HX := hide (fun W => HNA.out q0 q1 W)
        rw [hE] at HX
        go_wp2_with fail
        refine (HX.out _).mono ?_
        rintro e w1 ⟨rfl, hb⟩
        have HW2 := hide (HW.out.trans (hb.mono HW.out.size))
        clear hb
        go_wp2_with fail
        go_roundw
        case rel =>
          refine ⟨k + 1, by omega, by go_num, hide (fun j p hj hp => ?_), HW2⟩
          by_cases e : j = k
          · subst e; rw [HP.out] at hp; cases hp; exact hE
          · exact HI.out j p (by omega) hp
        case measure => first | (rw [wk]; simp [intOf]; omega) | (simp [intOf]; omega)
      | false =>
        have HX := hide (fun W => HNA.out q0 q1 W)
        rw [hE] at HX
        have HF : Hid (lostV n L = ltV 10 (k : Int)) := hide (by unfold lostV; rw [lost_some HI.out HP.out hE])
        go_wp2_with fail
        refine (HX.out _).mono ?_
        rintro e w1 ⟨rfl, hb⟩
        have HW2 := hide (HW.out.trans (hb.mono HW.out.size))
        clear hb
        go_wp2_with fail
        go_ret
        exact ⟨by rw [HF.out]; rfl, HW2.out⟩
    · have e : k = L.length := by omega
      subst e
      have HF : Hid (lostV n L = .nilIface) := hide (by unfold lostV; rw [lost_none (fun j p hp => HI.out j p (List.getElem?_eq_some_iff.1 hp).1 hp)])
      go_wp2_with fail
      go_ret
      exact ⟨by rw [HF.out]; rfl, HW.out⟩
end Go.Proofs.YtfhimhjeilnkaaaDoor
