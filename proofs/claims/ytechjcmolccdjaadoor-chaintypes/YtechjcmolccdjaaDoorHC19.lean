/-
  My own text: two rows with the same versions are the same.
-/
import Derived.Test.YtechjcmolccdjaaDoorHC18
import Derived.Laws.StructEq
namespace Go.Proofs.YtechjcmolccdjaaDoor
open Go.RowKit Go.Shelf

/-- A row of versions. -/
def RV (w : World) (v : Value) (L : List Ver) : Prop := ∃ a cap, v = .slice a L.length cap ∧ ∀ (i : Nat) (p : Ver), L[i]? = some p → ∃ g off, a = some ⟨g, off, none⟩ ∧ w.cell? ⟨g, off + i * 2, none⟩ = some (.int .i64 p.1) ∧ w.cell? ⟨g, off + i * 2 + 1, none⟩ = some (.string ⟨p.2.toArray⟩)
theorem RV.later {w w' : World} {v : Value} {L : List Ver} (h : RV w v L) (hb : Below w.heap.size w w') : RV w' v L := by
  obtain ⟨a, cap, hv, hc⟩ := h
  refine ⟨a, cap, hv, fun i p hp => ?_⟩
  obtain ⟨g, off, e, c1, c2⟩ := hc i p hp
  exact ⟨g, off, e, (hb.cell (World.block_lt_of_cell? _ _ c1)).trans c1, (hb.cell (World.block_lt_of_cell? _ _ c2)).trans c2⟩
theorem OR.rv {w : World} {B : Nat} {t : TypeId} {v : Value} {L : List Ver} (ho : OR w B t 2 v L.length (vc L)) : RV w v L := by
  rcases ho.2 with ⟨rfl, h0⟩ | ⟨g, off, cap, cur, rfl, _, _, _, _, _, h5⟩
  · refine ⟨none, 0, by rw [h0], fun i p hp => ?_⟩
    have := (List.getElem?_eq_some_iff.1 hp).1
    omega
  · refine ⟨_, cap, rfl, fun i p hp => ⟨g, off, rfl, h5 _ _ (vc_at L i p hp).1, ?_⟩⟩
    have := h5 _ _ (vc_at L i p hp).2
    rw [← Nat.add_assoc] at this; exact this
theorem eqV (a : Int) (s : List UInt8) (W : World) : (Op.equalIn 10000 62 (.agg #[.int .i64 a, .string ⟨s.toArray⟩]) (.agg #[.int .i64 a, .string ⟨s.toArray⟩])).run Tryd.prog W = .ok true W := by
  have u3 := Tryd.underlying3
  have u9 := Tryd.underlying9
  have hS : Tryd.prog.underlying 62 = some (.struct (Tryd.prog.fieldsOf 62)) := by kernel_rfl
  have hp : Tryd.prog.stoodInHeld 62 = false := by kernel_rfl
  rw [show (10000 : Nat) = 9999 + 1 from rfl, run_equalIn_agg W 9999 62 _ _ hS hp]
  simp only [Program.fieldsOf, Tryd.underlying62]
  go_simp
set_option maxRecDepth 100000 in
set_option maxHeartbeats 1000000 in
theorem same_any (va vb : Value) (L : List Ver) (w : World) (ha : RV w va L) (hb : RV w vb L) (hl : L.length ≤ 4611686018427387904) :
    Calls Tryd.prog 9 #[va, vb] w fun e w' => e = .returned (.bool true) ∧ Below w.heap.size w w' := by
  obtain ⟨aa, ca, rfl, hca⟩ := ha
  obtain ⟨ab', cb', rfl, hcb⟩ := hb
  have HA := hide hca
  have HB := hide hcb
  have HL := hide hl
  have hg : Tryd.prog.eqGuardType Tryd.prog.depth 62 = false := by kernel_rfl
  clear hca hcb hl
  go_enter Tryd.func9, Tryd.ntmps9
  go_wp2_with fail
  go_loopw [5] (fun i wr => ∃ k : Nat, k ≤ L.length ∧ i = .int .i64 (k : Int) ∧ Hid (Below w.heap.size w wr)) (fun i _ => L.length - (intOf i).toNat)
  case atStart => exact ⟨0, Nat.zero_le _, rfl, hide (Below.refl _ _)⟩
  case round =>
    obtain ⟨k, hk, rfl, HW⟩ := hrel
    by_cases hlt : k < L.length
    · obtain ⟨⟨N, V⟩, hp⟩ : ∃ p, L[k]? = some p := ⟨_, List.getElem?_eq_getElem hlt⟩
      obtain ⟨g, off, rfl, q1, q2⟩ := HA.out k _ hp
      obtain ⟨g', off', rfl, r1, r2⟩ := HB.out k _ hp
      have hd1 : decide ((k : Int) < (L.length : Int)) = true := by rw [decide_eq_true_eq]; omega
      have k0 : (0 : Int) ≤ (k : Int) := by omega
      have k1 : (k : Int) < (L.length : Int) := by omega
      have z1 := (HW.out.cell (World.block_lt_of_cell? _ _ q1)).trans q1
      have z2 := (HW.out.cell (World.block_lt_of_cell? _ _ q2)).trans q2
      have z3 := (HW.out.cell (World.block_lt_of_cell? _ _ r1)).trans r1
      have z4 := (HW.out.cell (World.block_lt_of_cell? _ _ r2)).trans r2
      dsimp only at z1 z2 z3 z4
      have ev := eqV N V
      have wk : wrap64 ((k : Int) + 1) = (k : Int) + 1 := by have := HL.out; unfold wrap64; omega
      clear hp q1 q2 r1 r2
      go_wp2_with fail
      go_quiet (fail)
      have HW2 := hide (below_dq HW.out nq)
      go_wp2_with fail
      go_roundw
      case rel => exact ⟨k + 1, by omega, by go_num, HW2⟩
      case measure => rw [wk]; simp [intOf]; omega
    · have e : k = L.length := by omega
      subst e
      go_wp2_with fail
      go_ret
      exact ⟨rfl, HW.out⟩
end Go.Proofs.YtechjcmolccdjaaDoor
