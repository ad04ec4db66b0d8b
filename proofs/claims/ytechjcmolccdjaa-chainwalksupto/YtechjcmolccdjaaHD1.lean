/-
  My own text: the document's Counts, At, Last over a row of versions.
-/
import Derived.Test.YtechjcmolccdjaaHC20
namespace Go.Proofs.Ytechjcmolccdjaa
open Go.RowKit Go.Shelf

/-- The place of what counts. -/
def bI (m : Nat) : Int := (m : Int) - 1
theorem bI0 : bI 0 = -1 := rfl
theorem bIS (j : Nat) : bI (j + 1) = (j : Int) := by unfold bI; omega
theorem ris_step {L : List Ver} (hr : Ris L) {j : Nat} {p q : Ver} (hp : L[j]? = some p) (hq : L[j + 1]? = some q) : p.1 < q.1 := by
  have a := ab_self L j p hr hp
  exact ab_hi (n := p.1) hr (by omega) hq
set_option maxRecDepth 100000 in
set_option maxHeartbeats 2000000 in
theorem refCounts_any (v : Value) (L : List Ver) (n : Int) (w : World) (hv : RV w v L) (hr : Ris L) (hl : L.length ≤ 4611686018427387904) :
    Calls Try.prog 26 #[v, .int .i64 n] w fun e w' => e = .returned (.int .i64 (bI (ab n L))) ∧ Below w.heap.size w w' := by
  obtain ⟨a, cap, rfl, hc⟩ := hv
  have HC := hide hc
  have HR := hide hr
  have HL := hide hl
  clear hc hr hl
  go_enter Try.func26, Try.ntmps26
  go_wp2_with fail
  go_loopw [5, 6] (fun b i wr => ∃ k : Nat, k ≤ L.length ∧ i = .int .i64 (k : Int) ∧ b = .int .i64 (bI (min k (ab n L))) ∧ Hid (Below w.heap.size w wr)) (fun _ i _ => L.length - (intOf i).toNat)
  case atStart => exact ⟨0, Nat.zero_le _, rfl, by rw [Nat.zero_min]; rfl, hide (Below.refl _ _)⟩
  case round =>
    obtain ⟨k, hk, rfl, rfl, HB⟩ := hrel
    by_cases hlt : k < L.length
    · obtain ⟨⟨N, V⟩, hp⟩ : ∃ p, L[k]? = some p := ⟨_, List.getElem?_eq_getElem hlt⟩
      obtain ⟨g, off, rfl, q1, _⟩ := HC.out k _ hp
      have hd1 : decide ((k : Int) < (L.length : Int)) = true := by rw [decide_eq_true_eq]; omega
      have k0 : (0 : Int) ≤ (k : Int) := by omega
      have k1 : (k : Int) < (L.length : Int) := by omega
      have z1 := (HB.out.cell (World.block_lt_of_cell? _ _ q1)).trans q1
      dsimp only at z1
      have wk : wrap64 ((k : Int) + 1) = (k : Int) + 1 := by have := HL.out; unfold wrap64; omega
      by_cases hlo : k < ab n L
      · have hd2 : decide (N ≤ n) = true := decide_eq_true (ab_lo hlo hp)
        have e1 : min (k + 1) (ab n L) = k + 1 := by omega
        rw [Nat.min_eq_left (Nat.le_of_lt hlo)]
        have HE1 : Hid (Value.int .i64 (k : Int) = .int .i64 (bI (min (k + 1) (ab n L)))) := hide (by rw [e1, bIS])
        cases k with
        | zero =>
          rw [bI0]
          have z1' : wr.cell? ⟨g, off, none⟩ = some (.int .i64 N) := by simpa using z1
          clear e1 hlo hp q1 z1
          go_wp2_with fail
          go_quiet (fail)
          have HB2 := hide (below_dq HB.out nq)
          go_wp2_with fail
          go_roundw
          case rel => exact ⟨1, by omega, by go_num, HE1.out, HB2⟩
          case measure => simp [intOf]; omega
        | succ j =>
          obtain ⟨⟨N', V'⟩, hp'⟩ : ∃ p, L[j]? = some p := ⟨_, List.getElem?_eq_getElem (by omega)⟩
          obtain ⟨_, _, e2, q2, _⟩ := HC.out j _ hp'
          cases e2
          have z2 := (HB.out.cell (World.block_lt_of_cell? _ _ q2)).trans q2
          dsimp only at z2
          have hd3 : decide (N' < N) = true := decide_eq_true (ris_step HR.out hp' hp)
          have hd4 : decide ((j : Int) < 0) = false := decide_eq_false (by omega)
          have j0 : (0 : Int) ≤ (j : Int) := by omega
          have j1 : (j : Int) < (L.length : Int) := by omega
          rw [bIS]
          obtain ⟨k', hk'⟩ : ∃ k', k' = j + 1 := ⟨_, rfl⟩
          rw [← hk'] at z1 hd1 k0 k1 wk HE1 hlt hk ⊢
          clear e1 hlo hp q1 hp' q2 hk'
          go_wp2_with fail
          go_quiet (fail)
          have HB2 := hide (below_dq HB.out nq)
          go_wp2_with fail
          go_roundw
          case rel => exact ⟨k' + 1, by omega, by go_num, HE1.out, HB2⟩
          case measure => rw [wk]; simp [intOf]; omega
      · have hd2 : decide (N ≤ n) = false := decide_eq_false (by have := ab_hi (n := n) HR.out (Nat.le_of_not_lt hlo) hp; omega)
        have e1 : min (k + 1) (ab n L) = min k (ab n L) := by omega
        obtain ⟨b, hb⟩ : ∃ b, b = bI (min k (ab n L)) := ⟨_, rfl⟩
        have HE1 : Hid (Value.int .i64 b = .int .i64 (bI (min (k + 1) (ab n L)))) := hide (by rw [e1, hb])
        rw [← hb]
        clear hlo hp q1 hb e1
        go_wp2_with fail
        go_quiet (fail)
        have HB2 := hide (below_dq HB.out nq)
        go_wp2_with fail
        go_roundw
        case rel => exact ⟨k + 1, by omega, by go_num, HE1.out, HB2⟩
        case measure => rw [wk]; simp [intOf]; omega
    · have e : k = L.length := by omega
      subst e
      rw [Nat.min_eq_right (ab_le n L)]
      go_wp2_with fail
      go_ret
      exact ⟨rfl, HB.out⟩
end Go.Proofs.Ytechjcmolccdjaa
