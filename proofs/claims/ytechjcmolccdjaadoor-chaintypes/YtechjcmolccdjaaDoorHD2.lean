/-
  My own text: HD1, HD2 in one.
-/
import Derived.Test.YtechjcmolccdjaaDoorHC20
namespace Go.Proofs.YtechjcmolccdjaaDoor
open Go.RowKit Go.Shelf

/-- The place of what counts. -/
def bI (m : Nat) : Int := (m : Int) - 1
theorem bI0 : bI 0 = -1 := rfl
theorem bIS (j : Nat) : bI (j + 1) = (j : Int) := by unfold bI; omega
theorem ris_step {L : List Ver} (hr : Ris L) {j : Nat} {p q : Ver} (hp : L[j]? = some p) (hq : L[j + 1]? = some q) : p.1 < q.1 := by
  have a := ab_self L j p hr hp
  exact ab_hi (n := p.1) hr (by omega) hq
set_option maxRecDepth 100000 in
set_option maxHeartbeats 2000000 in
theorem refCounts_any (v : Value) (L : List Ver) (n : Int) (w : World) (hv : RV w v L) (hr : Ris L) (hl : L.length ≤ 4611686018427387904) :
    Calls Tryd.prog 37 #[v, .int .i64 n] w fun e w' => e = .returned (.int .i64 (bI (ab n L))) ∧ Below w.heap.size w w' := by
  obtain ⟨a, cap, rfl, hc⟩ := hv
  have HC := hide hc
  have HR := hide hr
  have HL := hide hl
  clear hc hr hl
  go_enter Tryd.func37, Tryd.ntmps37
  go_wp2_with fail
  go_loopw [5, 6] (fun b i wr => ∃ k : Nat, k ≤ L.length ∧ i = .int .i64 (k : Int) ∧ b = .int .i64 (bI (min k (ab n L))) ∧ Hid (Below w.heap.size w wr)) (fun _ i _ => L.length - (intOf i).toNat)
  case atStart => exact ⟨0, Nat.zero_le _, rfl, by rw [Nat.zero_min]; rfl, hide (Below.refl _ _)⟩
  case round =>
    obtain ⟨k, hk, rfl, rfl, HB⟩ := hrel
    by_cases hlt : k < L.length
    · obtain ⟨⟨N, V⟩, hp⟩ : ∃ p, L[k]? = some p := ⟨_, List.getElem?_eq_getElem hlt⟩
      obtain ⟨g, off, rfl, q1, _⟩ := HC.out k _ hp
      have hd1 : decide ((k : Int) < (L.length : Int)) = true := by rw [decide_eq_true_eq]; omega
      have k0 : (0 : Int) ≤ (k : Int) := by omega
      have k1 : (k : Int) < (L.length : Int) := by omega
      have z1 := (HB.out.cell (World.block_lt_of_cell? _ _ q1)).trans q1
      dsimp only at z1
      have wk : wrap64 ((k : Int) + 1) = (k : Int) + 1 := by have := HL.out; unfold wrap64; omega
      by_cases hlo : k < ab n L
      · have hd2 : decide (N ≤ n) = true := decide_eq_true (ab_lo hlo hp)
        have e1 : min (k + 1) (ab n L) = k + 1 := by omega
        rw [Nat.min_eq_left (Nat.le_of_lt hlo)]
        have HE1 : Hid (Value.int .i64 (k : Int) = .int .i64 (bI (min (k + 1) (ab n L)))) := hide (by rw [e1, bIS])
        cases k with
        | zero =>
          rw [bI0]
          have z1' : wr.cell? ⟨g, off, none⟩ = some (.int .i64 N) := by simpa using z1
          clear e1 hlo hp q1 z1
          go_wp2_with fail
          go_quiet (fail)
          have HB2 := hide (below_dq HB.out nq)
          go_wp2_with fail
          go_roundw
          case rel => exact ⟨1, by omega, by go_num, HE1.out, HB2⟩
          case measure => simp [intOf]; omega
        | succ j =>
          obtain ⟨⟨N', V'⟩, hp'⟩ : ∃ p, L[j]? = some p := ⟨_, List.getElem?_eq_getElem (by omega)⟩
          obtain ⟨_, _, e2, q2, _⟩ := HC.out j _ hp'
          cases e2
          have z2 := (HB.out.cell (World.block_lt_of_cell? _ _ q2)).trans q2
          dsimp only at z2
          have hd3 : decide (N' < N) = true := decide_eq_true (ris_step HR.out hp' hp)
          have hd4 : decide ((j : Int) < 0) = false := decide_eq_false (by omega)
          have j0 : (0 : Int) ≤ (j : Int) := by omega
          have j1 : (j : Int) < (L.length : Int) := by omega
          rw [bIS]
          obtain ⟨k', hk'⟩ : ∃ k', k' = j + 1 := ⟨_, rfl⟩
          rw [← hk'] at z1 hd1 k0 k1 wk HE1 hlt hk ⊢
          clear e1 hlo hp q1 hp' q2 hk'
          go_wp2_with fail
          go_quiet (fail)
          have HB2 := hide (below_dq HB.out nq)
          go_wp2_with fail
          go_roundw
          case rel => exact ⟨k' + 1, by omega, by go_num, HE1.out, HB2⟩
          case measure => rw [wk]; simp [intOf]; omega
      · have hd2 : decide (N ≤ n) = false := decide_eq_false (by have := ab_hi (n := n) HR.out (Nat.le_of_not_lt hlo) hp; omega)
        have e1 : min (k + 1) (ab n L) = min k (ab n L) := by omega
        obtain ⟨b, hb⟩ : ∃ b, b = bI (min k (ab n L)) := ⟨_, rfl⟩
        have HE1 : Hid (Value.int .i64 b = .int .i64 (bI (min (k + 1) (ab n L)))) := hide (by rw [e1, hb])
        rw [← hb]
        clear hlo hp q1 hb e1
        go_wp2_with fail
        go_quiet (fail)
        have HB2 := hide (below_dq HB.out nq)
        go_wp2_with fail
        go_roundw
        case rel => exact ⟨k + 1, by omega, by go_num, HE1.out, HB2⟩
        case measure => rw [wk]; simp [intOf]; omega
    · have e : k = L.length := by omega
      subst e
      rw [Nat.min_eq_right (ab_le n L)]
      go_wp2_with fail
      go_ret
      exact ⟨rfl, HB.out⟩
set_option maxRecDepth 100000 in
set_option maxHeartbeats 1000000 in
theorem refAt_any (v : Value) (L : List Ver) (q : Int) (w : World) (hv : RV w v L) (hr : Ris L) (hl : L.length ≤ 4611686018427387904) :
    Calls Tryd.prog 29 #[v, .int .i64 q] w fun e w' => e = .returned (.tuple #[.string ⟨(atS q L).toArray⟩, .bool (atB q L)]) ∧ Below w.heap.size w w' := by
  have HK := hide (refCounts_any v L q w hv hr hl)
  obtain ⟨a, cap, rfl, hc⟩ := hv
  by_cases h0 : ab q L = 0
  · have e1 : atS q L = [] := by unfold atS; rw [if_pos h0]
    have e2 : atB q L = false := by unfold atB; rw [h0]; rfl
    rw [e1, e2]
    rw [h0, bI0] at HK
    clear e1 e2 h0 hc hr hl
    go_enter Tryd.func29, Tryd.ntmps29
    go_wp2_with fail
    refine HK.out.mono ?_
    rintro e w2 ⟨rfl, hb⟩
    have B2 := hide hb
    clear hb
    go_wp2_with fail
    go_ret2
    exact ⟨rfl, B2.out⟩
  · obtain ⟨k, hk⟩ : ∃ k, ab q L = k + 1 := ⟨ab q L - 1, by omega⟩
    have hlt : k < L.length := by have := ab_le q L; omega
    obtain ⟨⟨N, V⟩, hp⟩ : ∃ p, L[k]? = some p := ⟨_, List.getElem?_eq_getElem hlt⟩
    have e1 : atS q L = V := by unfold atS; rw [if_neg h0, hk, Nat.add_sub_cancel, hp]
    have e2 : atB q L = true := by unfold atB; rw [hk]; simp
    rw [e1, e2]
    rw [hk, bIS] at HK
    obtain ⟨g, off, rfl, _, q2⟩ := hc k _ hp
    dsimp only at q2
    have HQ2 := hide q2
    have k0 : (0 : Int) ≤ (k : Int) := by omega
    have k1 : (k : Int) < (L.length : Int) := by omega
    have d1 : decide ((k : Int) < 0) = false := decide_eq_false (by omega)
    clear e1 e2 h0 hc hr hl hp hk q2 hlt
    go_enter Tryd.func29, Tryd.ntmps29
    go_wp2_with fail
    refine HK.out.mono ?_
    rintro e w2 ⟨rfl, hb⟩
    have z2 := (hb.cell (World.block_lt_of_cell? _ _ HQ2.out)).trans HQ2.out
    have B2 := hide hb
    clear hb
    go_wp2_with fail
    go_ret2
    exact ⟨rfl, B2.out⟩
end Go.Proofs.YtechjcmolccdjaaDoor
namespace Go.Proofs.YtechjcmolccdjaaDoor
open Go.RowKit Go.Shelf

/-- One version more in a row of one's own. -/
theorem row_push {w wr W3 w4 : World} {o : Value} {k : Nat} {K : List Ver} {p : Ver} (hB : Below w.heap.size w wr) (hO : OR wr w.heap.size 62 2 o k (vc K)) (hW3 : wr.alloc (.cells #[.int .i64 p.1, .string ⟨p.2.toArray⟩] 62) = W3)
    (r2 : W3.grownBy w4 o.ownBlock) : Below w.heap.size w w4 := by
  have hb3 : Below wr.heap.size wr W3 := by rw [← hW3]; exact (Below.refl _ _).alloc (Nat.le_refl _) _
  have l3 := hB.trans (hb3.mono hB.size)
  refine ⟨r2.os.trans l3.os, r2.tape.trans l3.tape, r2.output.trans l3.output, Nat.le_trans l3.size r2.size, fun j hj => (r2.block j (Nat.lt_of_lt_of_le hj l3.size) (fun e => ?_)).trans (l3.block j hj)⟩
  have := ((hO.later hb3).lt e.symm).1
  omega
theorem vc_snoc (K : List Ver) (p : Ver) : vc K ++ [.int .i64 p.1, .string ⟨p.2.toArray⟩] = vc (K ++ [p]) := by rw [vc_app]; rfl
set_option maxRecDepth 100000 in
set_option maxHeartbeats 2000000 in
theorem copy_any (v : Value) (L : List Ver) (w : World) (hv : RV w v L) (hl : L.length ≤ 5864062014804) :
    Calls Tryd.prog 32 #[v] w fun e w' => ∃ v', e = .returned v' ∧ OR w' w.heap.size 62 2 v' L.length (vc L) ∧ Below w.heap.size w w' := by
  obtain ⟨a, cap, rfl, hc⟩ := hv
  obtain ⟨i0, hi, hiz⟩ := Option.map_eq_some_iff.1 Tryd.infoVersion
  simp only [Prod.mk.injEq] at hiz
  obtain ⟨hz0, hz1, hz2⟩ := hiz
  have HI := hide (And.intro hi (And.intro hz0 (And.intro hz1 hz2)))
  have HC := hide hc
  have HL := hide hl
  clear hc hl hi hz0 hz1 hz2
  go_enter Tryd.func32, Tryd.ntmps32
  go_wp2_with fail
  go_loopw [3, 4] (fun o i wr => ∃ (k : Nat) (x : Value), k ≤ L.length ∧ i = .int .i64 (k : Int) ∧ o = x ∧ Hid (OR wr w.heap.size 62 2 x k (vc (L.take k))) ∧ Hid (Below w.heap.size w wr)) (fun _ i _ => L.length - (intOf i).toNat)
  case atStart => exact ⟨0, _, Nat.zero_le _, rfl, rfl, hide (by rw [List.take_zero]; exact OR.nil _ _ _ _), hide (Below.refl _ _)⟩
  case round =>
    obtain ⟨k, o, hk, rfl, ho, HO, HB⟩ := hrel
    have ho' := ho.symm
    clear ho
    subst ho'
    by_cases hlt : k < L.length
    · obtain ⟨⟨N, V⟩, hp⟩ : ∃ p, L[k]? = some p := ⟨_, List.getElem?_eq_getElem hlt⟩
      obtain ⟨g, off, rfl, q1, q2⟩ := HC.out k _ hp
      have hd1 : decide ((k : Int) < (L.length : Int)) = true := by rw [decide_eq_true_eq]; omega
      have k0 : (0 : Int) ≤ (k : Int) := by omega
      have k1 : (k : Int) < (L.length : Int) := by omega
      have z1 := (HB.out.cell (World.block_lt_of_cell? _ _ q1)).trans q1
      have z2 := (HB.out.cell (World.block_lt_of_cell? _ _ q2)).trans q2
      dsimp only at z1 z2
      have wk : wrap64 ((k : Int) + 1) = (k : Int) + 1 := by have := HL.out; unfold wrap64; omega
      have HT : Hid (L.take (k + 1) = L.take k ++ [(N, V)]) := hide (by rw [List.take_add_one, hp]; rfl)
      obtain ⟨W3, hW3⟩ : ∃ W3, wr.alloc (.cells #[.int .i64 N, .string ⟨V.toArray⟩] 62) = W3 := ⟨_, rfl⟩
      have HW3 := hide hW3
      have HO3 : Hid (OR W3 w.heap.size 62 2 o k (vc (L.take k))) := hide (by rw [← hW3]; exact HO.out.later ((Below.refl _ _).alloc (Nat.le_refl _) _))
      have HN3 : Hid (∀ j u, ([.int .i64 N, .string ⟨V.toArray⟩] : List Value)[j]? = some u → W3.cell? ((⟨wr.heap.size, 0, none⟩ : Addr).add j) = some u) := hide (fun j u hj => by
        rw [← hW3, Addr.add_lit, cell_of_row _ wr.heap.size _ _ _ _ (alloc_newV wr _)]
        match j, hj with
        | 0, hj => cases hj; rfl
        | 1, hj => cases hj; rfl)
      have HZ3 : Hid (w.heap.size ≤ W3.heap.size) := hide (by rw [← hW3]; have := HB.out.size; simp; omega)
      clear hp q1 q2
      go_wp2_with (at_builtin; refine wp_append_or W3 w.heap.size 26 62 i0 _ 2 24 rfl _ _ rfl Tryd.underlying26 HI.out.1 HI.out.2.1 HI.out.2.2.1 HI.out.2.2.2 rfl (by decide) o k (vc (L.take k)) rfl HO3.out ⟨wr.heap.size, 0, none⟩ 1 [.int .i64 N, .string ⟨V.toArray⟩] rfl rfl HN3.out (by intro u hu; simp at hu; rcases hu with rfl | rfl <;> rfl) (by have := HL.out; unfold maxLen; omega) (by have := HL.out; omega) HZ3.out ?_)
      intro v' w4 r1 r2 _
      have HO4 : Hid (OR w4 w.heap.size 62 2 v' (k + 1) (vc (L.take (k + 1)))) := hide (by rw [HT.out, ← vc_snoc]; exact r1)
      have HB4 := hide (row_push (p := (N, V)) HB.out HO.out HW3.out r2)
      clear r1 r2 hW3 HW3 z1 z2
      go_wp2_with fail
      go_roundw
      case rel => exact ⟨k + 1, _, by omega, by go_num, rfl, HO4, HB4⟩
      case measure => rw [wk]; simp [intOf]; omega
    · have e : k = L.length := by omega
      subst e
      go_wp2_with fail
      go_ret
      exact ⟨_, rfl, by have := HO.out; rw [List.take_length] at this; exact this, HB.out⟩
end Go.Proofs.YtechjcmolccdjaaDoor
