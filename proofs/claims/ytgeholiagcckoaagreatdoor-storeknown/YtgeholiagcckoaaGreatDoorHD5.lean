/-
  My own text: HD1, HD2, HD3, HD4, HD5 in one.
-/
import Derived.Test.YtgeholiagcckoaaGreatDoorHC20
namespace Go.Proofs.YtgeholiagcckoaaGreatDoor
open Go.RowKit Go.Shelf

/-- The place of what counts. -/
def bI (m : Nat) : Int := (m : Int) - 1
theorem bI0 : bI 0 = -1 := rfl
theorem bIS (j : Nat) : bI (j + 1) = (j : Int) := by unfold bI; omega
theorem ris_step {L : List Ver} (hr : Ris L) {j : Nat} {p q : Ver} (hp : L[j]? = some p) (hq : L[j + 1]? = some q) : p.1 < q.1 := by
  have a := ab_self L j p hr hp
  exact ab_hi (n := p.1) hr (by omega) hq
set_option maxRecDepth 100000 in
set_option maxHeartbeats 2000000 in
theorem refCounts_any (v : Value) (L : List Ver) (n : Int) (w : World) (hv : RV w v L) (hr : Ris L) (hl : L.length ≤ 4611686018427387904) :
    Calls Tryz.prog 115 #[v, .int .i64 n] w fun e w' => e = .returned (.int .i64 (bI (ab n L))) ∧ Below w.heap.size w w' := by
  obtain ⟨a, cap, rfl, hc⟩ := hv
  have HC := hide hc
  have HR := hide hr
  have HL := hide hl
  clear hc hr hl
  go_enter Tryz.func115, Tryz.ntmps115
  go_wp2_with fail
  go_loopw [5, 6] (fun b i wr => ∃ k : Nat, k ≤ L.length ∧ i = .int .i64 (k : Int) ∧ b = .int .i64 (bI (min k (ab n L))) ∧ Hid (Below w.heap.size w wr)) (fun _ i _ => L.length - (intOf i).toNat)
  case atStart => exact ⟨0, Nat.zero_le _, rfl, by rw [Nat.zero_min]; rfl, hide (Below.refl _ _)⟩
  case round =>
    obtain ⟨k, hk, rfl, rfl, HB⟩ := hrel
    by_cases hlt : k < L.length
    · obtain ⟨⟨N, V⟩, hp⟩ : ∃ p, L[k]? = some p := ⟨_, List.getElem?_eq_getElem hlt⟩
      obtain ⟨g, off, rfl, q1, _⟩ := HC.out k _ hp
      have hd1 : decide ((k : Int) < (L.length : Int)) = true := by rw [decide_eq_true_eq]; omega
      have k0 : (0 : Int) ≤ (k : Int) := by omega
      have k1 : (k : Int) < (L.length : Int) := by omega
      have z1 := (HB.out.cell (World.block_lt_of_cell? _ _ q1)).trans q1
      dsimp only at z1
      have wk : wrap64 ((k : Int) + 1) = (k : Int) + 1 := by have := HL.out; unfold wrap64; omega
      by_cases hlo : k < ab n L
      · have hd2 : decide (N ≤ n) = true := decide_eq_true (ab_lo hlo hp)
        have e1 : min (k + 1) (ab n L) = k + 1 := by omega
        rw [Nat.min_eq_left (Nat.le_of_lt hlo)]
        have HE1 : Hid (Value.int .i64 (k : Int) = .int .i64 (bI (min (k + 1) (ab n L)))) := hide (by rw [e1, bIS])
        cases k with
        | zero =>
          rw [bI0]
          have z1' : wr.cell? ⟨g, off, none⟩ = some (.int .i64 N) := by simpa using z1
          clear e1 hlo hp q1 z1
          go_wp2_with fail
          go_quiet (fail)
          have HB2 := hide (below_dq HB.out nq)
          go_wp2_with fail
          go_roundw
          case rel => exact ⟨1, by omega, by go_num, HE1.out, HB2⟩
          case measure => simp [intOf]; omega
        | succ j =>
          obtain ⟨⟨N', V'⟩, hp'⟩ : ∃ p, L[j]? = some p := ⟨_, List.getElem?_eq_getElem (by omega)⟩
          obtain ⟨_, _, e2, q2, _⟩ := HC.out j _ hp'
          cases e2
          have z2 := (HB.out.cell (World.block_lt_of_cell? _ _ q2)).trans q2
          dsimp only at z2
          have hd3 : decide (N' < N) = true := decide_eq_true (ris_step HR.out hp' hp)
          have hd4 : decide ((j : Int) < 0) = false := decide_eq_false (by omega)
          have j0 : (0 : Int) ≤ (j : Int) := by omega
          have j1 : (j : Int) < (L.length : Int) := by omega
          rw [bIS]
          obtain ⟨k', hk'⟩ : ∃ k', k' = j + 1 := ⟨_, rfl⟩
          rw [← hk'] at z1 hd1 k0 k1 wk HE1 hlt hk ⊢
          clear e1 hlo hp q1 hp' q2 hk'
          go_wp2_with fail
          go_quiet (fail)
          have HB2 := hide (below_dq HB.out nq)
          go_wp2_with fail
          go_roundw
          case rel => exact ⟨k' + 1, by omega, by go_num, HE1.out, HB2⟩
          case measure => rw [wk]; simp [intOf]; omega
      · have hd2 : decide (N ≤ n) = false := decide_eq_false (by have := ab_hi (n := n) HR.out (Nat.le_of_not_lt hlo) hp; omega)
        have e1 : min (k + 1) (ab n L) = min k (ab n L) := by omega
        obtain ⟨b, hb⟩ : ∃ b, b = bI (min k (ab n L)) := ⟨_, rfl⟩
        have HE1 : Hid (Value.int .i64 b = .int .i64 (bI (min (k + 1) (ab n L)))) := hide (by rw [e1, hb])
        rw [← hb]
        clear hlo hp q1 hb e1
        go_wp2_with fail
        go_quiet (fail)
        have HB2 := hide (below_dq HB.out nq)
        go_wp2_with fail
        go_roundw
        case rel => exact ⟨k + 1, by omega, by go_num, HE1.out, HB2⟩
        case measure => rw [wk]; simp [intOf]; omega
    · have e : k = L.length := by omega
      subst e
      rw [Nat.min_eq_right (ab_le n L)]
      go_wp2_with fail
      go_ret
      exact ⟨rfl, HB.out⟩
set_option maxRecDepth 100000 in
set_option maxHeartbeats 1000000 in
theorem refAt_any (v : Value) (L : List Ver) (q : Int) (w : World) (hv : RV w v L) (hr : Ris L) (hl : L.length ≤ 4611686018427387904) :
    Calls Tryz.prog 102 #[v, .int .i64 q] w fun e w' => e = .returned (.tuple #[.string ⟨(atS q L).toArray⟩, .bool (atB q L)]) ∧ Below w.heap.size w w' := by
  have HK := hide (refCounts_any v L q w hv hr hl)
  obtain ⟨a, cap, rfl, hc⟩ := hv
  by_cases h0 : ab q L = 0
  · have e1 : atS q L = [] := by unfold atS; rw [if_pos h0]
    have e2 : atB q L = false := by unfold atB; rw [h0]; rfl
    rw [e1, e2]
    rw [h0, bI0] at HK
    clear e1 e2 h0 hc hr hl
    go_enter Tryz.func102, Tryz.ntmps102
    go_wp2_with fail
    refine HK.out.mono ?_
    rintro e w2 ⟨rfl, hb⟩
    have B2 := hide hb
    clear hb
    go_wp2_with fail
    go_ret2
    exact ⟨rfl, B2.out⟩
  · obtain ⟨k, hk⟩ : ∃ k, ab q L = k + 1 := ⟨ab q L - 1, by omega⟩
    have hlt : k < L.length := by have := ab_le q L; omega
    obtain ⟨⟨N, V⟩, hp⟩ : ∃ p, L[k]? = some p := ⟨_, List.getElem?_eq_getElem hlt⟩
    have e1 : atS q L = V := by unfold atS; rw [if_neg h0, hk, Nat.add_sub_cancel, hp]
    have e2 : atB q L = true := by unfold atB; rw [hk]; simp
    rw [e1, e2]
    rw [hk, bIS] at HK
    obtain ⟨g, off, rfl, _, q2⟩ := hc k _ hp
    dsimp only at q2
    have HQ2 := hide q2
    have k0 : (0 : Int) ≤ (k : Int) := by omega
    have k1 : (k : Int) < (L.length : Int) := by omega
    have d1 : decide ((k : Int) < 0) = false := decide_eq_false (by omega)
    clear e1 e2 h0 hc hr hl hp hk q2 hlt
    go_enter Tryz.func102, Tryz.ntmps102
    go_wp2_with fail
    refine HK.out.mono ?_
    rintro e w2 ⟨rfl, hb⟩
    have z2 := (hb.cell (World.block_lt_of_cell? _ _ HQ2.out)).trans HQ2.out
    have B2 := hide hb
    clear hb
    go_wp2_with fail
    go_ret2
    exact ⟨rfl, B2.out⟩
end Go.Proofs.YtgeholiagcckoaaGreatDoor
namespace Go.Proofs.YtgeholiagcckoaaGreatDoor
open Go.RowKit Go.Shelf

/-- One version more in a row of one's own. -/
theorem row_push {w wr W3 w4 : World} {o : Value} {k : Nat} {K : List Ver} {p : Ver} (hB : Below w.heap.size w wr) (hO : OR wr w.heap.size 180 2 o k (vc K)) (hW3 : wr.alloc (.cells #[.int .i64 p.1, .string ⟨p.2.toArray⟩] 180) = W3)
    (r2 : W3.grownBy w4 o.ownBlock) : Below w.heap.size w w4 := by
  have hb3 : Below wr.heap.size wr W3 := by rw [← hW3]; exact (Below.refl _ _).alloc (Nat.le_refl _) _
  have l3 := hB.trans (hb3.mono hB.size)
  refine ⟨r2.os.trans l3.os, r2.tape.trans l3.tape, r2.output.trans l3.output, Nat.le_trans l3.size r2.size, fun j hj => (r2.block j (Nat.lt_of_lt_of_le hj l3.size) (fun e => ?_)).trans (l3.block j hj)⟩
  have := ((hO.later hb3).lt e.symm).1
  omega
theorem vc_snoc (K : List Ver) (p : Ver) : vc K ++ [.int .i64 p.1, .string ⟨p.2.toArray⟩] = vc (K ++ [p]) := by rw [vc_app]; rfl
set_option maxRecDepth 100000 in
set_option maxHeartbeats 2000000 in
theorem copy_any (v : Value) (L : List Ver) (w : World) (hv : RV w v L) (hl : L.length ≤ 5864062014804) :
    Calls Tryz.prog 113 #[v] w fun e w' => ∃ v', e = .returned v' ∧ OR w' w.heap.size 180 2 v' L.length (vc L) ∧ Below w.heap.size w w' := by
  obtain ⟨a, cap, rfl, hc⟩ := hv
  obtain ⟨i0, hi, hiz⟩ := Option.map_eq_some_iff.1 Tryz.infoVersion
  simp only [Prod.mk.injEq] at hiz
  obtain ⟨hz0, hz1, hz2⟩ := hiz
  have HI := hide (And.intro hi (And.intro hz0 (And.intro hz1 hz2)))
  have HC := hide hc
  have HL := hide hl
  clear hc hl hi hz0 hz1 hz2
  go_enter Tryz.func113, Tryz.ntmps113
  go_wp2_with fail
  go_loopw [3, 4] (fun o i wr => ∃ (k : Nat) (x : Value), k ≤ L.length ∧ i = .int .i64 (k : Int) ∧ o = x ∧ Hid (OR wr w.heap.size 180 2 x k (vc (L.take k))) ∧ Hid (Below w.heap.size w wr)) (fun _ i _ => L.length - (intOf i).toNat)
  case atStart => exact ⟨0, _, Nat.zero_le _, rfl, rfl, hide (by rw [List.take_zero]; exact OR.nil _ _ _ _), hide (Below.refl _ _)⟩
  case round =>
    obtain ⟨k, o, hk, rfl, ho, HO, HB⟩ := hrel
    have ho' := ho.symm
    clear ho
    subst ho'
    by_cases hlt : k < L.length
    · obtain ⟨⟨N, V⟩, hp⟩ : ∃ p, L[k]? = some p := ⟨_, List.getElem?_eq_getElem hlt⟩
      obtain ⟨g, off, rfl, q1, q2⟩ := HC.out k _ hp
      have hd1 : decide ((k : Int) < (L.length : Int)) = true := by rw [decide_eq_true_eq]; omega
      have k0 : (0 : Int) ≤ (k : Int) := by omega
      have k1 : (k : Int) < (L.length : Int) := by omega
      have z1 := (HB.out.cell (World.block_lt_of_cell? _ _ q1)).trans q1
      have z2 := (HB.out.cell (World.block_lt_of_cell? _ _ q2)).trans q2
      dsimp only at z1 z2
      have wk : wrap64 ((k : Int) + 1) = (k : Int) + 1 := by have := HL.out; unfold wrap64; omega
      have HT : Hid (L.take (k + 1) = L.take k ++ [(N, V)]) := hide (by rw [List.take_add_one, hp]; rfl)
      obtain ⟨W3, hW3⟩ : ∃ W3, wr.alloc (.cells #[.int .i64 N, .string ⟨V.toArray⟩] 180) = W3 := ⟨_, rfl⟩
      have HW3 := hide hW3
      have HO3 : Hid (OR W3 w.heap.size 180 2 o k (vc (L.take k))) := hide (by rw [← hW3]; exact HO.out.later ((Below.refl _ _).alloc (Nat.le_refl _) _))
      have HN3 : Hid (∀ j u, ([.int .i64 N, .string ⟨V.toArray⟩] : List Value)[j]? = some u → W3.cell? ((⟨wr.heap.size, 0, none⟩ : Addr).add j) = some u) := hide (fun j u hj => by
        rw [← hW3, Addr.add_lit, cell_of_row _ wr.heap.size _ _ _ _ (alloc_newV wr _)]
        match j, hj with
        | 0, hj => cases hj; rfl
        | 1, hj => cases hj; rfl)
      have HZ3 : Hid (w.heap.size ≤ W3.heap.size) := hide (by rw [← hW3]; have := HB.out.size; simp; omega)
      clear hp q1 q2
      go_wp2_with (at_builtin; refine wp_append_or W3 w.heap.size 127 180 i0 _ 2 24 rfl _ _ rfl Tryz.underlying127 HI.out.1 HI.out.2.1 HI.out.2.2.1 HI.out.2.2.2 rfl (by decide) o k (vc (L.take k)) rfl HO3.out ⟨wr.heap.size, 0, none⟩ 1 [.int .i64 N, .string ⟨V.toArray⟩] rfl rfl HN3.out (by intro u hu; simp at hu; rcases hu with rfl | rfl <;> rfl) (by have := HL.out; unfold maxLen; omega) (by have := HL.out; omega) HZ3.out ?_)
      intro v' w4 r1 r2 _
      have HO4 : Hid (OR w4 w.heap.size 180 2 v' (k + 1) (vc (L.take (k + 1)))) := hide (by rw [HT.out, ← vc_snoc]; exact r1)
      have HB4 := hide (row_push (p := (N, V)) HB.out HO.out HW3.out r2)
      clear r1 r2 hW3 HW3 z1 z2
      go_wp2_with fail
      go_roundw
      case rel => exact ⟨k + 1, _, by omega, by go_num, rfl, HO4, HB4⟩
      case measure => rw [wk]; simp [intOf]; omega
    · have e : k = L.length := by omega
      subst e
      go_wp2_with fail
      go_ret
      exact ⟨_, rfl, by have := HO.out; rw [List.take_length] at this; exact this, HB.out⟩
end Go.Proofs.YtgeholiagcckoaaGreatDoor
namespace Go.Proofs.YtgeholiagcckoaaGreatDoor
open Go.RowKit Go.Shelf

theorem lastN_all {L : List Ver} {n : Int} (hr : Ris L) (h : lastN L < n) : ∀ (i : Nat) (p : Ver), L[i]? = some p → p.1 < n := fun i p hp => by
  have := ris_last L hr p (List.mem_of_getElem? hp); omega
/-- What a Put leaves. -/
def ptL (n : Int) (s : List UInt8) (L : List Ver) : List Ver := if lastN L < n then L ++ [(n, s)] else L
def ptE (n : Int) (L : List Ver) : Int := if lastN L < n then 0 else 1
theorem OR.slc {w : World} {B : Nat} {e : TypeId} {k : Nat} {v : Value} {n : Nat} {xs : List Value} (h : OR w B e k v n xs) : ∃ a cap, v = .slice a n cap := by
  rcases h.2 with ⟨rfl, rfl⟩ | ⟨g, off, cap, cur, rfl, _⟩ <;> exact ⟨_, _, rfl⟩
theorem ptL_no {n : Int} {s : List UInt8} {L : List Ver} (h : ¬ lastN L < n) : ptL n s L = L ∧ ptE n L = 1 := by unfold ptL ptE; rw [if_neg h, if_neg h]; exact ⟨rfl, rfl⟩
theorem ptL_yes {n : Int} {s : List UInt8} {L : List Ver} (h : lastN L < n) : ptL n s L = L ++ [(n, s)] ∧ ptE n L = 0 := by unfold ptL ptE; rw [if_pos h, if_pos h]; exact ⟨rfl, rfl⟩
set_option maxRecDepth 100000 in
set_option maxHeartbeats 2000000 in
theorem refPut_any (v : Value) (L : List Ver) (n : Int) (s : List UInt8) (B k0 : Nat) (w : World) (hv : OR w B 180 2 v L.length (vc L)) (hk : LK L k0) (hl : k0 < 5864062014804) (hB : B ≤ w.heap.size) :
    Calls Tryz.prog 99 #[v, .int .i64 n, .string ⟨s.toArray⟩] w fun e w' => ∃ v', e = .returned (.tuple #[v', .int .i64 (ptE n L)]) ∧ OR w' B 180 2 v' (ptL n s L).length (vc (ptL n s L)) ∧ Below w.heap.size w w' ∧ (∀ g, v'.ownBlock = some g → v.ownBlock = some g ∨ w.heap.size ≤ g) := by
  have HOR := hide hv
  have HRV := hide hv.rv
  obtain ⟨a, cap, rfl, hc⟩ := hv.rv
  obtain ⟨i0, hi, hiz⟩ := Option.map_eq_some_iff.1 Tryz.infoVersion
  simp only [Prod.mk.injEq] at hiz
  obtain ⟨hz0, hz1, hz2⟩ := hiz
  have HI := hide (And.intro hi (And.intro hz0 (And.intro hz1 hz2)))
  have HC := hide hc
  have HL : Hid (L.length < 5864062014804) := hide (by have := hk.len; omega)
  have HK := hide hk
  have HBB := hide hB
  clear hc hl hi hz0 hz1 hz2 hv hk hB
  by_cases hn0 : n < 0
  · have e0 : ¬ lastN L < n := by have := lastN_lo HK.out.pos; omega
    have d0 : decide (n < 0) = true := decide_eq_true hn0
    have HP := hide (ptL_no (s := s) e0)
    clear e0
    go_enter Tryz.func99, Tryz.ntmps99
    go_wp2_with fail
    go_ret2
    rw [HP.out.1, HP.out.2]
    exact ⟨_, rfl, HOR.out, Below.refl _ _, fun g hg => .inl hg⟩
  · have d0 : decide (n < 0) = false := decide_eq_false hn0
    go_enter Tryz.func99, Tryz.ntmps99
    go_wp2_with fail
    go_loopw [8] (fun i wr => ∃ k : Nat, k ≤ L.length ∧ i = .int .i64 (k : Int) ∧ Hid (∀ (j : Nat) (p : Ver), j < k → L[j]? = some p → p.1 < n) ∧ Hid (Below w.heap.size w wr)) (fun i _ => L.length - (intOf i).toNat)
    case atStart => exact ⟨0, Nat.zero_le _, rfl, hide (fun j p hj => by omega), hide (Below.refl _ _)⟩
    case round =>
      obtain ⟨k, hk, rfl, HS, HB⟩ := hrel
      by_cases hlt : k < L.length
      · obtain ⟨⟨N, V⟩, hp⟩ : ∃ p, L[k]? = some p := ⟨_, List.getElem?_eq_getElem hlt⟩
        obtain ⟨g, off, rfl, q1, _⟩ := HC.out k _ hp
        have hd1 : decide ((k : Int) < (L.length : Int)) = true := by rw [decide_eq_true_eq]; omega
        have k0 : (0 : Int) ≤ (k : Int) := by omega
        have k1 : (k : Int) < (L.length : Int) := by omega
        have z1 := (HB.out.cell (World.block_lt_of_cell? _ _ q1)).trans q1
        dsimp only at z1
        have wk : wrap64 ((k : Int) + 1) = (k : Int) + 1 := by have := HL.out; unfold wrap64; omega
        by_cases hN : n ≤ N
        · have hd2 : decide (n ≤ N) = true := decide_eq_true hN
          have e0 : ¬ lastN L < n := by have := ris_last L HK.out.ris _ (List.mem_of_getElem? hp); dsimp only at this; omega
          have HP := hide (ptL_no (s := s) e0)
          have HO2 := hide (HOR.out.later HB.out)
          clear hp q1 e0
          go_wp2_with fail
          go_ret2
          rw [HP.out.1, HP.out.2]
          exact ⟨_, rfl, HO2.out, HB.out, fun g hg => .inl hg⟩
        · have hd2 : decide (n ≤ N) = false := decide_eq_false hN
          have HS2 : Hid (∀ (j : Nat) (p : Ver), j < k + 1 → L[j]? = some p → p.1 < n) := hide (fun j p hj hjp => by
            by_cases e : j = k
            · subst e; rw [hp] at hjp; cases hjp; dsimp only; omega
            · exact HS.out j p (by omega) hjp)
          clear hp q1
          go_wp2_with fail
          go_roundw
          case rel => exact ⟨k + 1, by omega, by go_num, HS2, HB⟩
          case measure => rw [wk]; simp [intOf]; omega
      · have e : k = L.length := by omega
        subst e
        have e0 : lastN L < n := by
          rcases snoc_cases L with e | ⟨K, p, e⟩
          · rw [e, lastN_nil]; omega
          · have := HS.out K.length p (by rw [e]; simp) (by rw [e]; simp)
            rw [e, lastN_snoc]; exact this
        have HRB := hide (HRV.out.later HB.out)
        have HP := hide (ptL_yes (s := s) e0)
        clear e0
        go_wp2_with fail
        refine (copy_any _ L wr HRB.out (by have := HL.out; omega)).mono ?_
        rintro e w2 ⟨v2, rfl, ho2, hb2⟩
        have HB2 := hide (HB.out.trans (hb2.mono HB.out.size))
        have HO2 := hide ho2
        have HZ := hide HB.out.size
        have HZ2 := hide hb2.size
        obtain ⟨W3, hW3⟩ : ∃ W3, w2.alloc (.cells #[.int .i64 n, .string ⟨s.toArray⟩] 180) = W3 := ⟨_, rfl⟩
        have HW3 := hide hW3
        have HO3 : Hid (OR W3 wr.heap.size 180 2 v2 L.length (vc L)) := hide (by rw [← hW3]; exact HO2.out.later ((Below.refl _ _).alloc (Nat.le_refl _) _))
        have HN3 : Hid (∀ j u, ([.int .i64 n, .string ⟨s.toArray⟩] : List Value)[j]? = some u → W3.cell? ((⟨w2.heap.size, 0, none⟩ : Addr).add j) = some u) := hide (fun j u hj => by
          rw [← hW3, Addr.add_lit, cell_of_row _ w2.heap.size _ _ _ _ (alloc_newV w2 _)]
          match j, hj with
          | 0, hj => cases hj; rfl
          | 1, hj => cases hj; rfl)
        have HZ3 : Hid (wr.heap.size ≤ W3.heap.size) := hide (by rw [← hW3]; have := HZ2.out; simp; omega)
        clear hb2 ho2
        go_wp2_with (at_builtin; refine wp_append_or W3 wr.heap.size 127 180 i0 _ 2 24 rfl _ _ rfl Tryz.underlying127 HI.out.1 HI.out.2.1 HI.out.2.2.1 HI.out.2.2.2 rfl (by decide) v2 L.length (vc L) rfl HO3.out ⟨w2.heap.size, 0, none⟩ 1 [.int .i64 n, .string ⟨s.toArray⟩] rfl rfl HN3.out (by intro u hu; simp at hu; rcases hu with rfl | rfl <;> rfl) (by have := HL.out; unfold maxLen; omega) (by have := HL.out; omega) HZ3.out ?_)
        intro v' w4 r1 r2 _
        have HFR : Hid (∀ g, v'.ownBlock = some g → w.heap.size ≤ g) := hide (fun g hg => Nat.le_trans HZ.out (r1.lt hg).1)
        have HO4 : Hid (OR w4 B 180 2 v' (L ++ [(n, s)]).length (vc (L ++ [(n, s)]))) := hide (by rw [← vc_snoc, List.length_append]; exact r1.low (by have := HBB.out; have := HZ.out; omega))
        have HB4 : Hid (Below w.heap.size w w4) := hide (row_push (p := (n, s)) HB2.out (HO2.out.low HZ.out) HW3.out r2)
        clear r1 r2 hW3 HW3
        go_wp2_with fail
        go_ret2
        rw [HP.out.1, HP.out.2]
        exact ⟨_, rfl, HO4.out, HB4.out, fun g hg => .inr (HFR.out g hg)⟩
set_option maxRecDepth 100000 in
set_option maxHeartbeats 1000000 in
theorem refLast_any (v : Value) (L : List Ver) (w : World) (hv : RV w v L) (hr : Ris L) (hm : ∀ p ∈ L, p.1 ≤ 9223372036854775807) (hl : L.length ≤ 4611686018427387904) :
    Calls Tryz.prog 103 #[v] w fun e w' => e = .returned (.tuple #[.string ⟨(laP L).2.toArray⟩, .int .i64 (laP L).1, .bool (laB L)]) ∧ Below w.heap.size w w' := by
  have HK := hide (refCounts_any v L 9223372036854775807 w hv hr hl)
  rw [ab_max L hm] at HK
  obtain ⟨a, cap, rfl, hc⟩ := hv
  rcases Nat.eq_zero_or_pos L.length with h0 | h0
  · obtain rfl := List.eq_nil_of_length_eq_zero h0
    rw [show bI ([] : List Ver).length = -1 from rfl] at HK
    show Calls _ _ _ _ fun e w' => e = .returned (.tuple #[.string ⟨#[]⟩, .int .i64 0, .bool false]) ∧ _
    clear h0 hc hr hl hm
    go_enter Tryz.func103, Tryz.ntmps103
    go_wp2_with fail
    refine HK.out.mono ?_
    rintro e w2 ⟨rfl, hb⟩
    have B2 := hide hb
    clear hb
    go_wp2_with fail
    go_ret3
    exact ⟨rfl, B2.out⟩
  · obtain ⟨k, hk⟩ : ∃ k, L.length = k + 1 := ⟨L.length - 1, by omega⟩
    obtain ⟨⟨N, V⟩, hp⟩ : ∃ p, L[k]? = some p := ⟨_, List.getElem?_eq_getElem (by omega)⟩
    have e1 : laP L = (N, V) := by unfold laP; rw [hk, Nat.add_sub_cancel, hp]
    have e2 : laB L = true := decide_eq_true h0
    rw [e1, e2]
    have e3 : bI L.length = (k : Int) := by rw [hk, bIS]
    rw [e3] at HK
    obtain ⟨g, off, rfl, q1, q2⟩ := hc k _ hp
    dsimp only at q1 q2 ⊢
    have HQ1 := hide q1
    have HQ2 := hide q2
    have k0 : (0 : Int) ≤ (k : Int) := by omega
    have k1 : (k : Int) < (L.length : Int) := by omega
    have d1 : decide ((k : Int) < 0) = false := decide_eq_false (by omega)
    obtain ⟨ln, hln⟩ : ∃ ln, ln = L.length := ⟨_, rfl⟩
    rw [← hln] at k1 HK ⊢
    clear e1 e2 e3 h0 hc hr hl hp hk q1 q2 hm hln
    go_enter Tryz.func103, Tryz.ntmps103
    go_wp2_with fail
    refine HK.out.mono ?_
    rintro e w2 ⟨rfl, hb⟩
    have z1 := (hb.cell (World.block_lt_of_cell? _ _ HQ1.out)).trans HQ1.out
    have z2 := (hb.cell (World.block_lt_of_cell? _ _ HQ2.out)).trans HQ2.out
    have B2 := hide hb
    clear hb
    go_wp2_with fail
    go_quiet (fail)
    go_wp2_with fail
    go_ret3
    exact ⟨rfl, below_dq B2.out _⟩
end Go.Proofs.YtgeholiagcckoaaGreatDoor
namespace Go.Proofs.YtgeholiagcckoaaGreatDoor
open Go.RowKit Go.Shelf

theorem tkdr_lo {L : List Ver} {i m : Nat} (h : i < m) : (L.take (i + 1)).drop m = [] := by
  apply List.drop_eq_nil_of_le; rw [List.length_take]; omega
theorem tkdr_hi {L : List Ver} {i m : Nat} {p : Ver} (h : m ≤ i) (hp : L[i]? = some p) : (L.take (i + 1)).drop m = (L.take i).drop m ++ [p] := by
  have hlt := (List.getElem?_eq_some_iff.1 hp).1
  rw [List.take_add_one, hp, List.drop_append_of_le_length (by rw [List.length_take]; omega)]; rfl
theorem tkdr_len {L : List Ver} {i m : Nat} (hi : i ≤ L.length) : ((L.take i).drop m).length = i - m := by
  rw [List.length_drop, List.length_take, Nat.min_eq_left hi]
theorem ris_le {L : List Ver} (hr : Ris L) {i j : Nat} {p q : Ver} (hp : L[i]? = some p) (hq : L[j]? = some q) (h : i ≤ j) : p.1 ≤ q.1 := by
  have a := ab_self L j q hr hq
  exact ab_lo (n := q.1) (by omega) hp
theorem ris_lt {L : List Ver} (hr : Ris L) {i j : Nat} {p q : Ver} (hp : L[i]? = some p) (hq : L[j]? = some q) (h : i < j) : p.1 < q.1 := by
  have a := ab_self L i p hr hp
  exact ab_hi (n := p.1) hr (by omega) hq
set_option maxRecDepth 100000 in
set_option maxHeartbeats 2000000 in
theorem refPrune_any (v : Value) (L : List Ver) (n : Int) (B k0 : Nat) (w : World) (hv : OR w B 180 2 v L.length (vc L)) (hk : LK L k0) (hl : k0 ≤ 5864062014804) (hB : B ≤ w.heap.size) :
    Calls Tryz.prog 104 #[v, .int .i64 n] w fun e w' => ∃ v', e = .returned (.tuple #[v', .int .i64 ((ab n L - 1 : Nat) : Int)]) ∧ OR w' B 180 2 v' (L.drop (ab n L - 1)).length (vc (L.drop (ab n L - 1))) ∧ Below w.heap.size w w' ∧ (∀ g, v'.ownBlock = some g → v.ownBlock = some g ∨ w.heap.size ≤ g) := by
  have HOR := hide hv
  have HK := hide (refCounts_any v L n w hv.rv hk.ris (by have := hk.len; omega))
  obtain ⟨a, cap, rfl, hc⟩ := hv.rv
  obtain ⟨i0, hi, hiz⟩ := Option.map_eq_some_iff.1 Tryz.infoVersion
  simp only [Prod.mk.injEq] at hiz
  obtain ⟨hz0, hz1, hz2⟩ := hiz
  have HI := hide (And.intro hi (And.intro hz0 (And.intro hz1 hz2)))
  have HC := hide hc
  have HL : Hid (L.length ≤ 5864062014804) := hide (by have := hk.len; omega)
  have HR := hide hk.ris
  have HBB := hide hB
  clear hc hl hi hz0 hz1 hz2 hv hk hB
  rcases Nat.eq_zero_or_pos (ab n L) with h0 | h0
  · rw [h0, show 0 - 1 = 0 from rfl, List.drop_zero]
    rw [h0, bI0] at HK
    clear h0
    go_enter Tryz.func104, Tryz.ntmps104
    go_wp2_with fail
    refine HK.out.mono ?_
    rintro e w2 ⟨rfl, hb⟩
    have B2 := hide hb
    have O2 := hide (HOR.out.later hb)
    clear hb
    go_wp2_with fail
    go_ret2
    exact ⟨_, rfl, O2.out, B2.out, fun g hg => .inl hg⟩
  · obtain ⟨m, hm⟩ : ∃ m, ab n L = m + 1 := ⟨ab n L - 1, by omega⟩
    have hml : m < L.length := by have := ab_le n L; omega
    rw [hm, Nat.add_sub_cancel]
    rw [hm, bIS] at HK
    obtain ⟨⟨M, MV⟩, hpm⟩ : ∃ p, L[m]? = some p := ⟨_, List.getElem?_eq_getElem hml⟩
    obtain ⟨g, off, rfl, qm, _⟩ := HC.out m _ hpm
    dsimp only at qm
    have HQM := hide qm
    have HPM := hide hpm
    have HML := hide hml
    have m0 : (0 : Int) ≤ (m : Int) := by omega
    have m1 : (m : Int) < (L.length : Int) := by omega
    have dm : decide ((m : Int) < 0) = false := decide_eq_false (by omega)
    clear hm h0 hpm qm hml
    go_enter Tryz.func104, Tryz.ntmps104
    go_wp2_with fail
    refine HK.out.mono ?_
    rintro e w2 ⟨rfl, hb⟩
    have B2 := hide hb
    clear hb HK
    go_wp2_with fail
    go_loopw [7, 8] (fun o i wr => ∃ (k : Nat) (x : Value), k ≤ L.length ∧ i = .int .i64 (k : Int) ∧ o = x ∧ Hid (OR wr w.heap.size 180 2 x ((L.take k).drop m).length (vc ((L.take k).drop m))) ∧ Hid (Below w.heap.size w wr)) (fun _ i _ => L.length - (intOf i).toNat)
    case atStart => exact ⟨0, _, Nat.zero_le _, rfl, rfl, hide (by rw [List.take_zero, List.drop_nil]; exact OR.nil _ _ _ _), B2⟩
    case round =>
      clear B2
      obtain ⟨k, o, hk, rfl, ho, HO, HB⟩ := hrel
      have ho' := ho.symm
      clear ho
      subst ho'
      by_cases hlt : k < L.length
      · obtain ⟨⟨N, V⟩, hp⟩ : ∃ p, L[k]? = some p := ⟨_, List.getElem?_eq_getElem hlt⟩
        obtain ⟨_, _, ea, q1, q2⟩ := HC.out k _ hp
        cases ea
        have hd1 : decide ((k : Int) < (L.length : Int)) = true := by rw [decide_eq_true_eq]; omega
        have k0 : (0 : Int) ≤ (k : Int) := by omega
        have k1 : (k : Int) < (L.length : Int) := by omega
        have z1 := (HB.out.cell (World.block_lt_of_cell? _ _ q1)).trans q1
        have z2 := (HB.out.cell (World.block_lt_of_cell? _ _ q2)).trans q2
        have zm := (HB.out.cell (World.block_lt_of_cell? _ _ HQM.out)).trans HQM.out
        dsimp only at z1 z2
        have wk : wrap64 ((k : Int) + 1) = (k : Int) + 1 := by have := HL.out; unfold wrap64; omega
        by_cases hkm : m ≤ k
        · have hd2 : decide (M ≤ N) = true := decide_eq_true (ris_le HR.out HPM.out hp hkm)
          have HT : Hid ((L.take (k + 1)).drop m = (L.take k).drop m ++ [(N, V)]) := hide (tkdr_hi hkm hp)
          have HLK : Hid (((L.take k).drop m).length ≤ L.length) := hide (by rw [tkdr_len hk]; omega)
          obtain ⟨K, hK⟩ : ∃ K, K = (L.take k).drop m := ⟨_, rfl⟩
          rw [← hK] at HO HT HLK
          have HLK2 : Hid (K.length < L.length) := hide (by rw [hK, tkdr_len hk]; omega)
          clear hK
          clear hp q1 q2
          go_wp2_with fail
          go_quiet (fail)
          have HBq := hide (below_dq HB.out nq)
          have HOq := hide (HO.out.later (below_dq (Below.refl _ wr) nq))
          have y1 : (wr.drewN nq).cell? ⟨g, off + k * 2, none⟩ = some (.int .i64 N) := z1
          have y2 : (wr.drewN nq).cell? ⟨g, off + k * 2 + 1, none⟩ = some (.string ⟨V.toArray⟩) := z2
          clear z1 z2 zm HO HB
          generalize wr.drewN nq = wq at *
          obtain ⟨W3, hW3⟩ : ∃ W3, wq.alloc (.cells #[.int .i64 N, .string ⟨V.toArray⟩] 180) = W3 := ⟨_, rfl⟩
          have HW3 := hide hW3
          have HO3 : Hid (OR W3 w.heap.size 180 2 o K.length (vc K)) := hide (by rw [← hW3]; exact HOq.out.later ((Below.refl _ _).alloc (Nat.le_refl _) _))
          have HN3 : Hid (∀ j u, ([.int .i64 N, .string ⟨V.toArray⟩] : List Value)[j]? = some u → W3.cell? ((⟨wq.heap.size, 0, none⟩ : Addr).add j) = some u) := hide (fun j u hj => by
            rw [← hW3, Addr.add_lit, cell_of_row _ wq.heap.size _ _ _ _ (alloc_newV wq _)]
            match j, hj with
            | 0, hj => cases hj; rfl
            | 1, hj => cases hj; rfl)
          have HZ3 : Hid (w.heap.size ≤ W3.heap.size) := hide (by rw [← hW3]; have := HBq.out.size; simp; omega)
          go_wp2_with (at_builtin; refine wp_append_or W3 w.heap.size 127 180 i0 _ 2 24 rfl _ _ rfl Tryz.underlying127 HI.out.1 HI.out.2.1 HI.out.2.2.1 HI.out.2.2.2 rfl (by decide) o K.length (vc K) rfl HO3.out ⟨wq.heap.size, 0, none⟩ 1 [.int .i64 N, .string ⟨V.toArray⟩] rfl rfl HN3.out (by intro u hu; simp at hu; rcases hu with rfl | rfl <;> rfl) (by have := HL.out; have := HLK2.out; unfold maxLen; omega) (by have := HL.out; have := HLK2.out; omega) HZ3.out ?_)
          intro v' w4 r1 r2 _
          have HO4 : Hid (OR w4 w.heap.size 180 2 v' ((L.take (k + 1)).drop m).length (vc ((L.take (k + 1)).drop m))) := hide (by rw [HT.out, ← vc_snoc, List.length_append]; exact r1)
          have HB4 := hide (row_push (p := (N, V)) HBq.out HOq.out HW3.out r2)
          clear r1 r2 hW3 HW3 y1 y2
          go_wp2_with fail
          go_roundw
          case rel => exact ⟨k + 1, _, by omega, by go_num, rfl, HO4, HB4⟩
          case measure => rw [wk]; simp [intOf]; omega
        · have hd2 : decide (M ≤ N) = false := decide_eq_false (by have := ris_lt HR.out hp HPM.out (show k < m by omega); dsimp only at this; omega)
          have HO4 : Hid (OR wr w.heap.size 180 2 o ((L.take (k + 1)).drop m).length (vc ((L.take (k + 1)).drop m))) := hide (by
            have := HO.out
            rw [show (L.take k).drop m = [] from List.drop_eq_nil_of_le (by rw [List.length_take]; omega)] at this
            rw [tkdr_lo (by omega)]; exact this)
          clear hp q1 q2 HO
          go_wp2_with fail
          go_quiet (fail)
          have HBq := hide (below_dq HB.out nq)
          have HOq := hide (HO4.out.later (below_dq (Below.refl _ wr) nq))
          go_wp2_with fail
          go_roundw
          case rel => exact ⟨k + 1, _, by omega, by go_num, rfl, HOq, HBq⟩
          case measure => rw [wk]; simp [intOf]; omega
      · have e : k = L.length := by omega
        subst e
        have HO5 := HO.out
        rw [List.take_length] at HO5
        obtain ⟨ao, co, rfl⟩ := HO5.slc
        have HFR : Hid (∀ g, (Value.slice ao (L.drop m).length co).ownBlock = some g → w.heap.size ≤ g) := hide (fun g hg => (HO5.lt hg).1)
        have HO6 := hide (HO5.low (C := B) HBB.out)
        have hlen : (L.drop m).length = L.length - m := List.length_drop
        have ws : wrap64 ((L.length : Int) - ((L.drop m).length : Int)) = (m : Int) := by
          rw [hlen]; have := HL.out; have := HML.out; unfold wrap64; omega
        obtain ⟨K, hK⟩ : ∃ K, K = L.drop m := ⟨_, rfl⟩
        rw [← hK] at HO6 HFR ws ⊢
        have HKK := hide hK
        clear hlen HO HO5 hK
        go_wp2_with fail
        go_ret2
        rw [← HKK.out]
        refine ⟨.slice ao K.length co, ?_, HO6.out, HB.out, fun g hg => .inr (HFR.out g hg)⟩
        show Ending.returned (.tuple #[.slice ao K.length co, .int .i64 (wrap64 ((L.length : Int) - (K.length : Int)))]) = _
        rw [ws]
end Go.Proofs.YtgeholiagcckoaaGreatDoor
namespace Go.Proofs.YtgeholiagcckoaaGreatDoor
open Go.RowKit Go.Shelf

theorem retI {a b : Int} (h : a = b) : Ending.returned (.int .i64 a) = .returned (.int .i64 b) := by rw [h]
theorem pick_eq (k : Int) {n : Int} (h : 0 < n) : -n < k.tmod n ∧ k.tmod n < n ∧ k % n = if k.tmod n < 0 then k.tmod n + n else k.tmod n := by
  have h1 := Int.lt_tmod_of_pos k h
  have h2 := Int.tmod_lt_of_pos k h
  refine ⟨h1, h2, ?_⟩
  have e : (k.tmod n) % n = k % n := by rw [Int.tmod_def, Int.sub_mul_emod_self_left]
  rw [← e]
  split
  · rw [← Int.add_emod_right, Int.emod_eq_of_lt (by omega) (by omega)]
  · rw [Int.emod_eq_of_lt (by omega) (by omega)]
theorem pick_any (k n : Int) (w : World) (h1 : 0 < n) (h2 : n ≤ 4000000) :
    Calls Tryz.prog 45 #[.int .i64 k, .int .i64 n] w fun e w' => e = .returned (.int .i64 (k % n)) ∧ w' = w := by
  obtain ⟨t0, t1, t2⟩ := pick_eq k h1
  have H := hide t2
  clear t2
  have hn : ¬ n < 1 := by omega
  have hz : (n == 0) = false := by simp; omega
  have hz2 : ¬ n = 0 := by omega
  by_cases hneg : k.tmod n < 0
  · rw [if_pos hneg] at H
    go_enter Tryz.func45, Tryz.ntmps45
    go_wp2
    go_ret
    exact ⟨retI H.out.symm, rfl⟩
  · rw [if_neg hneg] at H
    go_enter Tryz.func45, Tryz.ntmps45
    go_wp2
    go_ret
    exact ⟨retI H.out.symm, rfl⟩
theorem OR.fr {W W' : World} {B B' cb k n : Nat} {L : List Ver} {t : TypeId} {v : Value} {xs : List Value} (h : OR W B' t k v n xs) (hf : Fr W W' cb) (hc : CH W B cb L) (h1 : t ≠ 104) (h2 : t ≠ 102) : OR W' B' t k v n xs := by
  refine h.kept (fun g hg => ?_)
  rcases h.2 with ⟨rfl, _⟩ | ⟨g', off, cap, cur, rfl, _, hh, _⟩
  · cases hg
  · obtain rfl : g' = g := Option.some.inj hg
    refine hf.block g' (Array.getElem?_eq_some_iff.1 hh).1 (fun e => ?_) (hc.row_ne hh h1)
    obtain ⟨_, u, em, hcb, _⟩ := hc
    rw [e, hcb] at hh
    injection hh with hh
    injection hh with _ hh _
    exact h2 hh.symm
/-- What a call leaves. -/
def stL (kind : Int) (n : Int) (s : List UInt8) (L : List Ver) : List Ver := if kind = 0 then ptL n s L else if kind = 3 then L.drop (ab n L - 1) else L
theorem ptL_LK {L : List Ver} {k : Nat} (h : LK L k) (n : Int) (s : List UInt8) (hn : n ≤ 9223372036854775807) : LK (ptL n s L) (k + 1) := by
  have := h.act (false, n, s) hn
  unfold doAc at this
  rw [if_neg (by simp)] at this
  exact this
theorem LK.up {L : List Ver} {k : Nat} (h : LK L k) : LK L (k + 1) := ⟨h.ris, h.pos, h.max, Nat.le_succ_of_le h.len⟩
theorem stL_LK {L : List Ver} {k : Nat} (h : LK L k) (kind n : Int) (s : List UInt8) (hn : n ≤ 9223372036854775807) : LK (stL kind n s L) (k + 1) := by
  unfold stL
  split
  · exact ptL_LK h n s hn
  · split
    · exact (h.drop _).up
    · exact h.up
/-- A chain, and its row. -/
structure CR (w0 : World) (cb k : Nat) (L : List Ver) (v : Value) (W : World) : Prop where
  ch : CH W cb cb L
  row : OR W w0.heap.size 180 2 v L.length (vc L)
  lk : LK L k
  low : Below w0.heap.size w0 W
  new : w0.heap.size ≤ cb
theorem CR.later {w0 W W' : World} {cb k : Nat} {L : List Ver} {v : Value} (h : CR w0 cb k L v W) (hb : Below W.heap.size W W') : CR w0 cb k L v W' :=
  ⟨h.ch.later hb, h.row.later hb, h.lk, h.low.trans (hb.mono h.low.size), h.new⟩
theorem ne_type {W : World} {b c : Nat} {cs cs' : Array Value} {t t' : TypeId} {fz fz' : Nat × Nat} (h1 : W.heap[b]? = some (.cells cs t fz)) (h2 : W.heap[c]? = some (.cells cs' t' fz')) (ht : t ≠ t') : b ≠ c := by
  intro e
  rw [e, h2] at h1
  injection h1 with h1
  injection h1 with _ h1 _
  exact ht h1.symm
theorem CH.blk {W : World} {B cb : Nat} {L : List Ver} (h : CH W B cb L) : ∃ cs, W.heap[cb]? = some (.cells cs 102 (0, 0)) := by
  obtain ⟨_, v, em, hh, _⟩ := h
  exact ⟨_, hh⟩
theorem OR.setB {W : World} {B b off k n : Nat} {e t : TypeId} {v u : Value} {xs : List Value} {cs : Array Value} {fz : Nat × Nat} (h : OR W B e k v n xs) (hb : W.heap[b]? = some (.cells cs t fz)) (ht : t ≠ e) : OR (W.setCell ⟨b, off, none⟩ u) B e k v n xs :=
  h.kept (fun g hg => Below.heap_setCell _ _ _ g (fun q => h.row_ne hb ht (by rw [hg, show g = b from q])))
theorem CH.setB {W : World} {B cb b off : Nat} {L : List Ver} {t : TypeId} {u : Value} {cs : Array Value} {fz : Nat × Nat} (h : CH W B cb L) (hb : W.heap[b]? = some (.cells cs t fz)) (h1 : t ≠ 104) (h2 : t ≠ 102) : CH (W.setCell ⟨b, off, none⟩ u) B cb L := by
  obtain ⟨q1, v, em, hh, ho, hn⟩ := h
  exact ⟨q1, v, em, (Below.heap_setCell _ _ _ cb (ne_type hh hb (Ne.symm h2))).trans hh, ho.setB hb h1, hn⟩
theorem CR.set {w0 W : World} {cb k b off : Nat} {L : List Ver} {v u : Value} {t : TypeId} {cs : Array Value} {fz : Nat × Nat} (h : CR w0 cb k L v W) (hb : W.heap[b]? = some (.cells cs t fz)) (h1 : t ≠ 104) (h2 : t ≠ 102) (h3 : t ≠ 180) (hw : w0.heap.size ≤ b) : CR w0 cb k L v (W.setCell ⟨b, off, none⟩ u) :=
  ⟨h.ch.setB hb h1 h2, h.row.setB hb h3, h.lk, h.low.setCell (p := ⟨b, off, none⟩) hw u, h.new⟩
theorem CR.up {w0 W : World} {cb k : Nat} {L : List Ver} {v : Value} (h : CR w0 cb k L v W) : CR w0 cb (k + 1) L v W := ⟨h.ch, h.row, h.lk.up, h.low, h.new⟩
theorem CR.other {w0 W W' : World} {c d k : Nat} {X L : List Ver} {v : Value} (h : CR w0 d k L v W) (hf : Fr W W' c) (hx : CH W c c X) (hc : w0.heap.size ≤ c) (hne : c ≠ d) (hap : Ap c d W) : CR w0 d k L v W' ∧ Ap c d W' := by
  obtain ⟨y1, _, y3⟩ := CH.other hf hx h.ch hne hap
  exact ⟨⟨y1, h.row.fr hf hx (by decide) (by decide), h.lk, h.low.trans ((hf.below hx).mono hc), h.new⟩, y3⟩
theorem Fr.blk {W W' : World} {B c b : Nat} {X : List Ver} {t : TypeId} {cs : Array Value} {fz : Nat × Nat} (hf : Fr W W' c) (hx : CH W B c X) (hb : W.heap[b]? = some (.cells cs t fz)) (h1 : t ≠ 104) (h2 : t ≠ 102) : W'.heap[b]? = some (.cells cs t fz) := by
  obtain ⟨_, hh⟩ := hx.blk
  exact (hf.block b (Array.getElem?_eq_some_iff.1 hb).1 (ne_type hb hh h2) (hx.row_ne hb h1)).trans hb
theorem Ap.setB {W : World} {c d b off : Nat} {u : Value} (h : Ap c d W) (h1 : c ≠ b) (h2 : d ≠ b) : Ap c d (W.setCell ⟨b, off, none⟩ u) :=
  h.same (by unfold World.cell?; rw [Below.heap_setCell _ _ _ c h1]) (by unfold World.cell?; rw [Below.heap_setCell _ _ _ d h2])
/-- What a step promises. -/
abbrev StepTo (w0 : World) (cb k : Nat) (L : List Ver) (w : World) (e : Ending) (w' : World) : Prop := ∃ a cap, e = .returned (.tuple #[.slice a L.length cap, .bool true]) ∧ CR w0 cb k L (.slice a L.length cap) w' ∧ Fr w w' cb
end Go.Proofs.YtgeholiagcckoaaGreatDoor
