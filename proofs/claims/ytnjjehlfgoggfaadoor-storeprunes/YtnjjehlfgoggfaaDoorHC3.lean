/-
  My own text: a chain of texts in memory; which version counts.
-/
import Derived.Test.YtnjjehlfgoggfaaDoorHC2
import Derived.Test.YtnjjehlfgoggfaaDoorErrV
import Derived.BigQuiet
import Derived.Deep.QuietTactic
namespace Go.Proofs.YtnjjehlfgoggfaaDoor
open Go.RowKit

/-- A version: its number, its text. -/
abbrev Ver := Int × List UInt8
def vc : List Ver → List Value
  | [] => []
  | p :: r => .int .i64 p.1 :: .string ⟨p.2.toArray⟩ :: vc r
theorem vc_len : ∀ L : List Ver, (vc L).length = L.length * 2
  | [] => rfl
  | p :: r => by simp only [vc, List.length_cons, vc_len r]; omega
theorem vc_app : ∀ a b : List Ver, vc (a ++ b) = vc a ++ vc b
  | [], _ => rfl
  | p :: r, b => by simp only [List.cons_append, vc, vc_app r b]
theorem vc_at : ∀ (L : List Ver) (j : Nat) (p : Ver), L[j]? = some p → (vc L)[j * 2]? = some (.int .i64 p.1) ∧ (vc L)[j * 2 + 1]? = some (.string ⟨p.2.toArray⟩)
  | q :: r, 0, p, h => by
    obtain rfl : q = p := Option.some.inj h
    exact ⟨rfl, rfl⟩
  | q :: r, j + 1, p, h => by
    have := vc_at r j p h
    rw [show (j + 1) * 2 = j * 2 + 1 + 1 by omega]
    exact this
/-- Rising numbers. -/
def Ris : List Ver → Prop
  | [] => True
  | p :: r => (∀ q ∈ r, p.1 < q.1) ∧ Ris r
/-- How many are not above n. -/
def ab (n : Int) : List Ver → Nat
  | [] => 0
  | p :: r => if n < p.1 then 0 else ab n r + 1
theorem ab_le (n : Int) : ∀ L : List Ver, ab n L ≤ L.length
  | [] => Nat.le_refl _
  | p :: r => by
    have := ab_le n r
    unfold ab; split <;> simp only [List.length_cons] <;> omega
theorem ab_lo {n : Int} : ∀ {L : List Ver} {i : Nat} {p : Ver}, i < ab n L → L[i]? = some p → p.1 ≤ n
  | q :: r, i, p, h, hp => by
    unfold ab at h
    split at h
    · omega
    · match i, h, hp with
      | 0, _, hp => obtain rfl : q = p := Option.some.inj hp; omega
      | i + 1, h, hp => exact ab_lo (L := r) (by omega) hp
theorem ab_hi {n : Int} : ∀ {L : List Ver} {i : Nat} {p : Ver}, Ris L → ab n L ≤ i → L[i]? = some p → n < p.1
  | q :: r, i, p, hr, h, hp => by
    unfold ab at h
    split at h
    · match i, hp with
      | 0, hp => obtain rfl : q = p := Option.some.inj hp; assumption
      | i + 1, hp =>
        have := hr.1 p (List.mem_of_getElem? hp)
        omega
    · match i, h, hp with
      | 0, h, _ => omega
      | i + 1, h, hp => exact ab_hi (L := r) hr.2 (by omega) hp
/-- A chain in memory. -/
def CH (w : World) (B cb : Nat) (L : List Ver) : Prop :=
  B ≤ cb ∧ ∃ (v : Value) (em : Nat), w.heap[cb]? = some (.cells #[v, .int .i64 (em : Int)] 100 (0, 0)) ∧ OR w B 92 2 v L.length (vc L) ∧ v.ownBlock ≠ some cb ∧ em ≤ L.length
theorem CH.lt {w : World} {B cb : Nat} {L : List Ver} (h : CH w B cb L) : cb < w.heap.size := by
  obtain ⟨_, v, em, hh, _⟩ := h
  exact (Array.getElem?_eq_some_iff.1 hh).1
theorem CH.later {w w' : World} {B cb : Nat} {L : List Ver} (h : CH w B cb L) (hb : Below w.heap.size w w') : CH w' B cb L := by
  have hlt := h.lt
  obtain ⟨h1, v, em, hh, ho, hn⟩ := h
  exact ⟨h1, v, em, (hb.block cb hlt).trans hh, ho.later hb, hn⟩
/-- What its cells hold. -/
theorem CH.parts {w : World} {B cb : Nat} {L : List Ver} (h : CH w B cb L) : ∃ (a : Option Addr) (cap : Nat), w.cell? ⟨cb, 0, none⟩ = some (.slice a L.length cap) ∧ ∀ (i : Nat) (p : Ver), L[i]? = some p → ∃ g off, a = some ⟨g, off, none⟩ ∧ w.cell? ⟨g, off + i * 2, none⟩ = some (.int .i64 p.1) ∧ w.cell? ⟨g, off + i * 2 + 1, none⟩ = some (.string ⟨p.2.toArray⟩) := by
  obtain ⟨_, v, em, hh, ho, _⟩ := h
  have hc : w.cell? ⟨cb, 0, none⟩ = some v := by rw [cell_of_row w cb 0 _ _ _ hh]; rfl
  rcases ho.2 with ⟨rfl, h0⟩ | ⟨g, off, cap, cur, rfl, _, _, _, _, _, h5⟩
  · refine ⟨none, 0, by rw [hc, h0], fun i p hp => ?_⟩
    have := (List.getElem?_eq_some_iff.1 hp).1
    omega
  · refine ⟨_, cap, hc, fun i p hp => ⟨g, off, rfl, ?_, ?_⟩⟩
    · exact h5 _ _ (vc_at L i p hp).1
    · have := h5 _ _ (vc_at L i p hp).2
      rw [← Nat.add_assoc] at this; exact this
theorem below_dq {B : Nat} {a w : World} (h : Below B a w) (n : Nat) : Below B a (w.drewN n) := h.trans ⟨rfl, rfl, rfl, Nat.le_refl _, fun _ _ => rfl⟩
theorem Tryd.sizeVer : (Tryd.prog.info? 92).map (·.size) = some 2 := by kernel_rfl
set_option maxRecDepth 100000 in
set_option maxHeartbeats 1000000 in
/-- The test that above asks. -/
theorem aboveT_any (n : Int) (i bc bn B cb : Nat) (L : List Ver) (p : Ver) (w : World) (h : CH w B cb L) (hp : L[i]? = some p) (hc : w.cell? ⟨bc, 0, none⟩ = some (.pointer (some ⟨cb, 0, none⟩))) (hn : w.cell? ⟨bn, 0, none⟩ = some (.int .i64 n)) :
    Calls Tryd.prog 85 #[.int .i64 (i : Int), .pointer (some ⟨bc, 0, none⟩), .pointer (some ⟨bn, 0, none⟩)] w fun e w' => e = .returned (.bool (decide (n < p.1))) ∧ Below w.heap.size w w' := by
  have hil := (List.getElem?_eq_some_iff.1 hp).1
  obtain ⟨a, cap, c0, hL⟩ := h.parts
  obtain ⟨g, off, rfl, c1, _⟩ := hL i p hp
  have k0 : (0 : Int) ≤ (i : Int) := by omega
  have k1 : (i : Int) < (L.length : Int) := by omega
  clear hL h hp
  go_enter Tryd.func85, Tryd.ntmps85
  go_wp2_with fail
  go_quiet (fail)
  go_wp2_with fail
  go_ret
  exact ⟨rfl, below_dq (Below.refl _ _) _⟩
set_option maxRecDepth 100000 in
set_option maxHeartbeats 1000000 in
/-- How many are not above n. -/
theorem above_any (n : Int) (B cb : Nat) (L : List Ver) (w : World) (h : CH w B cb L) (hr : Ris L) (hl : L.length ≤ 4611686018427387904) :
    Calls Tryd.prog 72 #[.pointer (some ⟨cb, 0, none⟩), .int .i64 n] w fun e w' => e = .returned (.int .i64 (ab n L : Int)) ∧ Below w.heap.size w w' := by
  obtain ⟨W, hW⟩ : ∃ W, (w.alloc (.cells #[.pointer (some ⟨cb, 0, none⟩)] 66)).alloc (.cells #[.int .i64 n] 3) = W := ⟨_, rfl⟩
  have hb : Below w.heap.size w W := by rw [← hW]; exact ((Below.refl _ _).alloc (Nat.le_refl _) _).alloc (by simp) _
  have hcC : W.cell? ⟨w.heap.size, 0, none⟩ = some (.pointer (some ⟨cb, 0, none⟩)) := by rw [← hW]; simp
  have hcN : W.cell? ⟨w.heap.size + 1, 0, none⟩ = some (.int .i64 n) := by rw [← hW]; simp
  have hS := hide (search_any 85 #[.pointer (some ⟨w.heap.size, 0, none⟩), .pointer (some ⟨w.heap.size + 1, 0, none⟩)] (ab n L) L.length W hl (ab_le n L) (fun _ _ => rfl) (fun i W' hi hb' => by
    obtain ⟨p, hp⟩ : ∃ p, L[i]? = some p := ⟨_, List.getElem?_eq_getElem hi⟩
    have e : decide (ab n L ≤ i) = decide (n < p.1) := by
      by_cases hk : ab n L ≤ i
      · rw [decide_eq_true hk, decide_eq_true (ab_hi hr hk hp)]
      · rw [decide_eq_false hk, decide_eq_false (by have := ab_lo (n := n) (by omega) hp; omega)]
    rw [e]
    exact aboveT_any n i w.heap.size (w.heap.size + 1) B cb L p W' ((h.later hb).later hb') hp ((hb'.cell (World.block_lt_of_cell? _ _ hcC)).trans hcC) ((hb'.cell (World.block_lt_of_cell? _ _ hcN)).trans hcN)))
  have HB := hide hb
  obtain ⟨a, cap, c0, _⟩ := (h.later hb).parts
  clear hr h hb hcN
  go_enter Tryd.func72, Tryd.ntmps72
  go_wp2_with fail
  refine hS.out.mono ?_
  rintro e w2 ⟨rfl, hb2⟩
  have B2 := hide (HB.out.trans (hb2.mono HB.out.size))
  clear hb2 hW
  go_wp2_with fail
  go_ret
  exact ⟨rfl, B2.out⟩
end Go.Proofs.YtnjjehlfgoggfaaDoor
