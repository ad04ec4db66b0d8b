/-
  My own text: TC3, TC4 in one.
-/
import Derived.Test.YtechjcmolccdjaaDoorHC2
import Derived.Test.YtechjcmolccdjaaDoorErrV
import Derived.BigQuiet
import Derived.Deep.QuietTactic
namespace Go.Proofs.YtechjcmolccdjaaDoor.CT
open Go.RowKit

/-- A version: its number, its text. -/
abbrev Ver := Int × Int × Int × Int
def vc : List Ver → List Value
  | [] => []
  | p :: r => .int .i64 p.1 :: .int .i64 p.2.1 :: .int .u8 p.2.2.1 :: .int .u8 p.2.2.2 :: vc r
theorem vc_len : ∀ L : List Ver, (vc L).length = L.length * 4
  | [] => rfl
  | p :: r => by simp only [vc, List.length_cons, vc_len r]; omega
theorem vc_app : ∀ a b : List Ver, vc (a ++ b) = vc a ++ vc b
  | [], _ => rfl
  | p :: r, b => by simp only [List.cons_append, vc, vc_app r b]
theorem vc_at : ∀ (L : List Ver) (j : Nat) (p : Ver), L[j]? = some p → (vc L)[j * 4]? = some (.int .i64 p.1) ∧ (vc L)[j * 4 + 1]? = some (.int .i64 p.2.1) ∧ (vc L)[j * 4 + 2]? = some (.int .u8 p.2.2.1) ∧ (vc L)[j * 4 + 3]? = some (.int .u8 p.2.2.2)
  | q :: r, 0, p, h => by
    obtain rfl : q = p := Option.some.inj h
    exact ⟨rfl, rfl, rfl, rfl⟩
  | q :: r, j + 1, p, h => by
    have := vc_at r j p h
    rw [show (j + 1) * 4 = j * 4 + 1 + 1 + 1 + 1 by omega]
    exact this
/-- Rising numbers. -/
def Ris : List Ver → Prop
  | [] => True
  | p :: r => (∀ q ∈ r, p.1 < q.1) ∧ Ris r
/-- How many are not above n. -/
def ab (n : Int) : List Ver → Nat
  | [] => 0
  | p :: r => if n < p.1 then 0 else ab n r + 1
theorem ab_le (n : Int) : ∀ L : List Ver, ab n L ≤ L.length
  | [] => Nat.le_refl _
  | p :: r => by
    have := ab_le n r
    unfold ab; split <;> simp only [List.length_cons] <;> omega
theorem ab_lo {n : Int} : ∀ {L : List Ver} {i : Nat} {p : Ver}, i < ab n L → L[i]? = some p → p.1 ≤ n
  | q :: r, i, p, h, hp => by
    unfold ab at h
    split at h
    · omega
    · match i, h, hp with
      | 0, _, hp => obtain rfl : q = p := Option.some.inj hp; omega
      | i + 1, h, hp => exact ab_lo (L := r) (by omega) hp
theorem ab_hi {n : Int} : ∀ {L : List Ver} {i : Nat} {p : Ver}, Ris L → ab n L ≤ i → L[i]? = some p → n < p.1
  | q :: r, i, p, hr, h, hp => by
    unfold ab at h
    split at h
    · match i, hp with
      | 0, hp => obtain rfl : q = p := Option.some.inj hp; assumption
      | i + 1, hp =>
        have := hr.1 p (List.mem_of_getElem? hp)
        omega
    · match i, h, hp with
      | 0, h, _ => omega
      | i + 1, h, hp => exact ab_hi (L := r) hr.2 (by omega) hp
/-- A chain in memory. -/
def CH (w : World) (B cb : Nat) (L : List Ver) : Prop :=
  B ≤ cb ∧ ∃ (v : Value) (em : Nat), w.heap[cb]? = some (.cells #[v, .int .i64 (em : Int)] 80 (0, 0)) ∧ OR w B 92 4 v L.length (vc L) ∧ v.ownBlock ≠ some cb ∧ em ≤ L.length
theorem CH.lt {w : World} {B cb : Nat} {L : List Ver} (h : CH w B cb L) : cb < w.heap.size := by
  obtain ⟨_, v, em, hh, _⟩ := h
  exact (Array.getElem?_eq_some_iff.1 hh).1
theorem CH.later {w w' : World} {B cb : Nat} {L : List Ver} (h : CH w B cb L) (hb : Below w.heap.size w w') : CH w' B cb L := by
  have hlt := h.lt
  obtain ⟨h1, v, em, hh, ho, hn⟩ := h
  exact ⟨h1, v, em, (hb.block cb hlt).trans hh, ho.later hb, hn⟩
/-- What its cells hold. -/
theorem CH.parts {w : World} {B cb : Nat} {L : List Ver} (h : CH w B cb L) : ∃ (a : Option Addr) (cap : Nat), w.cell? ⟨cb, 0, none⟩ = some (.slice a L.length cap) ∧ ∀ (i : Nat) (p : Ver), L[i]? = some p → ∃ g off, a = some ⟨g, off, none⟩ ∧ w.cell? ⟨g, off + i * 4, none⟩ = some (.int .i64 p.1) ∧ w.cell? ⟨g, off + i * 4 + 1, none⟩ = some (.int .i64 p.2.1) ∧ w.cell? ⟨g, off + i * 4 + 2, none⟩ = some (.int .u8 p.2.2.1) ∧ w.cell? ⟨g, off + i * 4 + 3, none⟩ = some (.int .u8 p.2.2.2) := by
  obtain ⟨_, v, em, hh, ho, _⟩ := h
  have hc : w.cell? ⟨cb, 0, none⟩ = some v := by rw [cell_of_row w cb 0 _ _ _ hh]; rfl
  rcases ho.2 with ⟨rfl, h0⟩ | ⟨g, off, cap, cur, rfl, _, _, _, _, _, h5⟩
  · refine ⟨none, 0, by rw [hc, h0], fun i p hp => ?_⟩
    have := (List.getElem?_eq_some_iff.1 hp).1
    omega
  · refine ⟨_, cap, hc, fun i p hp => ⟨g, off, rfl, ?_, ?_, ?_, ?_⟩⟩
    · exact h5 _ _ (vc_at L i p hp).1
    · have := h5 _ _ (vc_at L i p hp).2.1
      rw [← Nat.add_assoc] at this; exact this
    · have := h5 _ _ (vc_at L i p hp).2.2.1
      rw [← Nat.add_assoc] at this; exact this
    · have := h5 _ _ (vc_at L i p hp).2.2.2
      rw [← Nat.add_assoc] at this; exact this
theorem below_dq {B : Nat} {a w : World} (h : Below B a w) (n : Nat) : Below B a (w.drewN n) := h.trans ⟨rfl, rfl, rfl, Nat.le_refl _, fun _ _ => rfl⟩
theorem Tryd.sizeVerT : (Tryd.prog.info? 92).map (·.size) = some 4 := by kernel_rfl
set_option maxRecDepth 100000 in
set_option maxHeartbeats 1000000 in
/-- The test that above asks. -/
theorem aboveT_any (n : Int) (i bc bn B cb : Nat) (L : List Ver) (p : Ver) (w : World) (h : CH w B cb L) (hp : L[i]? = some p) (hc : w.cell? ⟨bc, 0, none⟩ = some (.pointer (some ⟨cb, 0, none⟩))) (hn : w.cell? ⟨bn, 0, none⟩ = some (.int .i64 n)) :
    Calls Tryd.prog 77 #[.int .i64 (i : Int), .pointer (some ⟨bc, 0, none⟩), .pointer (some ⟨bn, 0, none⟩)] w fun e w' => e = .returned (.bool (decide (n < p.1))) ∧ Below w.heap.size w w' := by
  have hil := (List.getElem?_eq_some_iff.1 hp).1
  obtain ⟨a, cap, c0, hL⟩ := h.parts
  obtain ⟨g, off, rfl, c1, _⟩ := hL i p hp
  have k0 : (0 : Int) ≤ (i : Int) := by omega
  have k1 : (i : Int) < (L.length : Int) := by omega
  clear hL h hp
  go_enter Tryd.func77, Tryd.ntmps77
  go_wp2_with fail
  go_quiet (fail)
  go_wp2_with fail
  go_ret
  exact ⟨rfl, below_dq (Below.refl _ _) _⟩
set_option maxRecDepth 100000 in
set_option maxHeartbeats 1000000 in
/-- How many are not above n. -/
theorem above_any (n : Int) (B cb : Nat) (L : List Ver) (w : World) (h : CH w B cb L) (hr : Ris L) (hl : L.length ≤ 4611686018427387904) :
    Calls Tryd.prog 64 #[.pointer (some ⟨cb, 0, none⟩), .int .i64 n] w fun e w' => e = .returned (.int .i64 (ab n L : Int)) ∧ Below w.heap.size w w' := by
  obtain ⟨W, hW⟩ : ∃ W, (w.alloc (.cells #[.pointer (some ⟨cb, 0, none⟩)] 39)).alloc (.cells #[.int .i64 n] 3) = W := ⟨_, rfl⟩
  have hb : Below w.heap.size w W := by rw [← hW]; exact ((Below.refl _ _).alloc (Nat.le_refl _) _).alloc (by simp) _
  have hcC : W.cell? ⟨w.heap.size, 0, none⟩ = some (.pointer (some ⟨cb, 0, none⟩)) := by rw [← hW]; simp
  have hcN : W.cell? ⟨w.heap.size + 1, 0, none⟩ = some (.int .i64 n) := by rw [← hW]; simp
  have hS := hide (search_any 77 #[.pointer (some ⟨w.heap.size, 0, none⟩), .pointer (some ⟨w.heap.size + 1, 0, none⟩)] (ab n L) L.length W hl (ab_le n L) (fun _ _ => rfl) (fun i W' hi hb' => by
    obtain ⟨p, hp⟩ : ∃ p, L[i]? = some p := ⟨_, List.getElem?_eq_getElem hi⟩
    have e : decide (ab n L ≤ i) = decide (n < p.1) := by
      by_cases hk : ab n L ≤ i
      · rw [decide_eq_true hk, decide_eq_true (ab_hi hr hk hp)]
      · rw [decide_eq_false hk, decide_eq_false (by have := ab_lo (n := n) (by omega) hp; omega)]
    rw [e]
    exact aboveT_any n i w.heap.size (w.heap.size + 1) B cb L p W' ((h.later hb).later hb') hp ((hb'.cell (World.block_lt_of_cell? _ _ hcC)).trans hcC) ((hb'.cell (World.block_lt_of_cell? _ _ hcN)).trans hcN)))
  have HB := hide hb
  obtain ⟨a, cap, c0, _⟩ := (h.later hb).parts
  clear hr h hb hcN
  go_enter Tryd.func64, Tryd.ntmps64
  go_wp2_with fail
  refine hS.out.mono ?_
  rintro e w2 ⟨rfl, hb2⟩
  have B2 := hide (HB.out.trans (hb2.mono HB.out.size))
  clear hb2 hW
  go_wp2_with fail
  go_ret
  exact ⟨rfl, B2.out⟩
end Go.Proofs.YtechjcmolccdjaaDoor.CT
namespace Go.Proofs.YtechjcmolccdjaaDoor.CT
open Go.RowKit

theorem results_cell_tmp {fn : Func} {p q : Tmp} {ty : TypeId} (h : fn.results = #[.cell p ty, .tmp q]) (tmps : Array Value) (P : Program) (w : World) :
    (results fn tmps).run P w = ((asAddr (tmps.getD p undef)).run P w).andThen fun a w₁ => ((loadVar ty a).run P w₁).andThen fun v w₂ => .ok (.tuple #[v, tmps.getD q undef]) w₂ := by
  simp only [results, h]
  simp [Sem.run_bind, Result.andThen]
def vrC (p : Ver) : Array Value := #[.int .i64 p.1, .int .i64 p.2.1, .int .u8 p.2.2.1, .int .u8 p.2.2.2]
theorem setRowV {w : World} {g : Nat} {c c' : Array Value} (h : w.heap[g]? = some (.cells c 92 (0, 0))) : (w.setRow g c').heap[g]? = some (.cells c' 92 (0, 0)) := setRow_heap w g c c' _ _ h
theorem belowRow {B g : Nat} {w w' : World} {c : Array Value} (h : Below B w w') (hg : B ≤ g) : Below B w (w'.setRow g c) := by
  refine ⟨h.os, h.tape, h.output, by have := h.size; simp [World.setRow]; exact this, fun k hk => ?_⟩
  rw [setRow_other _ _ _ _ (by omega)]
  exact h.block k hk
theorem alloc_newV (w : World) (o : Obj) : (w.alloc o).heap[w.heap.size]? = some o := (MapKept.heap_alloc w o).1
set_option maxRecDepth 100000 in
set_option maxHeartbeats 1000000 in
theorem counts_no (n : Int) (B cb : Nat) (L : List Ver) (w : World) (h : CH w B cb L) (hr : Ris L) (hl : L.length ≤ 4611686018427387904) (h0 : ab n L = 0) :
    Calls Tryd.prog 41 #[.pointer (some ⟨cb, 0, none⟩), .int .i64 n] w fun e w' => e = .returned (.tuple #[.agg #[.int .i64 0, .int .i64 0, .int .u8 0, .int .u8 0], .bool false]) ∧ Below w.heap.size w w' := by
  have hb := (Below.refl w.heap.size w).alloc (Nat.le_refl _) (.cells #[.int .i64 0, .int .i64 0, .int .u8 0, .int .u8 0] 92)
  have HA := hide (above_any n B cb L _ (h.later hb) hr hl)
  rw [h0] at HA
  have HB := hide hb
  have K0 := hide (alloc_newV w (.cells #[.int .i64 0, .int .i64 0, .int .u8 0, .int .u8 0] 92))
  clear h hr hl h0 hb
  go_enter Tryd.func41, Tryd.ntmps41
  go_wp2_with fail
  refine HA.out.mono ?_
  rintro e w2 ⟨rfl, hb2⟩
  have B2 := hide (HB.out.trans (hb2.mono HB.out.size))
  have K2 := hide ((hb2.block w.heap.size (by simp)).trans K0.out)
  clear hb2 K0 HB HA
  go_wp2_with (refine wpList_store_row rfl 92 (.tmp 4) _ rfl w.heap.size #[.int .i64 0, .int .i64 0, .int .u8 0, .int .u8 0] rfl rfl _ _ K2.out Tryd.sizeVerT rfl (by simp [Value.oneCell']) ?_)
  refine bodyPost_ret (v := .tuple #[.agg #[.int .i64 0, .int .i64 0, .int .u8 0, .int .u8 0], .bool false]) ?_ rfl ⟨rfl, belowRow B2.out (Nat.le_refl _)⟩
  rw [results_cell_tmp rfl]
  simp only [asAddr]
  have hld := run_loadVar_row (P := Tryd.prog) (w2.setRow w.heap.size #[.int .i64 0, .int .i64 0, .int .u8 0, .int .u8 0]) w.heap.size 92 92 #[.int .i64 0, .int .i64 0, .int .u8 0, .int .u8 0] (0, 0) _ (setRowV K2.out) Tryd.underlying92 rfl Tryd.sizeVerT
  simp [Result.andThen, hld]
set_option maxRecDepth 100000 in
set_option maxHeartbeats 1000000 in
theorem counts_yes (n : Int) (B cb k : Nat) (L : List Ver) (p : Ver) (w : World) (h : CH w B cb L) (hr : Ris L) (hl : L.length ≤ 4611686018427387904) (h0 : ab n L = k + 1) (hp : L[k]? = some p) :
    Calls Tryd.prog 41 #[.pointer (some ⟨cb, 0, none⟩), .int .i64 n] w fun e w' => e = .returned (.tuple #[.agg #[.int .i64 p.1, .int .i64 p.2.1, .int .u8 p.2.2.1, .int .u8 p.2.2.2], .bool true]) ∧ Below w.heap.size w w' := by
  have hb := (Below.refl w.heap.size w).alloc (Nat.le_refl _) (.cells #[.int .i64 0, .int .i64 0, .int .u8 0, .int .u8 0] 92)
  have HA := hide (above_any n B cb L _ (h.later hb) hr hl)
  rw [h0] at HA
  have HC := hide (h.later hb)
  have HB := hide hb
  have K0 := hide (alloc_newV w (.cells #[.int .i64 0, .int .i64 0, .int .u8 0, .int .u8 0] 92))
  have hkl := (List.getElem?_eq_some_iff.1 hp).1
  have HP := hide hp
  clear h hr h0 hp hb
  have d1 : ((((k + 1 : Nat)) : Int) == 0) = false := by rw [beq_eq_false_iff_ne]; omega
  have k0 : (0 : Int) ≤ (k : Int) := by omega
  have k1 : (k : Int) < (L.length : Int) := by omega
  go_enter Tryd.func41, Tryd.ntmps41
  go_wp2_with fail
  refine HA.out.mono ?_
  rintro e w2 ⟨rfl, hb2⟩
  have B2 := hide (HB.out.trans (hb2.mono HB.out.size))
  have K2 := hide ((hb2.block w.heap.size (by simp)).trans K0.out)
  obtain ⟨a, cap, c0, hL⟩ := (HC.out.later hb2).parts
  obtain ⟨g, off, rfl, c1, c2, c3, c4⟩ := hL k p HP.out
  have HR : Hid (w2.rangeAt g (off + k * 4) (vrC p).toList) := hide (fun j u hj => by
    match j, hj with
    | 0, hj => cases hj; exact c1
    | 1, hj => cases hj; exact c2
    | 2, hj => cases hj; exact c3
    | 3, hj => cases hj; exact c4)
  clear hb2 HC hL K0 HB HA
  go_wp2_with (first
    | (refine wpList_load_mid rfl 92 _ rfl g (off + k * 4) rfl (vrC p).toList _ HR.out Tryd.underlying92 rfl Tryd.sizeVerT ?_; rw [Array.toArray_toList]; unfold vrC)
    | (refine wpList_store_row rfl 92 (.tmp 4) _ rfl w.heap.size #[.int .i64 p.1, .int .i64 p.2.1, .int .u8 p.2.2.1, .int .u8 p.2.2.2] rfl rfl _ _ K2.out Tryd.sizeVerT rfl (by simp [Value.oneCell']) ?_))
  refine bodyPost_ret (v := .tuple #[.agg #[.int .i64 p.1, .int .i64 p.2.1, .int .u8 p.2.2.1, .int .u8 p.2.2.2], .bool true]) ?_ rfl ⟨rfl, belowRow B2.out (Nat.le_refl _)⟩
  rw [results_cell_tmp rfl]
  simp only [asAddr]
  have hld := run_loadVar_row (P := Tryd.prog) (w2.setRow w.heap.size #[.int .i64 p.1, .int .i64 p.2.1, .int .u8 p.2.2.1, .int .u8 p.2.2.2]) w.heap.size 92 92 #[.int .i64 p.1, .int .i64 p.2.1, .int .u8 p.2.2.1, .int .u8 p.2.2.2] (0, 0) _ (setRowV K2.out) Tryd.underlying92 rfl Tryd.sizeVerT
  simp [Result.andThen, hld]
end Go.Proofs.YtechjcmolccdjaaDoor.CT
